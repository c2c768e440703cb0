/-
  The document's Sixth and Tagged.
-/
import Derived.Test.YtfjpkfhbmldmfaaGreatDoorRl8
import Derived.Test.YtfjpkfhbmldmfaaGreatDoorV4a
import Derived.Test.YtfjpkfhbmldmfaaGreatDoorRIs9
namespace Go.Proofs.YtfjpkfhbmldmfaaGreatDoor
open Go.RowKit
theorem b_eq (c:UInt8) (n:UInt8) (m:Int) (hm:m=(n.toNat:Int)):((c.toNat:Int)==m)=decide (c=n)∧((c.toNat:Int) != m)=!decide (c=n):=by
 have:((c.toNat:Int)==m)=decide (c=n):=by
  subst hm
  rw[Bool.eq_iff_iff,beq_iff_eq,decide_eq_true_eq,Int.natCast_inj,UInt8.toNat_inj]
 refine⟨this,?_⟩
 rw[bne,this]
def AllF (f:UInt8→Bool) (t:ByteArray) (a k:Nat):Prop:=∀j (h:j<t.size),a≤j→j<k→f t[j]=true
theorem AllF.step {f:UInt8→Bool} {t:ByteArray} {a k:Nat} (h:AllF f t a k) (hk:k<t.size) (hc:f t[k]=true):AllF f t a (k+1):=fun j hj h1 h2=>by
 rcases Nat.lt_or_ge j k with h'|h'
 ·exact h j hj h1 h'
 ·obtain rfl:j=k:=by omega
  exact hc
theorem AllF.none (f:UInt8→Bool) (t:ByteArray) (a:Nat):AllF f t a a:=fun j _ h1 h2=>absurd h1 (by omega)
theorem get_list (t:ByteArray) (k:Nat) (h:k<t.data.toList.length):t.data.toList[k]=t[k]'(by rw[len_list]at h;exact h):=rfl
theorem AllF.sp {f:UInt8→Bool} {t:ByteArray} {k:Nat} (h:AllF f t 0 k) (hk:k≤t.size) (hs:∀h:k<t.size,f t[k]=false):spB f t.data.toList=k:=
 spB_eq f _ k (by rw[len_list];exact hk) (fun j hj h'=>by rw[get_list];exact h j _ (Nat.zero_le _) h') (fun hj=>by rw[get_list];exact hs _)
open Go.RowKit
structure RwE (s:ByteArray) (R a e:Nat):Prop where
 ge:a≤e
 le:e≤s.size
 is:R=rowG e e (decide (a<e)) (s.data.toList.drop e)
 no:a<e→∀h:e<s.size,atB s[e]=false
structure RwK (s:ByteArray) (R e f k:Nat):Prop where
 fk:f≤k
 le:k≤s.size
 is:(k=f∧R=rowG e f false (s.data.toList.drop f))∨(f<k∧R=rowG k k true (s.data.toList.drop k))
theorem drop_at (s:ByteArray) (k:Nat) (h:k<s.size):s.data.toList.drop k=s[k]::s.data.toList.drop (k+1):=by
 rw[List.drop_eq_getElem_cons (by rw[len_list];exact h),get_list]
theorem drop_past (s:ByteArray) (k:Nat) (h:s.size≤k):s.data.toList.drop k=[]:=List.drop_eq_nil_of_le (by rw[len_list];exact h)
theorem RwE.start (s:ByteArray) (a:Nat) (ha:a≤s.size):RwE s (a+rowL (s.data.toList.drop a)) a a:=
 ⟨Nat.le_refl _,ha,by
  have:=rowG_shift a (s.data.toList.drop a) 0 0 false
  rw[decide_eq_false (Nat.lt_irrefl a)]
  rw[Nat.zero_add]at this
  unfold rowL
  omega,fun h=>absurd h (Nat.lt_irrefl a)⟩
theorem RwE.stop {s:ByteArray} {R a e:Nat} (h:RwE s R a e) (hae:a<e) (hc:∀h:e<s.size,s[e]≠46):R=e:=by
 have h1:=h.is
 rw[decide_eq_true hae]at h1
 rcases Nat.lt_or_ge e s.size with hl|hl
 ·rw[drop_at s e hl,rowG,if_neg (by rw[h.no hae hl];decide),if_neg (fun x=>hc hl x.1)]at h1
  exact h1
 ·rw[drop_past s e hl,rowG]at h1
  exact h1
theorem RwE.dot {s:ByteArray} {R a e:Nat} (h:RwE s R a e) (hae:a<e) (hl:e<s.size) (hc:s[e]=46):RwK s R e (e+1) (e+1):=
 ⟨Nat.le_refl _,hl,.inl ⟨rfl,by
  have h1:=h.is
  rw[decide_eq_true hae,drop_at s e hl,rowG,if_neg (by rw[h.no hae hl];decide),if_pos ⟨hc,rfl⟩]at h1
  exact h1⟩⟩
theorem RwE.first {s:ByteArray} {R a:Nat} (h:RwE s R a a):RwK s R a a a:=
 ⟨Nat.le_refl _,h.le,.inl ⟨rfl,by
  have h1:=h.is
  rw[decide_eq_false (Nat.lt_irrefl a)]at h1
  exact h1⟩⟩
theorem RwK.step {s:ByteArray} {R e f k:Nat} (h:RwK s R e f k) (hl:k<s.size) (hc:atB s[k]=true):RwK s R e f (k+1):=
 ⟨by have:=h.fk;omega,hl,.inr ⟨by have:=h.fk;omega,by
  rcases h.is with⟨rfl,h1⟩|⟨_,h1⟩
  ·rw[drop_at s k hl,rowG,if_pos hc]at h1
   exact h1
  ·rw[drop_at s k hl,rowG,if_pos hc]at h1
   exact h1⟩⟩
theorem RwK.none {s:ByteArray} {R e f:Nat} (h:RwK s R e f f) (hc:∀h:f<s.size,atB s[f]=false):R=e:=by
 rcases h.is with⟨_,h1⟩|⟨h0,_⟩
 ·rcases Nat.lt_or_ge f s.size with hl|hl
  ·rw[drop_at s f hl,rowG,if_neg (by rw[hc hl];decide),if_neg (by simp)]at h1
   exact h1
  ·rw[drop_past s f hl,rowG]at h1
   exact h1
 ·exact absurd h0 (Nat.lt_irrefl f)
theorem RwK.out {s:ByteArray} {R a e f k:Nat} (h:RwK s R e f k) (ha:a≤e) (he:e≤f) (hk:f<k) (hc:∀h:k<s.size,atB s[k]=false):RwE s R a k:=
 ⟨by omega,h.le,by
  rw[decide_eq_true (by omega)]
  rcases h.is with⟨h0,_⟩|⟨_,h1⟩
  ·omega
  ·exact h1,fun _=>hc⟩
end Go.Proofs.YtfjpkfhbmldmfaaGreatDoor
