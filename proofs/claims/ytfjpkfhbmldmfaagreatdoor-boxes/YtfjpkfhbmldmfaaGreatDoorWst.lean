/-
  The plain mathematics of Punycode's digits and of the bias: no Go in sight.
-/
import Derived.Test.YtfjpkfhbmldmfaaGreatDoorMk
import Derived.Test.YtfjpkfhbmldmfaaGreatDoorChk
import Derived.Shelf.SlSortCmp.NoneTotal
import Derived.Ground.SlsfProg
import Derived.Test.YtfjpkfhbmldmfaaGreatDoorProg
import Derived.Test.YtfjpkfhbmldmfaaGreatDoorNum
namespace Go.Proofs.YtfjpkfhbmldmfaaGreatDoor
def rn (l:List Int) (k:Nat):Int:=l.getD k 0
def ltW (l:List Int) (a b:Nat):Bool:=decide (rn l a<rn l b∨(rn l a=rn l b∧a<b))
def leW (l:List Int) (a b:Nat):Bool:=!ltW l b a
theorem leW_iff (l:List Int) (a b:Nat):leW l a b=true↔(rn l a<rn l b∨(rn l a=rn l b∧a≤b)):=by
 unfold leW ltW
 simp only[Bool.not_eq_true',decide_eq_false_iff_not]
 omega
theorem leW_trans (l:List Int) (a b c:Nat) (h1:leW l a b=true) (h2:leW l b c=true):leW l a c=true:=by
 rw[leW_iff]at*
 omega
theorem leW_total (l:List Int) (a b:Nat):(leW l a b||leW l b a)=true:=by
 rw[Bool.or_eq_true,leW_iff,leW_iff]
 omega
def wideK (l:List Int) (k:Nat):List Nat:=(List.range k).filter fun j=>decide (128≤rn l j)
theorem wideK_succ (l:List Int) (k:Nat):wideK l (k+1)=wideK l k++(if 128≤rn l k then [k] else []):=by
 unfold wideK
 rw[List.range_succ,List.filter_append]
 congr 1
 by_cases h:128≤rn l k
 ·simp[h]
 ·simp[h]
theorem wideK_lt {l:List Int} {k j:Nat} (h:j∈wideK l k):j<k∧128≤rn l j:=by
 unfold wideK at h
 rw[List.mem_filter]at h
 exact⟨List.mem_range.1 h.1,by simpa using h.2⟩
def ordW (l:List Int):List Nat:=(wideK l l.length).mergeSort (leW l)
structure PunOk (l:List Int) (rest:List Nat) (f:Nat→Int) (n:Int) (i h:Nat):Prop where
 f01:F01 f
 tot:pre f l.length=h
 ile:i≤h
 n01:0≤n∧n≤1114111
 nxt:∀j∈rest,j<l.length∧f j=0∧128≤rn l j∧rn l j≤1114111∧(n<rn l j∨(n=rn l j∧(i:Int)≤pre f j))
 srt:rest.Pairwise fun a b=>rn l a<rn l b∨(rn l a=rn l b∧a<b)
theorem PunOk.pre0 {l:List Int} {rest:List Nat} {f:Nat→Int} {n:Int} {i h:Nat} (H:PunOk l rest f n i h) (j:Nat):0≤pre f j:=by
 have:=pre_mono f H.f01.1 (a:=0) (b:=j) (Nat.zero_le _)
 simpa [pre] using this
theorem PunOk.preh {l:List Int} {rest:List Nat} {f:Nat→Int} {n:Int} {i h:Nat} (H:PunOk l rest f n i h) {j:Nat} (hj:j≤l.length):pre f j≤h:=by
 have:=pre_mono f H.f01.1 hj
 rw[H.tot]at this
 exact this
theorem PunOk.hle {l:List Int} {rest:List Nat} {f:Nat→Int} {n:Int} {i h:Nat} (H:PunOk l rest f n i h):h≤l.length:=by
 have:=pre_le f H.f01.2 l.length
 rw[H.tot]at this
 omega
theorem PunOk.step {l:List Int} {rest:List Nat} {f:Nat→Int} {n:Int} {i h at':Nat} (H:PunOk l (at'::rest) f n i h):PunOk l rest (put1 f at' 1) (rn l at') ((pre f at').toNat+1) (h+1):=by
 obtain⟨h1,h2,h3,h4,h5⟩:=H.nxt at' List.mem_cons_self
 have hp:=H.pre0 at'
 have hph:=H.preh (Nat.le_of_lt h1)
 have hs:=List.pairwise_cons.1 H.srt
 refine⟨H.f01.put at' 1 (by omega) (by omega),?_,by omega,⟨by omega,h4⟩,fun j hj=>?_,hs.2⟩
 ·rw[pre_put,if_pos h1,H.tot]
  push_cast
  rfl
 ·obtain⟨g1,g2,g3,g4,_⟩:=H.nxt j (List.mem_cons_of_mem _ hj)
  have ho:=hs.1 j hj
  have hne:j≠at':=by
   intro e
   subst e
   omega
  refine⟨g1,?_,g3,g4,?_⟩
  ·unfold put1
   rw[if_neg hne]
   exact g2
  ·rcases ho with ho|⟨ho,hlt⟩
   ·exact .inl ho
   ·refine .inr ⟨ho,?_⟩
    rw[pre_put,if_pos hlt]
    have:=pre_mono f H.f01.1 (Nat.le_of_lt hlt)
    omega
theorem pairwise_ord (l:List Int):(ordW l).Pairwise fun a b=>rn l a<rn l b∨(rn l a=rn l b∧a<b):=by
 have h1:(ordW l).Pairwise fun a b=>leW l a b=true:=List.pairwise_mergeSort (fun a b c=>leW_trans l a b c) (fun a b=>leW_total l a b) _
 have h2:(ordW l).Nodup:=by
  unfold ordW
  rw[(List.mergeSort_perm _ _).nodup_iff]
  unfold wideK
  exact List.Pairwise.filter _ List.nodup_range
 refine(List.Pairwise.and h1 h2).imp ?_
 intro a b ⟨h,hne⟩
 rw[leW_iff]at h
 omega
end Go.Proofs.YtfjpkfhbmldmfaaGreatDoor
namespace Go.Proofs
end Go.Proofs
namespace Go.Proofs.YtfjpkfhbmldmfaaGreatDoor
open Go.RowKit
open Go.RowKit
open Go.RowKit
open Go.RowKit
open Go.RowKit
end Go.Proofs.YtfjpkfhbmldmfaaGreatDoor
