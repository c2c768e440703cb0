/-
  The document's Name, Tagged and Check in plain words; no Go in sight.
-/
import Derived.Test.YtfjpkfhbmldmfabGreatDoorWd8
import Derived.Test.YtfjpkfhbmldmfabGreatDoorWt8
import Derived.Test.YtfjpkfhbmldmfabGreatDoorV4a
namespace Go.Proofs.YtfjpkfhbmldmfabGreatDoor
def letB (c:UInt8):Bool:=(decide (65≤c.toNat)&&decide (c.toNat≤90))||(decide (97≤c.toNat)&&decide (c.toNat≤122))
theorem ld_let (c:UInt8):ldB c=(letB c||dgB c):=by
 unfold ldB letB
 cases dgB c<;>simp
theorem let_not {c:UInt8} (h:c=45):letB c=false∧dgB c=false:=by
 subst h
 exact⟨by decide,by decide⟩
def pwC (F a n:Nat) (c:UInt8):Bool:=
 if letB c=false∧dgB c=false∧¬c=45∧¬(128≤c.toNat∧a<F) then true
 else decide (63≤n)||(decide (c=45)&&decide (n=0))
theorem pwC_is (F a n:Nat) (c:UInt8) (hn:n≤63):pwC F a n c=true↔(n=63∨stB F a n c=false):=by
 unfold pwC stB
 rw[ld_let]
 by_cases h45:c=45
 ·obtain⟨h1,h2⟩:=let_not h45
  have h3:¬128≤c.toNat:=by subst h45;decide
  rw[if_neg (by rintro ⟨-, -,h, -⟩;exact h h45),h1,h2,decide_eq_true h45,decide_eq_false h3]
  simp
  omega
 ·rw[decide_eq_false h45]
  by_cases hh:128≤c.toNat∧a<F
  ·rw[if_neg (by rintro ⟨-, -, -,h⟩;exact h hh),decide_eq_true hh.1,decide_eq_true hh.2]
   simp
   omega
  ·have h4:(decide (128≤c.toNat)&&decide (a<F))=false:=by
    rw[Bool.and_eq_false_iff,decide_eq_false_iff_not,decide_eq_false_iff_not]
    by_cases h:128≤c.toNat
    ·exact .inr fun h'=>hh ⟨h,h'⟩
    ·exact .inl h
   rw[h4]
   cases h1:letB c
   ·cases h2:dgB c
    ·rw[if_pos ⟨rfl,rfl,h45,hh⟩]
     simp
    ·rw[if_neg (by rintro ⟨-,h, -⟩;cases h)]
     simp
     omega
   ·rw[if_neg (by rintro ⟨h, -⟩;cases h)]
    simp
    omega
def pw (F:Nat) (s:List UInt8) (b i:Nat):Bool:=
 match s[i]? with
 |none=>decide (i=b)||decide (s[i - 1]?=some 45)
 |some c=>if c=46 then decide (i=b)||decide (s[i - 1]?=some 45) else pwC F i (i - b) c
structure NmAt (F:Nat) (s:List UInt8) (b i:Nat) (h:Bool):Prop where
 le:b≤i
 most:i - b≤63
 hyp:b<i→h=decide (s[i - 1]?=some 45)
 is:wdGo F 0 0 false s=wdGo F i (i - b) h (s.drop i)
theorem NmAt.start (F:Nat) (s:List UInt8):NmAt F s 0 0 false:=⟨Nat.le_refl _,Nat.zero_le _,fun h=>absurd h (by omega),by rw[List.drop_zero]⟩
theorem pw_end {s:List UInt8} {b i:Nat} {h:Bool} (hb:b≤i) (hh:b<i→h=decide (s[i - 1]?=some 45)):(decide (i=b)||decide (s[i - 1]?=some 45))=false↔(0<i - b∧h=false):=by
 by_cases e:i=b
 ·rw[decide_eq_true e]
  simp
  omega
 ·have:=hh (by omega)
  rw[decide_eq_false e,Bool.false_or,←this]
  constructor
  ·intro h;exact⟨by omega,h⟩
  ·exact fun h=>h.2
theorem NmAt.wrong {F:Nat} {s:List UInt8} {b i:Nat} {h:Bool} (H:NmAt F s b i h) (hw:pw F s b i=true):wdGo F 0 0 false s=some i:=by
 rw[H.is]
 rcases Nat.lt_or_ge i s.length with hl|hl
 ·rw[List.drop_eq_getElem_cons hl,wdGo]
  unfold pw at hw
  rw[List.getElem?_eq_getElem hl]at hw
  dsimp only at hw
  split at hw
  ·rename_i hc
   rw[if_pos hc,if_neg]
   intro h'
   rw[(pw_end H.le H.hyp).2 h']at hw
   cases hw
  ·rename_i hc
   rw[if_neg hc,if_pos ((pwC_is F i (i - b) _ H.most).1 hw)]
 ·rw[List.drop_eq_nil_of_le hl,wdGo]
  unfold pw at hw
  rw[List.getElem?_eq_none hl]at hw
  dsimp only at hw
  rw[if_neg]
  intro h'
  rw[(pw_end H.le H.hyp).2 h']at hw
  cases hw
theorem NmAt.last {F:Nat} {s:List UInt8} {b i:Nat} {h:Bool} (H:NmAt F s b i h) (hi:i=s.length) (hw:pw F s b i=false):wdGo F 0 0 false s=none:=by
 rw[H.is,List.drop_eq_nil_of_le (by omega),wdGo]
 unfold pw at hw
 rw[List.getElem?_eq_none (by omega)]at hw
 dsimp only at hw
 rw[if_pos ((pw_end H.le H.hyp).1 hw)]
theorem NmAt.dot {F:Nat} {s:List UInt8} {b i:Nat} {h:Bool} (H:NmAt F s b i h) (hi:i<s.length) (hc:s[i]=46) (hw:pw F s b i=false):NmAt F s (i+1) (i+1) false:=by
 refine⟨Nat.le_refl _,by omega,fun h=>absurd h (by omega),?_⟩
 rw[H.is,List.drop_eq_getElem_cons hi,wdGo,if_pos hc]
 unfold pw at hw
 rw[List.getElem?_eq_getElem hi]at hw
 dsimp only at hw
 rw[if_pos hc]at hw
 rw[if_pos ((pw_end H.le H.hyp).1 hw),Nat.sub_self]
theorem NmAt.next {F:Nat} {s:List UInt8} {b i:Nat} {h:Bool} (H:NmAt F s b i h) (hi:i<s.length) (hc:¬s[i]=46) (hw:pw F s b i=false):NmAt F s b (i+1) (decide (s[i]=45)):=by
 unfold pw at hw
 rw[List.getElem?_eq_getElem hi]at hw
 dsimp only at hw
 rw[if_neg hc]at hw
 have hn:¬(i - b=63∨stB F i (i - b) s[i]=false):=fun h'=>by rw[(pwC_is F i (i - b) _ H.most).2 h']at hw;cases hw
 have hle:=H.le
 have hm:=H.most
 refine⟨by omega,by omega,fun _=>?_,?_⟩
 ·rw[Nat.add_sub_cancel,List.getElem?_eq_getElem hi]
  rw[Bool.eq_iff_iff]
  simp
 ·rw[H.is,List.drop_eq_getElem_cons hi,wdGo,if_neg hc,if_neg hn,show i+1 - b=i - b+1 from by omega]
theorem spB_stop (f:UInt8→Bool):∀(l:List UInt8) (h:spB f l<l.length),f l[spB f l]=false
 |[],h=>by simp at h
 |c::r,h=>by
  cases hc:f c
  ·have e:spB f (c::r)=0:=by rw[spB,if_neg (by rw[hc];decide)]
   simp only[e]
   exact hc
  ·have e:spB f (c::r)=spB f r+1:=by rw[spB,if_pos hc]
   simp only[e]
   rw[e,List.length_cons]at h
   exact spB_stop f r (by omega)
theorem spB_pre (f:UInt8→Bool):∀(l:List UInt8) (j:Nat) (h:j<l.length),j<spB f l→f l[j]=true
 |[],j,h,_=>by simp at h
 |c::r,j,h,h'=>by
  cases hc:f c
  ·have e:spB f (c::r)=0:=by rw[spB,if_neg (by rw[hc];decide)]
   omega
  ·have e:spB f (c::r)=spB f r+1:=by rw[spB,if_pos hc]
   cases j with
   |zero=>exact hc
   |succ j=>
    rw[List.getElem_cons_succ]
    exact spB_pre f r j _ (by omega)
theorem spB_eq (f:UInt8→Bool) (l:List UInt8) (k:Nat) (hk:k≤l.length) (h1:∀j (h:j<l.length),j<k→f l[j]=true) (h2:∀h:k<l.length,f l[k]=false):spB f l=k:=by
 have hle:=spB_le f l
 rcases Nat.lt_trichotomy (spB f l) k with h|h|h
 ·have a:=spB_stop f l (by omega)
  rw[h1 _ (by omega) h]at a
  cases a
 ·exact h
 ·have a:=spB_pre f l k (by omega) h
  rw[h2 (by omega)]at a
  cases a
open Go.RowKit
def smS (s:ByteArray):ByteArray:=⟨(sml s.data.toList).toArray⟩
theorem smB_no (b:UInt8) (h:¬(65≤b.toNat∧b.toNat≤90)):smB b=b:=if_neg h
theorem smB_yes (b:UInt8) (h1:65≤b.toNat) (h2:b.toNat≤90):(smB b).toNat=b.toNat+32:=by
 unfold smB
 rw[if_pos ⟨h1,h2⟩]
 simp
 omega
def smAt (l:List UInt8) (k j:Nat):UInt8:=if j<k then smB (l.getD j 0) else l.getD j 0
theorem smAt_zero (l:List UInt8) (j:Nat):smAt l 0 j=l.getD j 0:=by simp[smAt]
theorem smAt_self (l:List UInt8) (k:Nat):smAt l k k=l.getD k 0:=by simp[smAt]
theorem smAt_step (l:List UInt8) (k:Nat):smAt l (k+1) k=smB (l.getD k 0):=by simp[smAt]
theorem smAt_other (l:List UInt8) (k j:Nat) (h:j≠k):smAt l (k+1) j=smAt l k j:=by
 unfold smAt
 by_cases h1:j<k
 ·rw[if_pos h1,if_pos (by omega)]
 ·rw[if_neg h1,if_neg (by omega)]
theorem smAt_all (l:List UInt8) (n j:Nat) (hn:n=l.length) (h:j<(sml l).length):smAt l n j=(sml l)[j]:=by
 have h':j<l.length:=by simpa [sml] using h
 subst hn
 simp[smAt,sml,h',List.getD_eq_getElem?_getD]
structure SmRel (s:ByteArray) (B:Nat) (w:World) (k:Nat) (wr:World):Prop where
 cell:∀j,j<s.size→wr.cell? ⟨B,j,none⟩=some (.int .u8 ((smAt s.data.toList k j).toNat:Int))
 free:∀j,j<s.size→wr.frozen? ⟨B,j,none⟩=false
 below:Below B w wr
theorem SmRel.same {s:ByteArray} {B:Nat} {w wr:World} {k:Nat} (h:SmRel s B w k wr) (hn:¬(65≤(s.data.toList.getD k 0).toNat∧(s.data.toList.getD k 0).toNat≤90)):SmRel s B w (k+1) wr:=by
 refine⟨fun j hj=>?_,h.free,h.below⟩
 rw[h.cell j hj]
 by_cases e:j=k
 ·subst e
  rw[smAt_self,smAt_step,smB_no _ hn]
 ·rw[smAt_other _ _ _ e]
theorem SmRel.put {s:ByteArray} {B:Nat} {w wr:World} {k:Nat} (h:SmRel s B w k wr) (hk:k<s.size) (h1:65≤(s.data.toList.getD k 0).toNat) (h2:(s.data.toList.getD k 0).toNat≤90):
  SmRel s B w (k+1) (wr.setCell ⟨B,k,none⟩ (.int .u8 (((s.data.toList.getD k 0).toNat:Int) - 65+97))):=by
 refine⟨fun j hj=>?_,fun j hj=>?_,h.below.setCell (Nat.le_refl _) _⟩
 ·by_cases e:j=k
  ·subst e
   rw[World.cell?_setCell_same _ _ _ (h.cell j hj),smAt_step,smB_yes _ h1 h2]
   congr 2
   omega
  ·rw[World.cell?_setCell_other _ _ _ _ (by intro h';injection h' with _ h';omega),h.cell j hj,smAt_other _ _ _ e]
 ·rw[World.frozen?_setCell]
  exact h.free j hj
theorem SmRel.start (s:ByteArray) (w:World) (cap:Nat) (n:Nat) (hn:n=(bytesRow s cap).size):SmRel s w.heap.size w 0 (w.alloc (.cells (bytesRow s cap) 5 (n,n+1))).drew:=by
 refine⟨fun j hj=>?_,fun j hj=>?_,((Below.refl _ _).alloc (Nat.le_refl _) _).drew⟩
 ·have:=World.cell?_alloc_mark w (bytesRow s cap) 5 (n,n+1) j
  rw[bytesRow_at s cap j hj]at this
  rw[smAt_zero]
  refine Eq.trans this ?_
  rw[List.getD_eq_getElem?_getD,Array.getElem?_toList,Array.getElem?_eq_getElem hj,Option.getD_some]
 ·have:=World.frozen?_alloc_mark w (bytesRow s cap) 5 n (n+1) j
  refine Eq.trans this ?_
  have h2:=bytes_lt s cap
  have h3:s.size=s.data.size:=rfl
  rw[decide_eq_false (by omega),Bool.false_and]
theorem SmRel.back {s:ByteArray} {B:Nat} {w wr:World} (h:SmRel s B w s.size wr) (cap:Nat):
  (convert 47 9 (.slice (some ⟨B,0,none⟩) s.size cap)).run Tryz.prog wr=.ok (.string (smS s)) wr:=by
 have hl:(sml s.data.toList).length=s.size:=by rw[sml,List.length_map,Array.length_toList];rfl
 have:=run_convert_bytes_back (P:=Tryz.prog) wr 47 9 5 ⟨B,0,none⟩ cap (sml s.data.toList) Tryz.underlying47 Tryz.underlying5 Tryz.underlying9 (fun j hj=>by
  have hj':j<s.size:=by omega
  have he:(⟨B,0,none⟩:Addr).add j=⟨B,j,none⟩:=by rw[Addr.add_lit,Nat.zero_add]
  rw[he,h.cell j hj']
  rw[smAt_all s.data.toList s.size j (by rw[Array.length_toList];rfl) hj])
 rw[hl]at this
 exact this
set_option maxRecDepth 100000 in
set_option maxHeartbeats 400000 in
theorem small_any (s:ByteArray) (w:World) (hs:s.size≤maxLen):
  Calls Tryz.prog 68 #[.string s] w fun e w'=>e=.returned (.string (smS s))∧Below w.heap.size w w':=by
 unfold maxLen at hs
 have hconv:=run_bytes_of_string (P:=Tryz.prog) w 9 47 5 s Tryz.underlying9 Tryz.underlying47 Tryz.underlying5
 obtain⟨cap,hcap⟩:∃c,c=grownCap w s.size 0 5:=⟨_,rfl⟩
 rw[←hcap]at hconv
 obtain⟨n,hn⟩:∃n,n=(bytesRow s cap).size:=⟨_,rfl⟩
 rw[←hn]at hconv
 have HR:Hid (SmRel s w.heap.size w 0 (w.alloc (.cells (bytesRow s cap) 5 (n,n+1))).drew):=SmRel.start s w cap n hn
 clear hcap hn
 go_enter Tryz.func68,Tryz.ntmps68
 go_wp2
 go_loopw [10] (fun i wr=>∃k:Nat,k≤s.size∧i=.int .i64 k∧Hid (SmRel s w.heap.size w k wr)) (fun i _=>s.size - (intOf i).toNat)
 case atStart=>exact⟨0,Nat.zero_le _,rfl,HR⟩
 case round=>
  obtain⟨k,hk,rfl,HK⟩:=hrel
  by_cases hlt:k<s.size
  ·have hc:=HK.out.cell k hlt
   have hf:=HK.out.free k hlt
   rw[smAt_self]at hc
   obtain⟨x,hx⟩:∃x:UInt8,x=s.data.toList.getD k 0:=⟨_,rfl⟩
   rw[←hx]at hc
   have HX:Hid (x=s.data.toList.getD k 0):=hx
   clear hx
   have hx1:x.toNat<256:=x.toNat_lt
   by_cases h1:65≤x.toNat
   ·by_cases h2:x.toNat≤90
    ·have HN:Hid (SmRel s w.heap.size w (k+1) (wr.setCell ⟨w.heap.size,k,none⟩ (.int .u8 ((x.toNat:Int) - 65+97)))):=by
      have:=HK.out.put hlt (by rw[←HX.out];exact h1) (by rw[←HX.out];exact h2)
      rw[←HX.out]at this
      exact this
     clear HK
     go_wp2
     go_roundw
     case rel=>exact⟨k+1,by omega,by go_num,HN⟩
     case measure=>simp[intOf];omega
    ·have HN:Hid (SmRel s w.heap.size w (k+1) wr):=HK.out.same (by rw[←HX.out];omega)
     clear HK
     go_wp2
     go_roundw
     case rel=>exact⟨k+1,by omega,by go_num,HN⟩
     case measure=>simp[intOf];omega
   ·have HN:Hid (SmRel s w.heap.size w (k+1) wr):=HK.out.same (by rw[←HX.out];omega)
    clear HK
    go_wp2
    go_roundw
    case rel=>exact⟨k+1,by omega,by go_num,HN⟩
    case measure=>simp[intOf];omega
  ·have he:k=s.size:=by omega
   subst he
   have hback:=HK.out.back cap
   have HB:Hid (Below w.heap.size w wr):=HK.out.below
   clear HK
   go_wp2
   go_ret
   exact⟨rfl,HB.out⟩
open Go.RowKit
open Go.RowKit
theorem b_eq (c:UInt8) (n:UInt8) (m:Int) (hm:m=(n.toNat:Int)):((c.toNat:Int)==m)=decide (c=n)∧((c.toNat:Int) != m)=!decide (c=n):=by
 have:((c.toNat:Int)==m)=decide (c=n):=by
  subst hm
  rw[Bool.eq_iff_iff,beq_iff_eq,decide_eq_true_eq,Int.natCast_inj,UInt8.toNat_inj]
 refine⟨this,?_⟩
 rw[bne,this]
def AllF (f:UInt8→Bool) (t:ByteArray) (a k:Nat):Prop:=∀j (h:j<t.size),a≤j→j<k→f t[j]=true
theorem AllF.step {f:UInt8→Bool} {t:ByteArray} {a k:Nat} (h:AllF f t a k) (hk:k<t.size) (hc:f t[k]=true):AllF f t a (k+1):=fun j hj h1 h2=>by
 rcases Nat.lt_or_ge j k with h'|h'
 ·exact h j hj h1 h'
 ·obtain rfl:j=k:=by omega
  exact hc
theorem AllF.none (f:UInt8→Bool) (t:ByteArray) (a:Nat):AllF f t a a:=fun j _ h1 h2=>absurd h1 (by omega)
theorem get_list (t:ByteArray) (k:Nat) (h:k<t.data.toList.length):t.data.toList[k]=t[k]'(by rw[len_list]at h;exact h):=rfl
theorem AllF.sp {f:UInt8→Bool} {t:ByteArray} {k:Nat} (h:AllF f t 0 k) (hk:k≤t.size) (hs:∀h:k<t.size,f t[k]=false):spB f t.data.toList=k:=
 spB_eq f _ k (by rw[len_list];exact hk) (fun j hj h'=>by rw[get_list];exact h j _ (Nat.zero_le _) h') (fun hj=>by rw[get_list];exact hs _)
end Go.Proofs.YtfjpkfhbmldmfabGreatDoor
