/-
  The program's Check, Print, PrintBox.
-/
import Derived.Test.YtfjpkfhbmldmfabGreatDoorXy9
import Derived.Test.YtfjpkfhbmldmfabGreatDoorNum
namespace Go.Proofs.YtfjpkfhbmldmfabGreatDoor
open Go.RowKit
theorem check_len {h:Ho} {wide:Bool} (hc:check h wide=0):h.n.length≤255:=by
 unfold check at hc
 split at hc
 ·split at hc
  ·unfold wd at hc
   split at hc
   ·cases hc
   ·omega
  ·cases hc
 ·split at hc
  ·split at hc
   ·rename_i h2
    rw[show h.n=[] from congrArg Ho.n h2]
    simp
   ·cases hc
  ·split at hc
   ·split at hc
    ·rename_i h2
     rw[h2]
     simp
    ·cases hc
   ·split at hc
    ·split at hc
     ·unfold chTag at hc
      split at hc
      ·cases hc
      ·omega
     ·cases hc
    ·cases hc
theorem wpList_load_mid9 {P:Program} {ops:Array Oper} {rest:List Oper} {op:Oper} {a:Act} {w:World} {Q:Exit→Act→World→Prop} (hw:Region.wanted op (yielded ops a.tmps)=true) (ty:TypeId) (x:Operand) (ho:op.op=.load ty x)
  (g o:Nat) (hx:a.eval x=.pointer (some ⟨g,o,none⟩)) (cs:List Value) (d:TypeDesc) (hc:w.rangeAt g o cs)
  (hu:P.underlying ty=some d) (hd:d.isRow=true) (hi:(P.info? ty).map (·.size)=some cs.length)
  (h:wpList P ops Q rest (a.put op.dst (.agg cs.toArray)) w):wpList P ops Q (op::rest) a w:=by
 unfold wpList
 rw[if_pos hw]
 left
 unfold Oper.wp
 rw[exec_mid9 ty x ho g o hx cs d hc hu hd hi]
 exact h
theorem ckR_all:∀{r:List Ho} {wide:Bool},ckR r wide=0→∀x∈r,check x wide=0
 |[],_,_,x,hx=>by cases hx
 |y::r,wide,h,x,hx=>by
  rw[ckR]at h
  by_cases hy:check y wide=0
  ·rw[if_pos hy]at h
   rcases List.mem_cons.1 hx with rfl|hx
   ·exact hy
   ·exact ckR_all h x hx
  ·rw[if_neg hy]at h
   exact absurd h hy
theorem ckT_zero {r:List Ho} {wide:Bool} (h:ckT r wide=0):r.length≤16∧(∀x∈r,x.k=1)∧∀x∈r,check x wide=0:=by
 unfold ckT at h
 split at h
 ·cases h
 ·rename_i hn
  refine⟨Nat.le_of_not_lt fun h'=>hn (Or.inl h'),fun x hx=>?_,ckR_all h⟩
  have ha:r.all (fun h=>decide (h.k=1))=true:=by
   cases hq:r.all (fun h=>decide (h.k=1))
   ·exact absurd (Or.inr hq) hn
   ·rfl
  exact of_decide_eq_true (List.all_eq_true.1 ha x hx)
theorem ckM_zero {l:List UInt8} {h:Ho} {wide:Bool} (hm:ckM l h wide=0):ckL l wide=0∧check h wide=0:=by
 unfold ckM at hm
 split at hm
 ·rename_i h'
  exact absurd hm h'
 ·rename_i h'
  exact⟨Decidable.of_not_not h',hm⟩
theorem ckP_three {r:List Ho} {l:List UInt8} {h:Ho} {wide:Bool}:ckP ⟨3,r,l,h⟩ wide=if ckT r wide≠0 then ckT r wide else if ckM l h wide≠0 then ckM l h wide else if 256<(wrP ⟨3,r,l,h⟩).length then 93 else 0:=by
 have e:ckB ⟨3,r,l,h⟩ wide=if ckT r wide≠0 then ckT r wide else ckM l h wide:=by
  unfold ckB ckT ckM
  rw[if_neg (by simp),if_pos rfl]
  dsimp only
  by_cases h1:16<r.length∨r.all (fun h=>decide (h.k=1))=false
  ·rw[if_pos h1,if_pos h1,if_pos (by decide)]
  ·rw[if_neg h1,if_neg h1]
 unfold ckP
 rw[e]
 by_cases h1:ckT r wide≠0
 ·rw[if_pos h1,if_pos h1,if_neg (fun h=>h1 h.1)]
 ·rw[if_neg h1,if_neg h1]
  by_cases h2:ckM l h wide≠0
  ·rw[if_pos h2,if_neg (fun h=>h2 h.1)]
  ·rw[if_neg h2,Decidable.of_not_not h2]
   by_cases h3:256<(wrP ⟨3,r,l,h⟩).length
   ·rw[if_pos ⟨rfl,h3⟩,if_pos h3]
   ·rw[if_neg (fun h=>h3 h.2),if_neg h3]
theorem ckP_small {k:Int} {r:List Ho} {l:List UInt8} {h:Ho} {wide:Bool} (hk:k=1∨k=2):ckP ⟨k,r,l,h⟩ wide=if r=[]∧l=[]∧h=ho0 then 0 else 93:=by
 have e:ckB ⟨k,r,l,h⟩ wide=if r=[]∧l=[]∧h=ho0 then 0 else 93:=by
  unfold ckB
  rw[if_pos hk]
 unfold ckP
 rw[e]
 by_cases h1:r=[]∧l=[]∧h=ho0
 ·rw[if_pos h1,if_neg]
  rintro ⟨_,h2⟩
  obtain⟨rfl,rfl,rfl⟩:=h1
  rcases hk with rfl|rfl
  ·revert h2;decide
  ·revert h2;decide
 ·rw[if_neg h1,if_neg (fun h=>by cases h.1)]
theorem ckP_no {k:Int} {r:List Ho} {l:List UInt8} {h:Ho} {wide:Bool} (k1:k≠1) (k2:k≠2) (k3:k≠3):ckP ⟨k,r,l,h⟩ wide=93:=by
 have e:ckB ⟨k,r,l,h⟩ wide=93:=by
  unfold ckB
  rw[if_neg (by rintro (h|h);exact k1 h;exact k2 h),if_neg k3]
 unfold ckP
 rw[e,if_neg (fun h=>by cases h.1)]
theorem ckP_ok3 {k:Int} {r:List Ho} {l:List UInt8} {h:Ho} {wide:Bool} (hc:ckP ⟨k,r,l,h⟩ wide=0):(r=[]∧l=[]∧h=ho0)∨(ckT r wide=0∧ckM l h wide=0):=by
 by_cases k12:k=1∨k=2
 ·rw[ckP_small k12]at hc
  split at hc
  ·rename_i hz
   exact Or.inl hz
  ·cases hc
 ·by_cases k3:k=3
  ·subst k3
   rw[ckP_three]at hc
   by_cases h1:ckT r wide≠0
   ·rw[if_pos h1]at hc
    exact absurd hc h1
   ·rw[if_neg h1]at hc
    by_cases h2:ckM l h wide≠0
    ·rw[if_pos h2]at hc
     exact absurd hc h2
    ·exact Or.inr ⟨Decidable.of_not_not h1,Decidable.of_not_not h2⟩
  ·rw[ckP_no (fun h=>k12 (Or.inl h)) (fun h=>k12 (Or.inr h)) k3]at hc
   cases hc
end Go.Proofs.YtfjpkfhbmldmfabGreatDoor
