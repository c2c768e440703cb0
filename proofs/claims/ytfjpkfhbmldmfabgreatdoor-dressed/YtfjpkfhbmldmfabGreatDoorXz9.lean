/-
  The program's Check, Print, PrintBox.
-/
import Derived.Test.YtfjpkfhbmldmfabGreatDoorXy9
import Derived.Test.YtfjpkfhbmldmfabGreatDoorXv9
namespace Go.Proofs.YtfjpkfhbmldmfabGreatDoor
open Go.RowKit
theorem check_len {h:Ho} {wide:Bool} (hc:check h wide=0):h.n.length≤255:=by
 unfold check at hc
 split at hc
 ·split at hc
  ·unfold wd at hc
   split at hc
   ·cases hc
   ·omega
  ·cases hc
 ·split at hc
  ·split at hc
   ·rename_i h2
    rw[show h.n=[] from congrArg Ho.n h2]
    simp
   ·cases hc
  ·split at hc
   ·split at hc
    ·rename_i h2
     rw[h2]
     simp
    ·cases hc
   ·split at hc
    ·split at hc
     ·unfold chTag at hc
      split at hc
      ·cases hc
      ·omega
     ·cases hc
    ·cases hc
theorem wpList_load_mid9 {P:Program} {ops:Array Oper} {rest:List Oper} {op:Oper} {a:Act} {w:World} {Q:Exit→Act→World→Prop} (hw:Region.wanted op (yielded ops a.tmps)=true) (ty:TypeId) (x:Operand) (ho:op.op=.load ty x)
  (g o:Nat) (hx:a.eval x=.pointer (some ⟨g,o,none⟩)) (cs:List Value) (d:TypeDesc) (hc:w.rangeAt g o cs)
  (hu:P.underlying ty=some d) (hd:d.isRow=true) (hi:(P.info? ty).map (·.size)=some cs.length)
  (h:wpList P ops Q rest (a.put op.dst (.agg cs.toArray)) w):wpList P ops Q (op::rest) a w:=by
 unfold wpList
 rw[if_pos hw]
 left
 unfold Oper.wp
 rw[exec_mid9 ty x ho g o hx cs d hc hu hd hi]
 exact h
theorem ckR_all:∀{r:List Ho} {wide:Bool},ckR r wide=0→∀x∈r,check x wide=0
 |[],_,_,x,hx=>by cases hx
 |y::r,wide,h,x,hx=>by
  rw[ckR]at h
  by_cases hy:check y wide=0
  ·rw[if_pos hy]at h
   rcases List.mem_cons.1 hx with rfl|hx
   ·exact hy
   ·exact ckR_all h x hx
  ·rw[if_neg hy]at h
   exact absurd h hy
theorem ckT_zero {r:List Ho} {wide:Bool} (h:ckT r wide=0):r.length≤16∧(∀x∈r,x.k=1)∧∀x∈r,check x wide=0:=by
 unfold ckT at h
 split at h
 ·cases h
 ·rename_i hn
  refine⟨Nat.le_of_not_lt fun h'=>hn (Or.inl h'),fun x hx=>?_,ckR_all h⟩
  have ha:r.all (fun h=>decide (h.k=1))=true:=by
   cases hq:r.all (fun h=>decide (h.k=1))
   ·exact absurd (Or.inr hq) hn
   ·rfl
  exact of_decide_eq_true (List.all_eq_true.1 ha x hx)
theorem ckM_zero {l:List UInt8} {h:Ho} {wide:Bool} (hm:ckM l h wide=0):ckL l wide=0∧check h wide=0:=by
 unfold ckM at hm
 split at hm
 ·rename_i h'
  exact absurd hm h'
 ·rename_i h'
  exact⟨Decidable.of_not_not h',hm⟩
theorem wrH_len {x:Ho} {wide:Bool} (ok:x.Ok) (hc:check x wide=0):(wrH x).length≤255:=by
 obtain⟨t,ht,_,hl,_⟩:=back_host x wide ok hc
 unfold wrH
 rw[ht]
 exact hl
theorem ckP_three {r:List Ho} {l:List UInt8} {h:Ho} {wide:Bool}:ckP ⟨3,r,l,h⟩ wide=if ckT r wide≠0 then ckT r wide else if ckM l h wide≠0 then ckM l h wide else if 256<(wrP ⟨3,r,l,h⟩).length then 93 else 0:=by
 have e:ckB ⟨3,r,l,h⟩ wide=if ckT r wide≠0 then ckT r wide else ckM l h wide:=by
  unfold ckB ckT ckM
  rw[if_neg (by simp),if_pos rfl]
  dsimp only
  by_cases h1:16<r.length∨r.all (fun h=>decide (h.k=1))=false
  ·rw[if_pos h1,if_pos h1,if_pos (by decide)]
  ·rw[if_neg h1,if_neg h1]
 unfold ckP
 rw[e]
 by_cases h1:ckT r wide≠0
 ·rw[if_pos h1,if_pos h1,if_neg (fun h=>h1 h.1)]
 ·rw[if_neg h1,if_neg h1]
  by_cases h2:ckM l h wide≠0
  ·rw[if_pos h2,if_neg (fun h=>h2 h.1)]
  ·rw[if_neg h2,Decidable.of_not_not h2]
   by_cases h3:256<(wrP ⟨3,r,l,h⟩).length
   ·rw[if_pos ⟨rfl,h3⟩,if_pos h3]
   ·rw[if_neg (fun h=>h3 h.2),if_neg h3]
theorem ckP_small {k:Int} {r:List Ho} {l:List UInt8} {h:Ho} {wide:Bool} (hk:k=1∨k=2):ckP ⟨k,r,l,h⟩ wide=if r=[]∧l=[]∧h=ho0 then 0 else 93:=by
 have e:ckB ⟨k,r,l,h⟩ wide=if r=[]∧l=[]∧h=ho0 then 0 else 93:=by
  unfold ckB
  rw[if_pos hk]
 unfold ckP
 rw[e]
 by_cases h1:r=[]∧l=[]∧h=ho0
 ·rw[if_pos h1,if_neg]
  rintro ⟨_,h2⟩
  obtain⟨rfl,rfl,rfl⟩:=h1
  rcases hk with rfl|rfl
  ·revert h2;decide
  ·revert h2;decide
 ·rw[if_neg h1,if_neg (fun h=>by cases h.1)]
theorem ckP_no {k:Int} {r:List Ho} {l:List UInt8} {h:Ho} {wide:Bool} (k1:k≠1) (k2:k≠2) (k3:k≠3):ckP ⟨k,r,l,h⟩ wide=93:=by
 have e:ckB ⟨k,r,l,h⟩ wide=93:=by
  unfold ckB
  rw[if_neg (by rintro (h|h);exact k1 h;exact k2 h),if_neg k3]
 unfold ckP
 rw[e,if_neg (fun h=>by cases h.1)]
theorem ckP_ok3 {k:Int} {r:List Ho} {l:List UInt8} {h:Ho} {wide:Bool} (hc:ckP ⟨k,r,l,h⟩ wide=0):(r=[]∧l=[]∧h=ho0)∨(ckT r wide=0∧ckM l h wide=0):=by
 by_cases k12:k=1∨k=2
 ·rw[ckP_small k12]at hc
  split at hc
  ·rename_i hz
   exact Or.inl hz
  ·cases hc
 ·by_cases k3:k=3
  ·subst k3
   rw[ckP_three]at hc
   by_cases h1:ckT r wide≠0
   ·rw[if_pos h1]at hc
    exact absurd hc h1
   ·rw[if_neg h1]at hc
    by_cases h2:ckM l h wide≠0
    ·rw[if_pos h2]at hc
     exact absurd hc h2
    ·exact Or.inr ⟨Decidable.of_not_not h1,Decidable.of_not_not h2⟩
  ·rw[ckP_no (fun h=>k12 (Or.inl h)) (fun h=>k12 (Or.inr h)) k3]at hc
   cases hc
theorem ckB_nil {l:List UInt8} {h:Ho} {wide:Bool}:ckB ⟨3,[],l,h⟩ wide=ckM l h wide:=by
 unfold ckB ckM
 rw[if_neg (by simp),if_pos rfl]
 dsimp only
 rw[if_neg (by simp)]
 rw[ckR,if_neg (by simp)]
theorem printB_ok {l:List UInt8} {h:Ho} (hc:ckM l h true=0):printB l h=(wrB l h,0):=by
 unfold printB
 rw[ckB_nil,if_pos hc]
theorem printB_no {l:List UInt8} {h:Ho} (hc:ckM l h true≠0):printB l h=([],ckM l h true):=by
 unfold printB
 rw[ckB_nil,if_neg hc]
set_option maxHeartbeats 4000000 in
set_option maxRecDepth 100000 in
theorem ppbox_any (l:List UInt8) (h:Ho) (w:World) (ok:h.Ok) (hn:h.n.length≤140737488355328) (hl:l.length≤140737488355328) (hT:Td w) (hrep:RepOk (txt l) w):
  Calls Tryz.prog 14 #[.agg (boxC l h)] w fun e w'=>e=.returned (.tuple #[.string (txt (printB l h).1),.int .i64 ((printB l h).2:Nat)])∧Below w.heap.size w w':=by
 have hPz:=boxC_size l h ok.len
 have HCK:Hid (∀wx,Below w.heap.size w wx→Calls Tryz.prog 23 #[.agg (boxC l h),.bool true] wx fun e w'=>e=.returned (.int .i64 (ckM l h true:Nat))∧Below wx.heap.size wx w'):=fun wx hx=>wrb_any l h ok.len hn hl true wx (hT.below hx) (hrep.later hx)
 have HWR:Hid (ckM l h true=0→∀wx,Below w.heap.size w wx→Calls Tryz.prog 28 #[.agg (boxC l h)] wx fun e w'=>e=.returned (.string (txt (wrB l h)))∧Below wx.heap.size wx w'):=fun hc wx hx=>by
  exact wbox_any l h ok hn hl (Nat.le_trans (wrH_len ok (ckM_zero hc).2) (by omega)) wx (hT.below hx) (hrep.later hx)
 have HP0:Hid (ckM l h true=0→printB l h=(wrB l h,0)):=printB_ok
 have HP1:Hid (ckM l h true≠0→printB l h=([],ckM l h true)):=printB_no
 generalize boxC l h=P at hPz HCK HWR ⊢
 generalize ckM l h true=m at HCK HWR HP0 HP1
 have L1:Hid (Lies (w.alloc (.cells P 30)) w.heap.size P 30):=Lies.new w _ _
 have KB:Hid (Below w.heap.size w (w.alloc (.cells P 30))):=(Below.refl _ _).alloc (Nat.le_refl _) _
 obtain⟨X,hX⟩:∃X,X=printB l h:=⟨_,rfl⟩
 rw[←hX]at HP0 HP1 ⊢
 clear hT hrep hX
 by_cases hm0:m=0
 ·have HW2:Hid (∀wx,Below w.heap.size w wx→Calls Tryz.prog 28 #[.agg P] wx fun e w'=>e=.returned (.string (txt (wrB l h)))∧Below wx.heap.size wx w'):=HWR.out hm0
  have HE:Hid (X=(wrB l h,0)):=HP0.out hm0
  subst hm0
  clear HWR HP0 HP1
  go_enter Tryz.func14,Tryz.ntmps14
  go_upto_region 1 with fail
  generalize w.alloc (.cells P 30)=v0 at L1 KB ⊢
  go_wp2_with (refine wpList_load_row rfl 30 _ rfl w.heap.size rfl P 30 _ L1.out Tryz.underlying30 rfl (by rw[hPz];exact infoBx) ?_)
  refine(HCK.out _ KB.out).mono ?_
  rintro e w2 ⟨rfl,hb2⟩
  have K2:Hid (Below w.heap.size w w2):=KB.out.trans (hb2.mono KB.out.size)
  have L2:Hid (Lies w2 w.heap.size P 30):=L1.out.below hb2 L1.out.lt
  clear hb2 L1 KB HCK
  go_wp2_with (refine wpList_load_row rfl 30 _ rfl w.heap.size rfl P 30 _ L2.out Tryz.underlying30 rfl (by rw[hPz];exact infoBx) ?_)
  refine(HW2.out _ K2.out).mono ?_
  rintro e w3 ⟨rfl,hb3⟩
  have K3:Hid (Below w.heap.size w w3):=K2.out.trans (hb3.mono K2.out.size)
  clear hb3 K2 L2 HW2
  go_wp2_with fail
  refine bodyPost_ret (v:=.tuple #[.string (txt (wrB l h)),.int .i64 0]) (by simp[results,Tryz.results14,go_sem]) rfl ⟨by rw[HE.out];rfl,K3.out⟩
 ·have hm0':¬(m:Int)=0:=by omega
  have HE:Hid (X=([],m)):=HP1.out hm0
  clear HWR HP0 HP1
  go_enter Tryz.func14,Tryz.ntmps14
  go_upto_region 1 with fail
  generalize w.alloc (.cells P 30)=v0 at L1 KB ⊢
  go_wp2_with (refine wpList_load_row rfl 30 _ rfl w.heap.size rfl P 30 _ L1.out Tryz.underlying30 rfl (by rw[hPz];exact infoBx) ?_)
  refine(HCK.out _ KB.out).mono ?_
  rintro e w2 ⟨rfl,hb2⟩
  have K2:Hid (Below w.heap.size w w2):=KB.out.trans (hb2.mono KB.out.size)
  clear hb2 L1 KB HCK
  go_wp2_with fail
  refine bodyPost_ret (v:=.tuple #[.string ⟨#[]⟩,.int .i64 (m:Int)]) (by simp[results,Tryz.results14,go_sem]) rfl ⟨by rw[HE.out];rfl,K2.out⟩
end Go.Proofs.YtfjpkfhbmldmfabGreatDoor
