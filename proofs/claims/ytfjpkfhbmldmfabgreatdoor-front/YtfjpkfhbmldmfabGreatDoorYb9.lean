/-
  The program's Wide; the statements' own same, sameHosts, longer.
-/
import Derived.Test.YtfjpkfhbmldmfabGreatDoorXz9
namespace Go.Proofs.YtfjpkfhbmldmfabGreatDoor
open Go.RowKit
set_option maxHeartbeats 4000000 in
set_option maxRecDepth 100000 in
theorem lsameh_eq (sp sp1:Option Addr) (c c1:Nat) (r:List Ho) (w:World) (hr:RtM w sp r) (hr1:RtM w sp1 r) (hm:r.length≤maxLen) (okr:∀x∈r,x.a.length=16):
  Calls Tryz.prog 19 #[.slice sp r.length c,.slice sp1 r.length c1] w fun e w'=>e=.returned (.bool true)∧Below w.heap.size w w':=by
 unfold maxLen at hm
 by_cases h0:r=[]
 ·subst h0
  go_enter Tryz.func19,Tryz.ntmps19
  go_wp2_with fail
  go_loop [13] (fun ci=>ci=.int .i64 0) (fun _=>0)
  case atStart=>rfl
  case round=>
   subst hrel
   go_wp2_with fail
   go_ret
   exact⟨rfl,Below.refl _ _⟩
 ·have hpos:0<r.length:=List.length_pos_iff.2 h0
  obtain⟨g0,o,hsp,hg0,hmem⟩:∃g o,sp=some ⟨g,o,none⟩∧g<w.heap.size∧∀j (hj:j<r.length),w.rangeAt g (o+j*18) (hostC r[j]).toList:=by
   rcases hr with h|h
   ·exact absurd h h0
   ·exact h
  obtain⟨g1,o1,hsp1,hg1,hmem1⟩:∃g o,sp1=some ⟨g,o,none⟩∧g<w.heap.size∧∀j (hj:j<r.length),w.rangeAt g (o+j*18) (hostC r[j]).toList:=by
   rcases hr1 with h|h
   ·exact absurd h h0
   ·exact h
  subst hsp hsp1
  have HMM:Hid (∀j (hj:j<r.length),w.rangeAt g0 (o+j*18) (hostC r[j]).toList):=hmem
  have HMN:Hid (∀j (hj:j<r.length),w.rangeAt g1 (o1+j*18) (hostC r[j]).toList):=hmem1
  have HOK:Hid (∀x∈r,x.a.length=16):=okr
  obtain⟨n,hn⟩:∃n,n=r.length:=⟨_,rfl⟩
  have HNN:Hid (n=r.length):=hn
  rw[←hn]at hpos hm ⊢
  clear hn h0 hr hr1 okr hmem hmem1
  go_enter Tryz.func19,Tryz.ntmps19
  go_wp2_with fail
  go_loopw [13] (fun ci wr=>∃i:Nat,i≤n∧ci=.int .i64 i∧Hid (Below w.heap.size w wr)) (fun ci _=>n - (intOf ci).toNat)
  case atStart=>exact⟨0,Nat.zero_le _,rfl,Below.refl _ _⟩
  case round=>
   obtain⟨i,hi,rfl,HB⟩:=hrel
   by_cases hlt:i<n
   ·have hlt':(i:Int)<(n:Int):=by omega
    have hir:i<r.length:=by rw[←HNN.out];exact hlt
    have hx16:=HOK.out r[i] (List.getElem_mem hir)
    have HM0':wr.rangeAt g0 (o+i*18) (hostC r[i]).toList:=fun j v hv=>by
     rw[HB.out.cell (p:=⟨g0,o+i*18+j,none⟩) hg0]
     exact HMM.out i hir j v hv
    have HM1':wr.rangeAt g1 (o1+i*18) (hostC r[i]).toList:=fun j v hv=>by
     rw[HB.out.cell (p:=⟨g1,o1+i*18+j,none⟩) hg1]
     exact HMN.out i hir j v hv
    generalize r[i]=x at hx16 HM0' HM1'
    have hCz':=hostC_size x hx16
    obtain⟨C,hC'⟩:∃C,C=hostC x:=⟨_,rfl⟩
    rw[←hC']at HM0' HM1' hCz'
    have HM0:Hid (wr.rangeAt g0 (o+i*18) C.toList):=HM0'
    have HM1:Hid (wr.rangeAt g1 (o1+i*18) C.toList):=HM1'
    have hC:Hid (C=hostC x):=hC'
    have hCz:C.size=18:=hCz'
    have eC:C.toList.toArray=C:=by simp
    clear HM0' HM1' hCz' hC'
    go_upto_region 6 with fail
    refine wp_region_late (fun wx=>wx.rangeAt g0 (o+i*18) C.toList∧wx.rangeAt g1 (o1+i*18) C.toList) 9 (by kernel_rfl) ⟨HM0.out,HM1.out⟩ (fun hHeld=>?_)
    refine tk9 0 (some 16) (.slice (some ⟨g0,o,none⟩) n c) ?_
    simp only[Act.put,pA,pB,pC]
    refine tk9 1 (some 17) (.int .i64 (i:Int)) ?_
    simp only[Act.put,pA,pB,pC]
    refine tk9 2 (some 18) (.pointer (some ⟨g0,o+i*18,none⟩)) ?_
    simp only[Act.put,pA,pB,pC]
    refine tk9 3 (some 19) (.agg C) ?_ (hy:=?hy)
    case hy=>(intro w' hSw;(try dsimp only at hSw);have:=fun op a ho hx=>exec_mid9 (P:=Tryz.prog) (op:=op) (a:=a) 28 (.tmp 18) ho g0 (o+i*18) hx C.toList _ (hSw.1) Tryz.underlying28 rfl (by rw[Array.length_toList,hCz];exact infoHo);rw[eC]at this;exact this _ _ rfl rfl)
    simp only[Act.put,pA,pB,pC]
    refine tk9 4 (some 20) (.slice (some ⟨g1,o1,none⟩) n c1) ?_
    simp only[Act.put,pA,pB,pC]
    refine tk9 5 (some 21) (.int .i64 (i:Int)) ?_
    simp only[Act.put,pA,pB,pC]
    refine tk9 6 (some 22) (.pointer (some ⟨g1,o1+i*18,none⟩)) ?_
    simp only[Act.put,pA,pB,pC]
    refine tk9 7 (some 23) (.agg C) ?_ (hy:=?hy)
    case hy=>(intro w' hSw;(try dsimp only at hSw);have:=fun op a ho hx=>exec_mid9 (P:=Tryz.prog) (op:=op) (a:=a) 28 (.tmp 22) ho g1 (o1+i*18) hx C.toList _ (hSw.2) Tryz.underlying28 rfl (by rw[Array.length_toList,hCz];exact infoHo);rw[eC]at this;exact this _ _ rfl rfl)
    simp only[Act.put,pA,pB,pC]
    refine tk9 8 (some 24) (.bool false) ?_ (hy:=?hy)
    case hy=>(intro w' hSw;refine Eq.trans (exec_neq_host _ _ _ rfl x x (by show Value.agg C=_;rw[hC.out];rfl) (by show Value.agg C=_;rw[hC.out];rfl) hx16 hx16) (by rw[decide_eq_true rfl];rfl))
    simp only[Act.put,pA,pB,pC]
    refine wpAnyE_done (by kernel_rfl) ?_ _
    clear hHeld
    have HB2:Hid (Below w.heap.size w wr.drew):=HB.out.drew
    clear HB
    go_wp2_with fail
    go_roundw
    case rel=>exact⟨i+1,hlt,by go_num,HB2⟩
    case measure=>simp[intOf];omega
   ·have hlt':¬(i:Int)<(n:Int):=by omega
    go_wp2_with fail
    go_ret
    exact⟨rfl,HB.out⟩
theorem pthC_split (k:Int) (sl:Value) (l:List UInt8) (h:Ho):∀j v,(boxC l h).toList[j]?=some v→(pthC k sl l h)[2+j]?=some v:=fun j v hv=>by
 have e:pthC k sl l h=#[.int .i64 k,sl]++boxC l h:=by
  unfold pthC boxC
  rw[←Array.append_assoc]
  rfl
 rw[e,Array.getElem?_append_right (by simp)]
 simp only[List.size_toArray,List.length_cons,List.length_nil]
 rw[show 2+j - (0+1+1)=j from by omega]
 simpa using hv
set_option maxHeartbeats 8000000 in
set_option maxRecDepth 100000 in
theorem lsame_eq (k:Int) (sp sp1:Option Addr) (c c1:Nat) (r:List Ho) (l:List UInt8) (h:Ho) (w:World) (hr:RtM w sp r) (hr1:RtM w sp1 r) (hm:r.length≤maxLen) (okr:∀x∈r,x.a.length=16) (ha:h.a.length=16):
  Calls Tryz.prog 9 #[.agg (pthC k (.slice sp r.length c) l h),.agg (pthC k (.slice sp1 r.length c1) l h)] w fun e w'=>e=.returned (.bool true)∧Below w.heap.size w w':=by
 have hBz:=boxC_size l h ha
 have p0:Hid ((pthC k (.slice sp r.length c) l h)[0]?=some (.int .i64 k)):=(pthC_024 _ _ _ _).1
 have p1:Hid ((pthC k (.slice sp r.length c) l h)[1]?=some (.slice sp r.length c)):=(pthC_024 _ _ _ _).2.1
 have p2:Hid (∀j v,(boxC l h).toList[j]?=some v→(pthC k (.slice sp r.length c) l h)[2+j]?=some v):=pthC_split _ _ _ _
 have q0:Hid ((pthC k (.slice sp1 r.length c1) l h)[0]?=some (.int .i64 k)):=(pthC_024 _ _ _ _).1
 have q1:Hid ((pthC k (.slice sp1 r.length c1) l h)[1]?=some (.slice sp1 r.length c1)):=(pthC_024 _ _ _ _).2.1
 have q2:Hid (∀j v,(boxC l h).toList[j]?=some v→(pthC k (.slice sp1 r.length c1) l h)[2+j]?=some v):=pthC_split _ _ _ _
 generalize pthC k (.slice sp r.length c) l h=P at p0 p1 p2 ⊢
 generalize pthC k (.slice sp1 r.length c1) l h=P1 at q0 q1 q2 ⊢
 obtain⟨B,hB'⟩:∃B,B=boxC l h:=⟨_,rfl⟩
 rw[←hB']at hBz p2 q2
 have hB:Hid (B=boxC l h):=hB'
 have eB:B.toList.toArray=B:=by simp
 clear hB'
 have L1:Hid (Lies ((w.alloc (.cells P 32)).alloc (.cells P1 32)) w.heap.size P 32):=(Lies.new w _ _).alloc _
 have L2:Hid (Lies ((w.alloc (.cells P 32)).alloc (.cells P1 32)) (w.heap.size+1) P1 32):=new_one w _ _ _
 have KB:Hid (Below w.heap.size w ((w.alloc (.cells P 32)).alloc (.cells P1 32))):=((Below.refl _ _).alloc (Nat.le_refl _) _).alloc (by simp) _
 have HSH:Hid (Calls Tryz.prog 19 #[.slice sp r.length c,.slice sp1 r.length c1] ((w.alloc (.cells P 32)).alloc (.cells P1 32)) fun e w'=>e=.returned (.bool true)∧Below ((w.alloc (.cells P 32)).alloc (.cells P1 32)).heap.size ((w.alloc (.cells P 32)).alloc (.cells P1 32)) w'):=lsameh_eq sp sp1 c c1 r _ (hr.below KB.out) (hr1.below KB.out) hm okr
 clear hr hr1 okr
 go_enter Tryz.func9,Tryz.ntmps9
 go_upto_region 1 with fail
 generalize (w.alloc (.cells P 32)).alloc (.cells P1 32)=v0 at L1 L2 KB HSH ⊢
 have c0:v0.cell? ⟨w.heap.size,0,none⟩=some (.int .i64 k):=(L1.out.cell 0).trans p0.out
 have c1':v0.cell? ⟨w.heap.size,1,none⟩=some (.slice sp r.length c):=(L1.out.cell 1).trans p1.out
 have d0:v0.cell? ⟨w.heap.size+1,0,none⟩=some (.int .i64 k):=(L2.out.cell 0).trans q0.out
 have d1:v0.cell? ⟨w.heap.size+1,1,none⟩=some (.slice sp1 r.length c1):=(L2.out.cell 1).trans q1.out
 have HR0:Hid (v0.rangeAt w.heap.size 2 B.toList):=fun j v hv=>(L1.out.cell (2+j)).trans (p2.out j v hv)
 have HR1:Hid (v0.rangeAt (w.heap.size+1) 2 B.toList):=fun j v hv=>(L2.out.cell (2+j)).trans (q2.out j v hv)
 refine wp_region_lit ?_
 refine wpList_yieldG (.pointer (some ⟨w.heap.size,0,none⟩)) (by rfl) ?hy ?_
 case hy=>(go_simp<;>(first|with_reducible rfl|omega|skip))
 simp only[Act.put,pA,pB,pC]
 refine wpList_yieldG (.int .i64 k) (by rfl) ?hy ?_
 case hy=>(go_simp<;>(first|with_reducible rfl|omega|skip))
 simp only[Act.put,pA,pB,pC]
 refine wpList_yieldG (.pointer (some ⟨w.heap.size+1,0,none⟩)) (by rfl) ?hy ?_
 case hy=>(go_simp<;>(first|with_reducible rfl|omega|skip))
 simp only[Act.put,pA,pB,pC]
 refine wpList_yieldG (.int .i64 k) (by rfl) ?hy ?_
 case hy=>(go_simp<;>(first|with_reducible rfl|omega|skip))
 simp only[Act.put,pA,pB,pC]
 refine wpList_yieldG (.bool true) (by rfl) ?hy ?_
 case hy=>(go_simp<;>(first|with_reducible rfl|omega|skip))
 simp only[Act.put,pA,pB,pC]
 refine wpList_yieldG (.bool true) (by rfl) ?hy ?_
 case hy=>(go_simp<;>(first|with_reducible rfl|omega|skip))
 simp only[Act.put,pA,pB,pC]
 refine wpList_yieldG (.pointer (some ⟨w.heap.size,2,none⟩)) (by rfl) ?hy ?_
 case hy=>(go_simp<;>(first|with_reducible rfl|omega|skip))
 simp only[Act.put,pA,pB,pC]
 refine wpList_load_mid9 (by rfl) 30 _ rfl (w.heap.size) 2 rfl B.toList _ HR0.out Tryz.underlying30 rfl (by rw[Array.length_toList,hBz];exact infoBx) ?_
 rw[eB]
 simp only[Act.put,pA,pB,pC]
 refine wpList_yieldG (.pointer (some ⟨w.heap.size+1,2,none⟩)) (by rfl) ?hy ?_
 case hy=>(go_simp<;>(first|with_reducible rfl|omega|skip))
 simp only[Act.put,pA,pB,pC]
 refine wpList_load_mid9 (by rfl) 30 _ rfl (w.heap.size+1) 2 rfl B.toList _ HR1.out Tryz.underlying30 rfl (by rw[Array.length_toList,hBz];exact infoBx) ?_
 rw[eB]
 simp only[Act.put,pA,pB,pC]
 refine wpList_yieldG (.bool true) (by rfl) ?hy ?_
 case hy=>
  refine Eq.trans (exec_eql_box _ _ _ rfl l l h h ?_ ?_ ha ha) (by rw[decide_eq_true rfl,decide_eq_true rfl];rfl)
  ·(show Value.agg B=_;rw[hB.out])
  ·(show Value.agg B=_;rw[hB.out])
 simp only[Act.put,pA,pB,pC]
 refine wpList_yieldG (.bool true) (by rfl) ?hy ?_
 case hy=>(go_simp<;>(first|with_reducible rfl|omega|skip))
 simp only[Act.put,pA,pB,pC]
 refine wpList_yieldG (.bool true) (by rfl) ?hy ?_
 case hy=>(go_simp<;>(first|with_reducible rfl|omega|skip))
 simp only[Act.put,pA,pB,pC]
 refine wpList_yieldG (.pointer (some ⟨w.heap.size,1,none⟩)) (by rfl) ?hy ?_
 case hy=>(go_simp<;>(first|with_reducible rfl|omega|skip))
 simp only[Act.put,pA,pB,pC]
 refine wpList_yieldG (.slice sp r.length c) (by rfl) ?hy ?_
 case hy=>(go_simp<;>(first|with_reducible rfl|omega|skip))
 simp only[Act.put,pA,pB,pC]
 refine wpList_yieldG (.pointer (some ⟨w.heap.size+1,1,none⟩)) (by rfl) ?hy ?_
 case hy=>(go_simp<;>(first|with_reducible rfl|omega|skip))
 simp only[Act.put,pA,pB,pC]
 refine wpList_yieldG (.slice sp1 r.length c1) (by rfl) ?hy ?_
 case hy=>(go_simp<;>(first|with_reducible rfl|omega|skip))
 simp only[Act.put,pA,pB,pC]
 refine wpList_onG (by rfl) ?_
 go_simp
 refine Calls.mono (HSH.out) ?_
 rintro e w3 ⟨rfl,hb3⟩
 have K3:Hid (Below w.heap.size w w3):=KB.out.trans (hb3.mono KB.out.size)
 clear hb3
 refine wpList_yieldG (.bool true) (by rfl) ?hy ?_
 case hy=>(go_simp<;>(first|with_reducible rfl|omega|skip))
 simp only[Act.put,pA,pB,pC]
 refine wpList_yieldG (.bool true) (by rfl) ?hy ?_
 case hy=>(go_simp<;>(first|with_reducible rfl|omega|skip))
 simp only[Act.put,pA,pB,pC]
 refine wpList_nil ?_
 go_wp2
 go_ret
 exact⟨rfl,K3.out⟩
open Go.RowKit
end Go.Proofs.YtfjpkfhbmldmfabGreatDoor
