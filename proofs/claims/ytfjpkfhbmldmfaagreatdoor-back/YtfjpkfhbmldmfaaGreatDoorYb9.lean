/-
  The program's Wide; the statements' own same, sameHosts, longer.
-/
import Derived.Test.YtfjpkfhbmldmfaaGreatDoorXz9
namespace Go.Proofs.YtfjpkfhbmldmfaaGreatDoor
open Go.RowKit
set_option maxHeartbeats 2000000 in
theorem isw_any (s:ByteArray) (hs:s.size≤140737488355328) (w:World) (ht:Table w):Calls Tryz.prog 51 #[.string s] w fun e w'=>e=.returned (.bool (highL s.data.toList))∧w'=w:=by
 have HB:Hid (Calls Tryz.prog 80 #[.int .i64 13,.string s] w fun e w'=>e=.returned (.int .i64 (spB loB s.data.toList:Nat))∧w'=w):=by
  have:=bad_anyT 13 s w ht (by unfold maxLen;omega)
  rw[badN_spB 13 loB (fun b=>(ld_is b).2.2.2.2)]at this
  exact this
 have HR:Hid (highL s.data.toList=decide (spB loB s.data.toList<s.size)):=by
  show _=_
  unfold highL
  rw[show s.data.toList.length=s.size from Array.length_toList]
 rw[HR.out]
 generalize spB loB s.data.toList=q at HB
 clear HR ht
 go_enter Tryz.func51,Tryz.ntmps51
 go_wp2_with fail
 refine HB.out.mono ?_
 rintro e w1 ⟨rfl,rfl⟩
 go_wp2_with fail
 go_ret
 exact⟨rfl,rfl⟩
set_option maxHeartbeats 4000000 in
set_option maxRecDepth 100000 in
theorem lsameh_eq (sp sp1:Option Addr) (c c1:Nat) (r:List Ho) (w:World) (hr:RtM w sp r) (hr1:RtM w sp1 r) (hm:r.length≤maxLen) (okr:∀x∈r,x.a.length=16):
  Calls Tryz.prog 60 #[.slice sp r.length c,.slice sp1 r.length c1] w fun e w'=>e=.returned (.bool true)∧Below w.heap.size w w':=by
 unfold maxLen at hm
 by_cases h0:r=[]
 ·subst h0
  go_enter Tryz.func60,Tryz.ntmps60
  go_wp2_with fail
  go_loop [13] (fun ci=>ci=.int .i64 0) (fun _=>0)
  case atStart=>rfl
  case round=>
   subst hrel
   go_wp2_with fail
   go_ret
   exact⟨rfl,Below.refl _ _⟩
 ·have hpos:0<r.length:=List.length_pos_iff.2 h0
  obtain⟨g0,o,hsp,hg0,hmem⟩:∃g o,sp=some ⟨g,o,none⟩∧g<w.heap.size∧∀j (hj:j<r.length),w.rangeAt g (o+j*18) (hostC r[j]).toList:=by
   rcases hr with h|h
   ·exact absurd h h0
   ·exact h
  obtain⟨g1,o1,hsp1,hg1,hmem1⟩:∃g o,sp1=some ⟨g,o,none⟩∧g<w.heap.size∧∀j (hj:j<r.length),w.rangeAt g (o+j*18) (hostC r[j]).toList:=by
   rcases hr1 with h|h
   ·exact absurd h h0
   ·exact h
  subst hsp hsp1
  have HMM:Hid (∀j (hj:j<r.length),w.rangeAt g0 (o+j*18) (hostC r[j]).toList):=hmem
  have HMN:Hid (∀j (hj:j<r.length),w.rangeAt g1 (o1+j*18) (hostC r[j]).toList):=hmem1
  have HOK:Hid (∀x∈r,x.a.length=16):=okr
  obtain⟨n,hn⟩:∃n,n=r.length:=⟨_,rfl⟩
  have HNN:Hid (n=r.length):=hn
  rw[←hn]at hpos hm ⊢
  clear hn h0 hr hr1 okr hmem hmem1
  go_enter Tryz.func60,Tryz.ntmps60
  go_wp2_with fail
  go_loopw [13] (fun ci wr=>∃i:Nat,i≤n∧ci=.int .i64 i∧Hid (Below w.heap.size w wr)) (fun ci _=>n - (intOf ci).toNat)
  case atStart=>exact⟨0,Nat.zero_le _,rfl,Below.refl _ _⟩
  case round=>
   obtain⟨i,hi,rfl,HB⟩:=hrel
   by_cases hlt:i<n
   ·have hlt':(i:Int)<(n:Int):=by omega
    have hir:i<r.length:=by rw[←HNN.out];exact hlt
    have hx16:=HOK.out r[i] (List.getElem_mem hir)
    have HM0':wr.rangeAt g0 (o+i*18) (hostC r[i]).toList:=fun j v hv=>by
     rw[HB.out.cell (p:=⟨g0,o+i*18+j,none⟩) hg0]
     exact HMM.out i hir j v hv
    have HM1':wr.rangeAt g1 (o1+i*18) (hostC r[i]).toList:=fun j v hv=>by
     rw[HB.out.cell (p:=⟨g1,o1+i*18+j,none⟩) hg1]
     exact HMN.out i hir j v hv
    generalize r[i]=x at hx16 HM0' HM1'
    have hCz':=hostC_size x hx16
    obtain⟨C,hC'⟩:∃C,C=hostC x:=⟨_,rfl⟩
    rw[←hC']at HM0' HM1' hCz'
    have HM0:Hid (wr.rangeAt g0 (o+i*18) C.toList):=HM0'
    have HM1:Hid (wr.rangeAt g1 (o1+i*18) C.toList):=HM1'
    have hC:Hid (C=hostC x):=hC'
    have hCz:C.size=18:=hCz'
    have eC:C.toList.toArray=C:=by simp
    clear HM0' HM1' hCz' hC'
    go_upto_region 6 with fail
    refine wp_region_late (fun wx=>wx.rangeAt g0 (o+i*18) C.toList∧wx.rangeAt g1 (o1+i*18) C.toList) 9 (by kernel_rfl) ⟨HM0.out,HM1.out⟩ (fun hHeld=>?_)
    refine tk9 0 (some 16) (.slice (some ⟨g0,o,none⟩) n c) ?_
    simp only[Act.put,pA,pB,pC]
    refine tk9 1 (some 17) (.int .i64 (i:Int)) ?_
    simp only[Act.put,pA,pB,pC]
    refine tk9 2 (some 18) (.pointer (some ⟨g0,o+i*18,none⟩)) ?_
    simp only[Act.put,pA,pB,pC]
    refine tk9 3 (some 19) (.agg C) ?_ (hy:=?hy)
    case hy=>(intro w' hSw;(try dsimp only at hSw);have:=fun op a ho hx=>exec_mid9 (P:=Tryz.prog) (op:=op) (a:=a) 25 (.tmp 18) ho g0 (o+i*18) hx C.toList _ (hSw.1) Tryz.underlying25 rfl (by rw[Array.length_toList,hCz];exact infoHo);rw[eC]at this;exact this _ _ rfl rfl)
    simp only[Act.put,pA,pB,pC]
    refine tk9 4 (some 20) (.slice (some ⟨g1,o1,none⟩) n c1) ?_
    simp only[Act.put,pA,pB,pC]
    refine tk9 5 (some 21) (.int .i64 (i:Int)) ?_
    simp only[Act.put,pA,pB,pC]
    refine tk9 6 (some 22) (.pointer (some ⟨g1,o1+i*18,none⟩)) ?_
    simp only[Act.put,pA,pB,pC]
    refine tk9 7 (some 23) (.agg C) ?_ (hy:=?hy)
    case hy=>(intro w' hSw;(try dsimp only at hSw);have:=fun op a ho hx=>exec_mid9 (P:=Tryz.prog) (op:=op) (a:=a) 25 (.tmp 22) ho g1 (o1+i*18) hx C.toList _ (hSw.2) Tryz.underlying25 rfl (by rw[Array.length_toList,hCz];exact infoHo);rw[eC]at this;exact this _ _ rfl rfl)
    simp only[Act.put,pA,pB,pC]
    refine tk9 8 (some 24) (.bool false) ?_ (hy:=?hy)
    case hy=>(intro w' hSw;refine Eq.trans (exec_neq_host _ _ _ rfl x x (by show Value.agg C=_;rw[hC.out];rfl) (by show Value.agg C=_;rw[hC.out];rfl) hx16 hx16) (by rw[decide_eq_true rfl];rfl))
    simp only[Act.put,pA,pB,pC]
    refine wpAnyE_done (by kernel_rfl) ?_ _
    clear hHeld
    have HB2:Hid (Below w.heap.size w wr.drew):=HB.out.drew
    clear HB
    go_wp2_with fail
    go_roundw
    case rel=>exact⟨i+1,hlt,by go_num,HB2⟩
    case measure=>simp[intOf];omega
   ·have hlt':¬(i:Int)<(n:Int):=by omega
    go_wp2_with fail
    go_ret
    exact⟨rfl,HB.out⟩
theorem pthC_split (k:Int) (sl:Value) (l:List UInt8) (h:Ho):∀j v,(boxC l h).toList[j]?=some v→(pthC k sl l h)[2+j]?=some v:=fun j v hv=>by
 have e:pthC k sl l h=#[.int .i64 k,sl]++boxC l h:=by
  unfold pthC boxC
  rw[←Array.append_assoc]
  rfl
 rw[e,Array.getElem?_append_right (by simp)]
 simp only[List.size_toArray,List.length_cons,List.length_nil]
 rw[show 2+j - (0+1+1)=j from by omega]
 simpa using hv
set_option maxHeartbeats 8000000 in
set_option maxRecDepth 100000 in
theorem lsame_eq (k:Int) (sp sp1:Option Addr) (c c1:Nat) (r:List Ho) (l:List UInt8) (h:Ho) (w:World) (hr:RtM w sp r) (hr1:RtM w sp1 r) (hm:r.length≤maxLen) (okr:∀x∈r,x.a.length=16) (ha:h.a.length=16):
  Calls Tryz.prog 32 #[.agg (pthC k (.slice sp r.length c) l h),.agg (pthC k (.slice sp1 r.length c1) l h)] w fun e w'=>e=.returned (.bool true)∧Below w.heap.size w w':=by
 have hBz:=boxC_size l h ha
 have p0:Hid ((pthC k (.slice sp r.length c) l h)[0]?=some (.int .i64 k)):=(pthC_024 _ _ _ _).1
 have p1:Hid ((pthC k (.slice sp r.length c) l h)[1]?=some (.slice sp r.length c)):=(pthC_024 _ _ _ _).2.1
 have p2:Hid (∀j v,(boxC l h).toList[j]?=some v→(pthC k (.slice sp r.length c) l h)[2+j]?=some v):=pthC_split _ _ _ _
 have q0:Hid ((pthC k (.slice sp1 r.length c1) l h)[0]?=some (.int .i64 k)):=(pthC_024 _ _ _ _).1
 have q1:Hid ((pthC k (.slice sp1 r.length c1) l h)[1]?=some (.slice sp1 r.length c1)):=(pthC_024 _ _ _ _).2.1
 have q2:Hid (∀j v,(boxC l h).toList[j]?=some v→(pthC k (.slice sp1 r.length c1) l h)[2+j]?=some v):=pthC_split _ _ _ _
 generalize pthC k (.slice sp r.length c) l h=P at p0 p1 p2 ⊢
 generalize pthC k (.slice sp1 r.length c1) l h=P1 at q0 q1 q2 ⊢
 obtain⟨B,hB'⟩:∃B,B=boxC l h:=⟨_,rfl⟩
 rw[←hB']at hBz p2 q2
 have hB:Hid (B=boxC l h):=hB'
 have eB:B.toList.toArray=B:=by simp
 clear hB'
 have L1:Hid (Lies ((w.alloc (.cells P 29)).alloc (.cells P1 29)) w.heap.size P 29):=(Lies.new w _ _).alloc _
 have L2:Hid (Lies ((w.alloc (.cells P 29)).alloc (.cells P1 29)) (w.heap.size+1) P1 29):=new_one w _ _ _
 have KB:Hid (Below w.heap.size w ((w.alloc (.cells P 29)).alloc (.cells P1 29))):=((Below.refl _ _).alloc (Nat.le_refl _) _).alloc (by simp) _
 have HSH:Hid (Calls Tryz.prog 60 #[.slice sp r.length c,.slice sp1 r.length c1] ((w.alloc (.cells P 29)).alloc (.cells P1 29)) fun e w'=>e=.returned (.bool true)∧Below ((w.alloc (.cells P 29)).alloc (.cells P1 29)).heap.size ((w.alloc (.cells P 29)).alloc (.cells P1 29)) w'):=lsameh_eq sp sp1 c c1 r _ (hr.below KB.out) (hr1.below KB.out) hm okr
 clear hr hr1 okr
 go_enter Tryz.func32,Tryz.ntmps32
 go_upto_region 1 with fail
 generalize (w.alloc (.cells P 29)).alloc (.cells P1 29)=v0 at L1 L2 KB HSH ⊢
 have c0:v0.cell? ⟨w.heap.size,0,none⟩=some (.int .i64 k):=(L1.out.cell 0).trans p0.out
 have c1':v0.cell? ⟨w.heap.size,1,none⟩=some (.slice sp r.length c):=(L1.out.cell 1).trans p1.out
 have d0:v0.cell? ⟨w.heap.size+1,0,none⟩=some (.int .i64 k):=(L2.out.cell 0).trans q0.out
 have d1:v0.cell? ⟨w.heap.size+1,1,none⟩=some (.slice sp1 r.length c1):=(L2.out.cell 1).trans q1.out
 have HR0:Hid (v0.rangeAt w.heap.size 2 B.toList):=fun j v hv=>(L1.out.cell (2+j)).trans (p2.out j v hv)
 have HR1:Hid (v0.rangeAt (w.heap.size+1) 2 B.toList):=fun j v hv=>(L2.out.cell (2+j)).trans (q2.out j v hv)
 refine wp_region_lit ?_
 refine wpList_yieldG (.pointer (some ⟨w.heap.size,0,none⟩)) (by rfl) ?hy ?_
 case hy=>(go_simp<;>(first|with_reducible rfl|omega|skip))
 simp only[Act.put,pA,pB,pC]
 refine wpList_yieldG (.int .i64 k) (by rfl) ?hy ?_
 case hy=>(go_simp<;>(first|with_reducible rfl|omega|skip))
 simp only[Act.put,pA,pB,pC]
 refine wpList_yieldG (.pointer (some ⟨w.heap.size+1,0,none⟩)) (by rfl) ?hy ?_
 case hy=>(go_simp<;>(first|with_reducible rfl|omega|skip))
 simp only[Act.put,pA,pB,pC]
 refine wpList_yieldG (.int .i64 k) (by rfl) ?hy ?_
 case hy=>(go_simp<;>(first|with_reducible rfl|omega|skip))
 simp only[Act.put,pA,pB,pC]
 refine wpList_yieldG (.bool true) (by rfl) ?hy ?_
 case hy=>(go_simp<;>(first|with_reducible rfl|omega|skip))
 simp only[Act.put,pA,pB,pC]
 refine wpList_yieldG (.bool true) (by rfl) ?hy ?_
 case hy=>(go_simp<;>(first|with_reducible rfl|omega|skip))
 simp only[Act.put,pA,pB,pC]
 refine wpList_yieldG (.pointer (some ⟨w.heap.size,2,none⟩)) (by rfl) ?hy ?_
 case hy=>(go_simp<;>(first|with_reducible rfl|omega|skip))
 simp only[Act.put,pA,pB,pC]
 refine wpList_load_mid9 (by rfl) 27 _ rfl (w.heap.size) 2 rfl B.toList _ HR0.out Tryz.underlying27 rfl (by rw[Array.length_toList,hBz];exact infoBx) ?_
 rw[eB]
 simp only[Act.put,pA,pB,pC]
 refine wpList_yieldG (.pointer (some ⟨w.heap.size+1,2,none⟩)) (by rfl) ?hy ?_
 case hy=>(go_simp<;>(first|with_reducible rfl|omega|skip))
 simp only[Act.put,pA,pB,pC]
 refine wpList_load_mid9 (by rfl) 27 _ rfl (w.heap.size+1) 2 rfl B.toList _ HR1.out Tryz.underlying27 rfl (by rw[Array.length_toList,hBz];exact infoBx) ?_
 rw[eB]
 simp only[Act.put,pA,pB,pC]
 refine wpList_yieldG (.bool true) (by rfl) ?hy ?_
 case hy=>
  refine Eq.trans (exec_eql_box _ _ _ rfl l l h h ?_ ?_ ha ha) (by rw[decide_eq_true rfl,decide_eq_true rfl];rfl)
  ·(show Value.agg B=_;rw[hB.out])
  ·(show Value.agg B=_;rw[hB.out])
 simp only[Act.put,pA,pB,pC]
 refine wpList_yieldG (.bool true) (by rfl) ?hy ?_
 case hy=>(go_simp<;>(first|with_reducible rfl|omega|skip))
 simp only[Act.put,pA,pB,pC]
 refine wpList_yieldG (.bool true) (by rfl) ?hy ?_
 case hy=>(go_simp<;>(first|with_reducible rfl|omega|skip))
 simp only[Act.put,pA,pB,pC]
 refine wpList_yieldG (.pointer (some ⟨w.heap.size,1,none⟩)) (by rfl) ?hy ?_
 case hy=>(go_simp<;>(first|with_reducible rfl|omega|skip))
 simp only[Act.put,pA,pB,pC]
 refine wpList_yieldG (.slice sp r.length c) (by rfl) ?hy ?_
 case hy=>(go_simp<;>(first|with_reducible rfl|omega|skip))
 simp only[Act.put,pA,pB,pC]
 refine wpList_yieldG (.pointer (some ⟨w.heap.size+1,1,none⟩)) (by rfl) ?hy ?_
 case hy=>(go_simp<;>(first|with_reducible rfl|omega|skip))
 simp only[Act.put,pA,pB,pC]
 refine wpList_yieldG (.slice sp1 r.length c1) (by rfl) ?hy ?_
 case hy=>(go_simp<;>(first|with_reducible rfl|omega|skip))
 simp only[Act.put,pA,pB,pC]
 refine wpList_onG (by rfl) ?_
 go_simp
 refine Calls.mono (HSH.out) ?_
 rintro e w3 ⟨rfl,hb3⟩
 have K3:Hid (Below w.heap.size w w3):=KB.out.trans (hb3.mono KB.out.size)
 clear hb3
 refine wpList_yieldG (.bool true) (by rfl) ?hy ?_
 case hy=>(go_simp<;>(first|with_reducible rfl|omega|skip))
 simp only[Act.put,pA,pB,pC]
 refine wpList_yieldG (.bool true) (by rfl) ?hy ?_
 case hy=>(go_simp<;>(first|with_reducible rfl|omega|skip))
 simp only[Act.put,pA,pB,pC]
 refine wpList_nil ?_
 go_wp2
 go_ret
 exact⟨rfl,K3.out⟩
open Go.RowKit
theorem any_drop (f:Ho→Bool) (r:List Ho) (i:Nat) (hi:i<r.length):(r.drop i).any f=(f r[i]||(r.drop (i+1)).any f):=by
 rw[List.drop_eq_getElem_cons hi,List.any_cons]
set_option maxHeartbeats 8000000 in
set_option maxRecDepth 100000 in
theorem pwide_any (k:Int) (sp:Option Addr) (c:Nat) (r:List Ho) (l:List UInt8) (h:Ho) (w:World) (hr:RtM w sp r) (hm:r.length≤maxLen) (okr:∀x∈r,x.a.length=16∧x.n.length≤140737488355328) (ha:h.a.length=16) (hn:h.n.length≤140737488355328) (hl:l.length≤140737488355328) (hT:Tb w):
  Calls Tryz.prog 25 #[.agg (pthC k (.slice sp r.length c) l h)] w fun e w'=>e=.returned (.bool (wideP ⟨k,r,l,h⟩))∧Below w.heap.size w w':=by
 unfold maxLen at hm
 have hPz:=pthC_size k (.slice sp r.length c) l h ha
 have p1:Hid ((pthC k (.slice sp r.length c) l h)[1]?=some (.slice sp r.length c)):=(pthC_024 _ _ _ _).2.1
 have p2:Hid ((pthC k (.slice sp r.length c) l h)[2]?=some (.string (txt l))):=(pthC_024 _ _ _ _).2.2.1
 have p4:Hid ((pthC k (.slice sp r.length c) l h)[4]?=some (.string (txt h.n))):=(pthC_024 _ _ _ _).2.2.2.2
 generalize pthC k (.slice sp r.length c) l h=P at p1 p2 p4 hPz ⊢
 have HIW:Hid (∀(x:List UInt8) (wx:World),x.length≤140737488355328→Below w.heap.size w wx→Calls Tryz.prog 51 #[.string (txt x)] wx fun e w'=>e=.returned (.bool (highL x))∧w'=wx):=fun x wx hx hb=>by
  have:=isw_any (txt x) (by rw[txt_size];exact hx) wx (hT.below hb).cls
  rw[txt_list]at this
  exact this
 obtain⟨M,hM⟩:∃M,M=txt l:=⟨_,rfl⟩
 obtain⟨N,hN⟩:∃N,N=txt h.n:=⟨_,rfl⟩
 have HIM:Hid (∀wx,Below w.heap.size w wx→Calls Tryz.prog 51 #[.string M] wx fun e w'=>e=.returned (.bool (highL l))∧w'=wx):=fun wx hb=>by rw[hM];exact HIW.out l wx hl hb
 have HIN:Hid (∀wx,Below w.heap.size w wx→Calls Tryz.prog 51 #[.string N] wx fun e w'=>e=.returned (.bool (highL h.n))∧w'=wx):=fun wx hb=>by rw[hN];exact HIW.out h.n wx hn hb
 rw[←hM]at p2
 rw[←hN]at p4
 have L1:Hid (Lies (w.alloc (.cells P 29)) w.heap.size P 29):=Lies.new w _ _
 have KB:Hid (Below w.heap.size w (w.alloc (.cells P 29))):=(Below.refl _ _).alloc (Nat.le_refl _) _
 have HRM:Hid (RtM w sp r):=hr
 have HOK:Hid (∀x∈r,x.a.length=16∧x.n.length≤140737488355328):=okr
 obtain⟨X,hX⟩:∃X,X=wideP ⟨k,r,l,h⟩:=⟨_,rfl⟩
 rw[←hX]
 have HX:Hid (X=(r.any (fun h=>highL h.n)||highL l||highL h.n)):=hX
 clear hX hM hN hr okr hT
 by_cases h0:r=[]
 ·subst h0
  have HXW:Hid (X=(highL l||highL h.n)):=HX
  clear HX HRM HIW
  go_enter Tryz.func25,Tryz.ntmps25
  go_upto_region 1 with fail
  generalize w.alloc (.cells P 29)=wr at L1 KB ⊢
  have c1:wr.cell? ⟨w.heap.size,1,none⟩=some (.slice sp 0 c):=(L1.out.cell 1).trans p1.out
  go_wp2_with fail
  go_loop [8] (fun ci=>ci=.int .i64 0) (fun _=>0)
  case atStart=>rfl
  case round=>
   subst hrel
   have c2:wr.cell? ⟨w.heap.size,2,none⟩=some (.string M):=(L1.out.cell 2).trans p2.out
   have c4:wr.cell? ⟨w.heap.size,4,none⟩=some (.string N):=(L1.out.cell 4).trans p4.out
   have H1:Hid (Calls Tryz.prog 51 #[.string M] wr fun e w'=>e=.returned (.bool (highL l))∧w'=wr):=HIM.out wr KB.out
   have H2:Hid (Calls Tryz.prog 51 #[.string N] wr fun e w'=>e=.returned (.bool (highL h.n))∧w'=wr):=HIN.out wr KB.out
   generalize highL l=b1 at H1 HXW
   generalize highL h.n=b2 at H2 HXW
   clear HIM HIN HOK
   cases b1
   ·go_wp2_with fail
    refine H1.out.mono ?_
    rintro e w3 ⟨rfl,rfl⟩
    go_wp2_with fail
    refine H2.out.mono ?_
    rintro e w3 ⟨rfl,rfl⟩
    go_wp2_with fail
    go_ret
    exact⟨by rw[HXW.out];rfl,KB.out⟩
   ·go_wp2_with fail
    refine H1.out.mono ?_
    rintro e w3 ⟨rfl,rfl⟩
    go_wp2_with fail
    go_ret
    exact⟨by rw[HXW.out];rfl,KB.out⟩
 ·have hpos:0<r.length:=List.length_pos_iff.2 h0
  obtain⟨g0,o,hsp,hg0,hmem⟩:∃g o,sp=some ⟨g,o,none⟩∧g<w.heap.size∧∀j (hj:j<r.length),w.rangeAt g (o+j*18) (hostC r[j]).toList:=by
   rcases HRM.out with h|h
   ·exact absurd h h0
   ·exact h
  subst hsp
  have HMM:Hid (∀j (hj:j<r.length),w.rangeAt g0 (o+j*18) (hostC r[j]).toList):=hmem
  obtain⟨n,hn'⟩:∃n,n=r.length:=⟨_,rfl⟩
  have HNN:Hid (n=r.length):=hn'
  rw[←hn']at hpos hm p1
  clear hn' h0 hmem HRM
  go_enter Tryz.func25,Tryz.ntmps25
  go_upto_region 1 with fail
  generalize w.alloc (.cells P 29)=w1 at L1 KB ⊢
  have c1:w1.cell? ⟨w.heap.size,1,none⟩=some (.slice (some ⟨g0,o,none⟩) n c):=(L1.out.cell 1).trans p1.out
  go_wp2_with fail
  go_loopw [8] (fun ci wr=>∃i:Nat,i≤n∧ci=.int .i64 i∧Hid (Below w.heap.size w wr)∧Hid (Lies wr w.heap.size P 29)∧Hid (r.any (fun h=>highL h.n)=(r.drop i).any (fun h=>highL h.n))) (fun ci _=>n - (intOf ci).toNat)
  case atStart=>exact⟨0,Nat.zero_le _,rfl,KB,L1,rfl⟩
  case round=>
   clear KB L1 c1
   obtain⟨i,hi,rfl,HB,HL,HI⟩:=hrel
   by_cases hlt:i<n
   ·have hlt':(i:Int)<(n:Int):=by omega
    have hir:i<r.length:=by rw[←HNN.out];exact hlt
    obtain⟨hx16,hxn⟩:=HOK.out r[i] (List.getElem_mem hir)
    obtain⟨C,hC⟩:∃C,C=hostC r[i]:=⟨_,rfl⟩
    have hCz:C.size=18:=by rw[hC];exact hostC_size _ hx16
    have hCo:C.all (·.oneCell')=true:=by rw[hC];exact hostC_one _
    have HMC:Hid (wr.rangeAt g0 (o+i*18) C.toList):=fun j v hv=>by
     rw[HB.out.cell (p:=⟨g0,o+i*18+j,none⟩) hg0]
     rw[hC]at hv
     exact HMM.out i hir j v hv
    have hwr:w.heap.size≤wr.heap.size:=HB.out.size
    have hwl:w.heap.size<wr.heap.size:=HL.out.lt
    have HZ:Hid (Lies (wr.alloc (.cells #[.int .i64 0,.string ⟨#[]⟩,.int .u8 0,.int .u8 0,.int .u8 0,.int .u8 0,.int .u8 0,.int .u8 0,.int .u8 0,.int .u8 0,.int .u8 0,.int .u8 0,.int .u8 0,.int .u8 0,.int .u8 0,.int .u8 0,.int .u8 0,.int .u8 0] 25)) wr.heap.size #[.int .i64 0,.string ⟨#[]⟩,.int .u8 0,.int .u8 0,.int .u8 0,.int .u8 0,.int .u8 0,.int .u8 0,.int .u8 0,.int .u8 0,.int .u8 0,.int .u8 0,.int .u8 0,.int .u8 0,.int .u8 0,.int .u8 0,.int .u8 0,.int .u8 0] 25):=Lies.new wr _ _
    have HV:Hid (Lies ((wr.alloc (.cells #[.int .i64 0,.string ⟨#[]⟩,.int .u8 0,.int .u8 0,.int .u8 0,.int .u8 0,.int .u8 0,.int .u8 0,.int .u8 0,.int .u8 0,.int .u8 0,.int .u8 0,.int .u8 0,.int .u8 0,.int .u8 0,.int .u8 0,.int .u8 0,.int .u8 0] 25)).setRow wr.heap.size C) wr.heap.size C 25):=HZ.out.row C
    have HK:Hid (Below wr.heap.size wr ((wr.alloc (.cells #[.int .i64 0,.string ⟨#[]⟩,.int .u8 0,.int .u8 0,.int .u8 0,.int .u8 0,.int .u8 0,.int .u8 0,.int .u8 0,.int .u8 0,.int .u8 0,.int .u8 0,.int .u8 0,.int .u8 0,.int .u8 0,.int .u8 0,.int .u8 0,.int .u8 0] 25)).setRow wr.heap.size C)):=below_row ((Below.refl _ wr).alloc (Nat.le_refl _) _) (Nat.le_refl _) _
    have HB2:Hid (Below w.heap.size w ((wr.alloc (.cells #[.int .i64 0,.string ⟨#[]⟩,.int .u8 0,.int .u8 0,.int .u8 0,.int .u8 0,.int .u8 0,.int .u8 0,.int .u8 0,.int .u8 0,.int .u8 0,.int .u8 0,.int .u8 0,.int .u8 0,.int .u8 0,.int .u8 0,.int .u8 0,.int .u8 0] 25)).setRow wr.heap.size C)):=HB.out.trans (HK.out.mono hwr)
    have HL2:Hid (Lies ((wr.alloc (.cells #[.int .i64 0,.string ⟨#[]⟩,.int .u8 0,.int .u8 0,.int .u8 0,.int .u8 0,.int .u8 0,.int .u8 0,.int .u8 0,.int .u8 0,.int .u8 0,.int .u8 0,.int .u8 0,.int .u8 0,.int .u8 0,.int .u8 0,.int .u8 0,.int .u8 0] 25)).setRow wr.heap.size C) w.heap.size P 29):=HL.out.below HK.out HL.out.lt
    have HD:Hid ((r.drop i).any (fun h=>highL h.n)=(highL r[i].n||(r.drop (i+1)).any (fun h=>highL h.n))):=any_drop _ r i hir
    have hq1:((wr.alloc (.cells #[.int .i64 0,.string ⟨#[]⟩,.int .u8 0,.int .u8 0,.int .u8 0,.int .u8 0,.int .u8 0,.int .u8 0,.int .u8 0,.int .u8 0,.int .u8 0,.int .u8 0,.int .u8 0,.int .u8 0,.int .u8 0,.int .u8 0,.int .u8 0,.int .u8 0] 25)).setRow wr.heap.size C).cell? ⟨wr.heap.size,1,none⟩=some (.string (txt r[i].n)):=by
     refine(HV.out.cell 1).trans ?_
     rw[hC]
     rfl
    have HX1:Hid (∀wx,Below w.heap.size w wx→Calls Tryz.prog 51 #[.string (txt r[i].n)] wx fun e w'=>e=.returned (.bool (highL r[i].n))∧w'=wx):=fun wx hb=>HIW.out _ wx hxn hb
    generalize highL r[i].n=b at HD HX1
    generalize txt r[i].n=T at hq1 HX1
    clear hC hx16 hxn
    go_upto_region 4 with(first|(refine wpList_load_mid rfl 25 _ rfl g0 (o+i*18) rfl C.toList _ HMC.out Tryz.underlying25 rfl (by rw[Array.length_toList,hCz];exact infoHo) ?_)|(refine wpList_store_row rfl 25 _ _ rfl wr.heap.size rfl #[.int .i64 0,.string ⟨#[]⟩,.int .u8 0,.int .u8 0,.int .u8 0,.int .u8 0,.int .u8 0,.int .u8 0,.int .u8 0,.int .u8 0,.int .u8 0,.int .u8 0,.int .u8 0,.int .u8 0,.int .u8 0,.int .u8 0,.int .u8 0,.int .u8 0] C rfl 25 HZ.out (by rw[hCz];exact infoHo) (by rw[hCz];rfl) hCo rfl ?_))
    clear HMC HZ HV HK
    generalize (wr.alloc (.cells #[.int .i64 0,.string ⟨#[]⟩,.int .u8 0,.int .u8 0,.int .u8 0,.int .u8 0,.int .u8 0,.int .u8 0,.int .u8 0,.int .u8 0,.int .u8 0,.int .u8 0,.int .u8 0,.int .u8 0,.int .u8 0,.int .u8 0,.int .u8 0,.int .u8 0] 25)).setRow wr.heap.size C=w2 at HB2 HL2 hq1 ⊢
    cases b
    ·have HN:Hid (r.any (fun h=>highL h.n)=(r.drop (i+1)).any (fun h=>highL h.n)):=by
      show _=_
      rw[HI.out,HD.out]
      rfl
     clear HD HI
     go_wp2_with fail
     refine(HX1.out _ HB2.out).mono ?_
     rintro e w3 ⟨rfl,rfl⟩
     go_wp2_with fail
     go_roundw
     case rel=>exact⟨i+1,hlt,by go_num,HB2,HL2,HN⟩
     case measure=>simp[intOf];omega
    ·have HE:Hid (X=true):=by
      show _=_
      rw[HX.out,HI.out,HD.out]
      rfl
     clear HD HI
     go_wp2_with fail
     refine(HX1.out _ HB2.out).mono ?_
     rintro e w3 ⟨rfl,rfl⟩
     go_wp2_with fail
     go_ret
     exact⟨by rw[HE.out];rfl,HB2.out⟩
   ·have hlt':¬(i:Int)<(n:Int):=by omega
    have HXW:Hid (X=(highL l||highL h.n)):=by
     show _=_
     rw[HX.out,HI.out,List.drop_of_length_le (by rw[←HNN.out];omega)]
     rfl
    clear HI HX HIW
    have c2:wr.cell? ⟨w.heap.size,2,none⟩=some (.string M):=(HL.out.cell 2).trans p2.out
    have c4:wr.cell? ⟨w.heap.size,4,none⟩=some (.string N):=(HL.out.cell 4).trans p4.out
    have H1:Hid (Calls Tryz.prog 51 #[.string M] wr fun e w'=>e=.returned (.bool (highL l))∧w'=wr):=HIM.out wr HB.out
    have H2:Hid (Calls Tryz.prog 51 #[.string N] wr fun e w'=>e=.returned (.bool (highL h.n))∧w'=wr):=HIN.out wr HB.out
    generalize highL l=b1 at H1 HXW
    generalize highL h.n=b2 at H2 HXW
    clear HIM HIN HOK
    cases b1
    ·go_wp2_with fail
     refine H1.out.mono ?_
     rintro e w3 ⟨rfl,rfl⟩
     go_wp2_with fail
     refine H2.out.mono ?_
     rintro e w3 ⟨rfl,rfl⟩
     go_wp2_with fail
     go_ret
     exact⟨by rw[HXW.out];rfl,HB.out⟩
    ·go_wp2_with fail
     refine H1.out.mono ?_
     rintro e w3 ⟨rfl,rfl⟩
     go_wp2_with fail
     go_ret
     exact⟨by rw[HXW.out];rfl,HB.out⟩
end Go.Proofs.YtfjpkfhbmldmfaaGreatDoor
