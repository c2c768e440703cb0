/-
  The program's wrongBox.
-/
import Derived.Test.YtfjpkfhbmldmfaaGreatDoorXr9
import Derived.Test.YtfjpkfhbmldmfaaGreatDoorCk8
import Derived.Test.YtfjpkfhbmldmfaaGreatDoorLate5
namespace Go.Proofs.YtfjpkfhbmldmfaaGreatDoor
open Go.RowKit
def ckM (l:List UInt8) (h:Ho) (wide:Bool):Nat:=if ckL l wide≠0 then ckL l wide else check h wide
theorem ckL_bad {l:List UInt8} {wide:Bool} (h:¬l.all mayB=true):ckL l wide=90:=by
 unfold ckL
 rw[if_pos (Or.inl (by simpa [mayB] using h))]
theorem ckL_long {l:List UInt8} {wide:Bool} (h:64<(wrL l).length):ckL l wide=90:=by
 unfold ckL
 rw[if_pos (Or.inr h)]
theorem fw_iff (l:List UInt8) (wide:Bool):fwN wide l<l.length↔((spB loB l<l.length∧wide=false)∨badU l<l.length):=by
 unfold fwN
 cases wide
 ·rw[if_neg (by simp)]
  constructor
  ·exact fun h=>Or.inl ⟨h,rfl⟩
  ·rintro (⟨h,_⟩|h)
   ·exact h
   ·rcases Nat.lt_or_ge (spB loB l) l.length with h'|h'
    ·exact h'
    ·have:=badU_lows l (Nat.le_antisymm (spB_le loB l) h')
     omega
 ·rw[if_pos rfl]
  constructor
  ·exact fun h=>Or.inr h
  ·rintro (⟨_,h⟩|h)
   ·cases h
   ·exact h
theorem ckL_wide {l:List UInt8} {wide:Bool} (h1:l.all mayB=true) (h2:¬64<(wrL l).length) (h3:fwN wide l<l.length):ckL l wide=94:=by
 unfold ckL
 rw[if_neg (by
  rintro (h|h);·rw[show(l.all fun c=>decide (32≤c.toNat)&&!decide (c.toNat=127))=l.all mayB from rfl,h1]at h;cases h
  ·exact h2 h),if_pos ((fw_iff l wide).1 h3)]
theorem ckL_ok {l:List UInt8} {wide:Bool} (h1:l.all mayB=true) (h2:¬64<(wrL l).length) (h3:¬fwN wide l<l.length):ckL l wide=0:=by
 unfold ckL
 rw[if_neg (by
  rintro (h|h);·rw[show(l.all fun c=>decide (32≤c.toNat)&&!decide (c.toNat=127))=l.all mayB from rfl,h1]at h;cases h
  ·exact h2 h),if_neg (fun h=>h3 ((fw_iff l wide).2 h))]
theorem ckM_bad {l:List UInt8} {h:Ho} {wide:Bool} {n:Nat} (hn:n≠0) (e:ckL l wide=n):ckM l h wide=n:=by
 unfold ckM
 rw[e,if_pos hn]
set_option maxHeartbeats 4000000 in
set_option maxRecDepth 100000 in
theorem wrb_any (l:List UInt8) (h:Ho) (ha:h.a.length=16) (hn:h.n.length≤140737488355328) (hl:l.length≤140737488355328) (wide:Bool) (w:World) (hT:Td w) (hr:RepOk (txt l) w):
  Calls Tryz.prog 48 #[.agg (boxC l h),.bool wide] w fun e w'=>e=.returned (.int .i64 (ckM l h wide:Nat))∧Below w.heap.size w w':=by
 have hB0:=boxC_0 l h
 have hB1:=boxC_1 l h
 have hBz:=boxC_size l h ha
 have hsz:=hostC_size h ha
 obtain⟨B,hB⟩:∃B,B=boxC l h:=⟨_,rfl⟩
 rw[←hB]at hB0 hB1 hBz ⊢
 obtain⟨HC,hHC⟩:∃HC,HC=hostC h:=⟨_,rfl⟩
 rw[←hHC]at hB1 hsz
 obtain⟨M,hM⟩:∃M,M=txt l:=⟨_,rfl⟩
 rw[←hM]at hB0 hr
 have hMl:M.data.toList=l:=by rw[hM,txt_list]
 have hMz:M.size≤140737488355328:=by rw[hM,txt_size];exact hl
 have hMs:M.size=l.length:=by rw[hM,txt_size]
 have L1:Hid (Lies (w.alloc (.cells B 27)) w.heap.size B 27):=Lies.new w _ _
 have KB:Hid (Below w.heap.size w (w.alloc (.cells B 27))):=(Below.refl _ w).alloc (Nat.le_refl _) _
 have HCK:Hid (∀wx,Below w.heap.size w wx→Calls Tryz.prog 74 #[.agg HC,.bool wide] wx fun e w'=>e=.returned (.int .i64 (check h wide:Nat))∧Below wx.heap.size wx w'):=fun wx hx=>by
  have:=chk_any h ha wide wx (hT.below hx).tb hn
  unfold hostV at this
  rw[←hHC]at this
  exact this
 have HWL:Hid (∀wx,Below w.heap.size w wx→Calls Tryz.prog 76 #[.string M] wx fun e w'=>e=.returned (.string (txt (wrL l)))∧Below wx.heap.size wx w'):=fun wx hx=>by
  have:=wloc_any M hMz wx (hT.below hx).tb (hr.later hx)
  rw[hMl]at this
  exact this
 have HFW:Hid (∀wx,Below w.heap.size w wx→Calls Tryz.prog 77 #[.string M,.bool wide] wx fun e w'=>e=.returned (.int .i64 (fwN wide l:Nat))∧Below wx.heap.size wx w'):=fun wx hx=>by
  have:=fw_any M wide hMz wx (hT.below hx).tb.cls (hT.below hx).tb.fst
  rw[hMl]at this
  exact this
 have HMY:Hid (∀(c:UInt8) (wx:World),Below w.heap.size w wx→Calls Tryz.prog 75 #[.int .u8 (c.toNat:Int)] wx fun e w'=>e=.returned (.bool (mayB c))∧w'=wx):=fun c wx hx=>may_any c wx (hT.below hx).tb.cls
 obtain⟨T1,hT1⟩:∃T1,T1=txt (wrL l):=⟨_,rfl⟩
 have zt:T1.size=(wrL l).length:=by rw[hT1,txt_size]
 have z1:T1.size≤281474976710658:=by
  rw[zt]
  unfold wrL
  split
  ·omega
  ·have:=escL_two l
   simp only[List.length_cons,List.length_append,List.length_nil]
   omega
 rw[←hT1]at HWL
 have HB0:Hid (B[0]?=some (.string M)):=hB0
 have HB1:Hid (∀j v,HC.toList[j]?=some v→B[1+j]?=some v):=hB1
 have HML:Hid (M.data.toList=l):=hMl
 have HTZ:Hid (T1.size=(wrL l).length):=zt
 have HMS:Hid (M.size=l.length):=hMs
 clear hB hHC hM hT hr hT1 hB0 hB1 hMl zt hMs hl hn
 go_enter Tryz.func48,Tryz.ntmps48
 go_upto_region 1 with fail
 generalize w.alloc (.cells B 27)=w1 at L1 KB ⊢
 have c0:w1.cell? ⟨w.heap.size,0,none⟩=some (.string M):=(L1.out.cell 0).trans HB0.out
 go_wp2_with fail
 go_loop [9] (fun ci=>∃i:Nat,i≤M.size∧ci=.int .i64 i∧Hid (∀j,j<i→∃c,l[j]?=some c∧mayB c=true)) (fun ci=>M.size - (intOf ci).toNat)
 case atStart=>exact⟨0,Nat.zero_le _,rfl,fun j hj=>absurd hj (Nat.not_lt_zero _)⟩
 case round=>
  obtain⟨i,hi,rfl,HI⟩:=hrel
  by_cases hlt:i<M.size
  ·have hlt':(i:Int)<(M.size:Int):=by omega
   have hil:i<l.length:=by rw[←HMS.out];exact hlt
   have HMI:Hid (l[i]?=some M[i]):=by
    show _=_
    rw[←HML.out]
    exact(Array.getElem?_toList).trans (Array.getElem?_eq_getElem hlt)
   by_cases hb:mayB M[i]=true
   ·have HX:Hid (Calls Tryz.prog 75 #[.int .u8 (M[i].toNat:Int)] w1 fun e w'=>e=.returned (.bool true)∧w'=w1):=by
     have:=HMY.out M[i] w1 KB.out
     rw[hb]at this
     exact this
    have HN:Hid (∀j,j<i+1→∃c,l[j]?=some c∧mayB c=true):=fun j hj=>by
     rcases Nat.lt_succ_iff_lt_or_eq.1 hj with h'|rfl
     ·exact HI.out j h'
     ·exact⟨_,HMI.out,hb⟩
    clear hb HMI HI HMY
    go_wp2_with fail
    refine HX.out.mono ?_
    rintro e w2 ⟨rfl,rfl⟩
    go_wp2_with fail
    go_round
    case rel=>exact⟨i+1,hlt,by go_num,HN⟩
    case measure=>simp[intOf];omega
   ·have HX:Hid (Calls Tryz.prog 75 #[.int .u8 (M[i].toNat:Int)] w1 fun e w'=>e=.returned (.bool false)∧w'=w1):=by
     have:=HMY.out M[i] w1 KB.out
     rw[Bool.not_eq_true]at hb
     rw[hb]at this
     exact this
    have HE:Hid (ckM l h wide=90):=ckM_bad (by omega) (ckL_bad (fun hall=>hb (List.all_eq_true.1 hall _ (List.mem_of_getElem? HMI.out))))
    clear hb HMI HI HMY
    go_wp2_with fail
    refine HX.out.mono ?_
    rintro e w2 ⟨rfl,rfl⟩
    go_wp2_with fail
    go_ret
    exact⟨by rw[HE.out];rfl,KB.out⟩
  ·have hlt':¬(i:Int)<(M.size:Int):=by omega
   have HA:Hid (l.all mayB=true):=by
    show _=_
    rw[List.all_eq_true]
    intro c hc
    obtain⟨j,hj,rfl⟩:=List.getElem_of_mem hc
    obtain⟨c,e1,e2⟩:=HI.out j (by have:=HMS.out;omega)
    rw[List.getElem?_eq_getElem hj]at e1
    injection e1 with e1
    rw[e1]
    exact e2
   clear HI HMY
   go_wp2_with fail
   refine(HWL.out _ KB.out).mono ?_
   rintro e v0 ⟨rfl,hb2⟩
   have L2:Hid (Lies v0 w.heap.size B 27):=L1.out.below hb2 L1.out.lt
   have K2:Hid (Below w.heap.size w v0):=KB.out.trans (hb2.mono KB.out.size)
   clear hb2 c0 L1 KB HWL
   by_cases h64:64<T1.size
   ·have h64':(64:Int)<(T1.size:Int):=by omega
    have HE:Hid (ckM l h wide=90):=ckM_bad (by omega) (ckL_long (by rw[←HTZ.out];exact h64))
    go_wp2_with fail
    go_ret
    exact⟨by rw[HE.out];rfl,K2.out⟩
   ·have h64':¬(64:Int)<(T1.size:Int):=by omega
    go_upto_region 9 with fail
    by_cases hf:fwN wide l<l.length
    ·have hf':((fwN wide l:Nat):Int)<(M.size:Int):=by have:=HMS.out;omega
     have HE:Hid (ckM l h wide=94):=ckM_bad (by omega) (ckL_wide HA.out (by rw[←HTZ.out];exact h64) hf)
     refine wp_region_late (fun wx=>Below v0.heap.size v0 wx) 8 (by kernel_rfl) (Below.refl _ v0).drew (fun hHeld=>?_)
     refine tk9 0 (some 24) (.pointer (some ⟨w.heap.size,0,none⟩)) ?_
     simp only[Act.put,pA,pB,pC]
     refine tk9 1 (some 25) (.string M) ?_ (hy:=?hy)
     case hy=>(intro w' hSw;have hq1:=((L2.out.below hSw L2.out.lt).cell 0).trans HB0.out;go_simp<;>(first|with_reducible rfl|omega|skip))
     simp only[Act.put,pA,pB,pC]
     refine tk9 2 (some 26) (.bool wide) ?_
     simp only[Act.put,pA,pB,pC]
     refine tk9 4 (some 28) (.pointer (some ⟨w.heap.size,0,none⟩)) ?_
     simp only[Act.put,pA,pB,pC]
     refine tk9 5 (some 29) (.string M) ?_ (hy:=?hy)
     case hy=>(intro w' hSw;have hq1:=((L2.out.below hSw L2.out.lt).cell 0).trans HB0.out;go_simp<;>(first|with_reducible rfl|omega|skip))
     simp only[Act.put,pA,pB,pC]
     refine tk9 6 (some 30) (.int .i64 (M.size:Int)) ?_
     simp only[Act.put,pA,pB,pC]
     refine on9 3 ?_
     refine oper_call (some 27) 77 #[.string M,.bool wide] (fun v w'=>v=.int .i64 (fwN wide l:Nat)∧Below v0.heap.size v0 w') rfl (by go_simp) ((HFW.out _ (K2.out.trans ((Below.refl _ v0).drew.mono K2.out.size))).mono (fun e w' q=>⟨_,q.1,rfl,(Below.refl _ v0).drew.trans q.2⟩)) ?_
     rintro v y1 ⟨rfl,hy1⟩
     refine⟨Or.inr hy1,?_⟩
     simp only[Act.put,pA,pB,pC]
     refine tk9 7 (some 31) (.bool true) ?_
     simp only[Act.put,pA,pB,pC]
     refine wpAnyE_done (by kernel_rfl) ?_ _
     clear hHeld
     have K3:Hid (Below w.heap.size w y1):=K2.out.trans (hy1.mono K2.out.size)
     go_wp2_with fail
     go_ret
     exact⟨by rw[HE.out];rfl,K3.out⟩
    ·have hf':¬((fwN wide l:Nat):Int)<(M.size:Int):=by have:=HMS.out;omega
     have HE:Hid (ckM l h wide=check h wide):=by
      show _=_
      unfold ckM
      rw[ckL_ok HA.out (by rw[←HTZ.out];exact h64) hf,if_neg (by simp)]
     refine wp_region_late (fun wx=>Below v0.heap.size v0 wx) 8 (by kernel_rfl) (Below.refl _ v0).drew (fun hHeld=>?_)
     refine tk9 0 (some 24) (.pointer (some ⟨w.heap.size,0,none⟩)) ?_
     simp only[Act.put,pA,pB,pC]
     refine tk9 1 (some 25) (.string M) ?_ (hy:=?hy)
     case hy=>(intro w' hSw;have hq1:=((L2.out.below hSw L2.out.lt).cell 0).trans HB0.out;go_simp<;>(first|with_reducible rfl|omega|skip))
     simp only[Act.put,pA,pB,pC]
     refine tk9 2 (some 26) (.bool wide) ?_
     simp only[Act.put,pA,pB,pC]
     refine tk9 4 (some 28) (.pointer (some ⟨w.heap.size,0,none⟩)) ?_
     simp only[Act.put,pA,pB,pC]
     refine tk9 5 (some 29) (.string M) ?_ (hy:=?hy)
     case hy=>(intro w' hSw;have hq1:=((L2.out.below hSw L2.out.lt).cell 0).trans HB0.out;go_simp<;>(first|with_reducible rfl|omega|skip))
     simp only[Act.put,pA,pB,pC]
     refine tk9 6 (some 30) (.int .i64 (M.size:Int)) ?_
     simp only[Act.put,pA,pB,pC]
     refine on9 3 ?_
     refine oper_call (some 27) 77 #[.string M,.bool wide] (fun v w'=>v=.int .i64 (fwN wide l:Nat)∧Below v0.heap.size v0 w') rfl (by go_simp) ((HFW.out _ (K2.out.trans ((Below.refl _ v0).drew.mono K2.out.size))).mono (fun e w' q=>⟨_,q.1,rfl,(Below.refl _ v0).drew.trans q.2⟩)) ?_
     rintro v y1 ⟨rfl,hy1⟩
     refine⟨Or.inr hy1,?_⟩
     simp only[Act.put,pA,pB,pC]
     refine tk9 7 (some 31) (.bool false) ?_
     simp only[Act.put,pA,pB,pC]
     refine wpAnyE_done (by kernel_rfl) ?_ _
     clear hHeld
     have K3:Hid (Below w.heap.size w y1):=K2.out.trans (hy1.mono K2.out.size)
     have HRG:Hid (y1.rangeAt w.heap.size 1 HC.toList):=fun j v hv=>((L2.out.below hy1 L2.out.lt).cell (1+j)).trans (HB1.out j v hv)
     clear hy1
     go_wp2_with (refine wpList_load_mid rfl 25 _ rfl w.heap.size 1 rfl HC.toList _ HRG.out Tryz.underlying25 rfl (by rw[Array.length_toList,hsz];exact infoHo) ?_)
     refine(HCK.out _ K3.out).mono ?_
     rintro e w5 ⟨rfl,hb5⟩
     go_wp2_with fail
     go_ret
     exact⟨by rw[HE.out];rfl,K3.out.trans (hb5.mono K3.out.size)⟩
open Go.RowKit
def ckT (r:List Ho) (wide:Bool):Nat:=if 16<r.length∨r.all (fun h=>decide (h.k=1))=false then 92 else ckR r wide
theorem ckT_far {r:List Ho} {wide:Bool} (h:16<r.length):ckT r wide=92:=if_pos (Or.inl h)
theorem ckT_kind {r:List Ho} {wide:Bool} {i:Nat} (hi:i<r.length) (h:r[i].k≠1):ckT r wide=92:=if_pos (Or.inr (by
 rw[←Bool.not_eq_true]
 intro ha
 exact h (of_decide_eq_true (List.all_eq_true.1 ha _ (List.getElem_mem hi)))))
theorem ckT_ok {r:List Ho} {wide:Bool} (h:r.length≤16) (hk:∀j (hj:j<r.length),r[j].k=1):ckT r wide=ckR r wide:=if_neg (by
 rintro (h'|h')
 ·omega
 ·have:r.all (fun h=>decide (h.k=1))=true:=by
   rw[List.all_eq_true]
   intro x hx
   obtain⟨j,hj,rfl⟩:=List.getElem_of_mem hx
   exact decide_eq_true (hk j hj)
  rw[this]at h'
  cases h')
theorem ckR_drop (r:List Ho) (wide:Bool) (i:Nat) (hi:i<r.length):ckR (r.drop i) wide=if check r[i] wide=0 then ckR (r.drop (i+1)) wide else check r[i] wide:=by
 rw[List.drop_eq_getElem_cons hi,ckR]
set_option maxHeartbeats 8000000 in
set_option maxRecDepth 100000 in
theorem wrr_any (sp:Option Addr) (c:Nat) (r:List Ho) (w:World) (hr:RtM w sp r) (hT:Td w) (hm:r.length≤maxLen) (okr:∀x∈r,x.a.length=16∧x.n.length≤140737488355328) (wide:Bool):
  Calls Tryz.prog 47 #[.slice sp r.length c,.bool wide] w fun e w'=>e=.returned (.int .i64 (ckT r wide:Nat))∧Below w.heap.size w w':=by
 unfold maxLen at hm
 by_cases h16:16<r.length
 ·have HE:Hid (ckT r wide=92):=ckT_far h16
  have h16':(16:Int)<(r.length:Int):=by omega
  go_enter Tryz.func47,Tryz.ntmps47
  go_wp2_with fail
  go_ret
  exact⟨by rw[HE.out];rfl,Below.refl _ _⟩
 ·by_cases h0:r=[]
  ·subst h0
   go_enter Tryz.func47,Tryz.ntmps47
   go_wp2_with fail
   go_loop [15] (fun ci=>ci=.int .i64 0) (fun _=>0)
   case atStart=>rfl
   case round=>
    subst hrel
    go_wp2_with fail
    go_loop [25] (fun ci=>ci=.int .i64 0) (fun _=>0)
    case atStart=>rfl
    case round=>
     subst hrel
     go_wp2_with fail
     go_ret
     exact⟨rfl,Below.refl _ _⟩
  ·have hpos:0<r.length:=List.length_pos_iff.2 h0
   obtain⟨g0,o,hsp,hg0,hmem⟩:∃g o,sp=some ⟨g,o,none⟩∧g<w.heap.size∧∀j (hj:j<r.length),w.rangeAt g (o+j*18) (hostC r[j]).toList:=by
    rcases hr with h|h
    ·exact absurd h h0
    ·exact h
   subst hsp
   have HMM:Hid (∀j (hj:j<r.length),w.rangeAt g0 (o+j*18) (hostC r[j]).toList):=hmem
   have HOK:Hid (∀x∈r,x.a.length=16∧x.n.length≤140737488355328):=okr
   have HCK:Hid (∀(x:Ho) (wx:World),x∈r→Below w.heap.size w wx→Calls Tryz.prog 74 #[.agg (hostC x),.bool wide] wx fun e w'=>e=.returned (.int .i64 (check x wide:Nat))∧Below wx.heap.size wx w'):=fun x wx hx hb=>chk_any x (okr x hx).1 wide wx (hT.below hb).tb (okr x hx).2
   obtain⟨n,hn⟩:∃n,n=r.length:=⟨_,rfl⟩
   have HNN:Hid (n=r.length):=hn
   rw[←hn]at h16 hpos hm ⊢
   have h16':¬(16:Int)<(n:Int):=by omega
   clear hn h0 hr okr hmem hT
   go_enter Tryz.func47,Tryz.ntmps47
   go_wp2_with fail
   go_loopw [15] (fun ci wr=>∃i:Nat,i≤n∧ci=.int .i64 i∧Hid (Below w.heap.size w wr)∧Hid (∀j (hj:j<r.length),j<i→r[j].k=1)) (fun ci _=>n - (intOf ci).toNat)
   case atStart=>exact⟨0,Nat.zero_le _,rfl,Below.refl _ _,fun j _ hj=>absurd hj (Nat.not_lt_zero _)⟩
   case round=>
    obtain⟨i,hi,rfl,HB,HI⟩:=hrel
    by_cases hlt:i<n
    ·have hlt':(i:Int)<(n:Int):=by omega
     have hir:i<r.length:=by rw[←HNN.out];exact hlt
     obtain⟨hx16,hxn⟩:=HOK.out r[i] (List.getElem_mem hir)
     obtain⟨C,hC⟩:∃C,C=hostC r[i]:=⟨_,rfl⟩
     have hCz:C.size=18:=by rw[hC];exact hostC_size _ hx16
     have hCo:C.all (·.oneCell')=true:=by rw[hC];exact hostC_one _
     have HMC:Hid (wr.rangeAt g0 (o+i*18) C.toList):=fun j v hv=>by
      rw[HB.out.cell (p:=⟨g0,o+i*18+j,none⟩) hg0]
      rw[hC]at hv
      exact HMM.out i hir j v hv
     have hwr:w.heap.size≤wr.heap.size:=HB.out.size
     have HZ:Hid (Lies (wr.alloc (.cells #[.int .i64 0,.string ⟨#[]⟩,.int .u8 0,.int .u8 0,.int .u8 0,.int .u8 0,.int .u8 0,.int .u8 0,.int .u8 0,.int .u8 0,.int .u8 0,.int .u8 0,.int .u8 0,.int .u8 0,.int .u8 0,.int .u8 0,.int .u8 0,.int .u8 0] 25)) wr.heap.size #[.int .i64 0,.string ⟨#[]⟩,.int .u8 0,.int .u8 0,.int .u8 0,.int .u8 0,.int .u8 0,.int .u8 0,.int .u8 0,.int .u8 0,.int .u8 0,.int .u8 0,.int .u8 0,.int .u8 0,.int .u8 0,.int .u8 0,.int .u8 0,.int .u8 0] 25):=Lies.new wr _ _
     have HV:Hid (Lies ((wr.alloc (.cells #[.int .i64 0,.string ⟨#[]⟩,.int .u8 0,.int .u8 0,.int .u8 0,.int .u8 0,.int .u8 0,.int .u8 0,.int .u8 0,.int .u8 0,.int .u8 0,.int .u8 0,.int .u8 0,.int .u8 0,.int .u8 0,.int .u8 0,.int .u8 0,.int .u8 0] 25)).setRow wr.heap.size C) wr.heap.size C 25):=HZ.out.row C
     have HB2:Hid (Below w.heap.size w ((wr.alloc (.cells #[.int .i64 0,.string ⟨#[]⟩,.int .u8 0,.int .u8 0,.int .u8 0,.int .u8 0,.int .u8 0,.int .u8 0,.int .u8 0,.int .u8 0,.int .u8 0,.int .u8 0,.int .u8 0,.int .u8 0,.int .u8 0,.int .u8 0,.int .u8 0,.int .u8 0] 25)).setRow wr.heap.size C)):=HB.out.trans ((below_row ((Below.refl _ wr).alloc (Nat.le_refl _) _) (Nat.le_refl _) _).mono hwr)
     obtain⟨k,hk⟩:∃k,k=r[i].k:=⟨_,rfl⟩
     have c0:((wr.alloc (.cells #[.int .i64 0,.string ⟨#[]⟩,.int .u8 0,.int .u8 0,.int .u8 0,.int .u8 0,.int .u8 0,.int .u8 0,.int .u8 0,.int .u8 0,.int .u8 0,.int .u8 0,.int .u8 0,.int .u8 0,.int .u8 0,.int .u8 0,.int .u8 0,.int .u8 0] 25)).setRow wr.heap.size C).cell? ⟨wr.heap.size,0,none⟩=some (.int .i64 k):=by
      refine(HV.out.cell 0).trans ?_
      rw[hC,hk]
      rfl
     have HKK:Hid (k=r[i].k):=hk
     clear hC hk hx16 hxn HCK
     go_upto_region 6 with(first|(refine wpList_load_mid rfl 25 _ rfl g0 (o+i*18) rfl C.toList _ HMC.out Tryz.underlying25 rfl (by rw[Array.length_toList,hCz];exact infoHo) ?_)|(refine wpList_store_row rfl 25 _ _ rfl wr.heap.size rfl #[.int .i64 0,.string ⟨#[]⟩,.int .u8 0,.int .u8 0,.int .u8 0,.int .u8 0,.int .u8 0,.int .u8 0,.int .u8 0,.int .u8 0,.int .u8 0,.int .u8 0,.int .u8 0,.int .u8 0,.int .u8 0,.int .u8 0,.int .u8 0,.int .u8 0] C rfl 25 HZ.out (by rw[hCz];exact infoHo) (by rw[hCz];rfl) hCo rfl ?_))
     clear HMC HZ HV
     generalize (wr.alloc (.cells #[.int .i64 0,.string ⟨#[]⟩,.int .u8 0,.int .u8 0,.int .u8 0,.int .u8 0,.int .u8 0,.int .u8 0,.int .u8 0,.int .u8 0,.int .u8 0,.int .u8 0,.int .u8 0,.int .u8 0,.int .u8 0,.int .u8 0,.int .u8 0,.int .u8 0] 25)).setRow wr.heap.size C=w2 at HB2 c0 ⊢
     by_cases hk1:k=1
     ·have HN:Hid (∀j (hj:j<r.length),j<i+1→r[j].k=1):=fun j hj hji=>by
       rcases Nat.lt_succ_iff_lt_or_eq.1 hji with h'|rfl
       ·exact HI.out j hj h'
       ·rw[←HKK.out,hk1]
      subst hk1
      clear HKK HI
      go_wp2_with fail
      go_roundw
      case rel=>exact⟨i+1,hlt,by go_num,HB2,HN⟩
      case measure=>simp[intOf];omega
     ·have HE:Hid (ckT r wide=92):=ckT_kind hir (by rw[←HKK.out];exact hk1)
      clear HKK HI
      go_wp2_with fail
      go_ret
      exact⟨by rw[HE.out];rfl,HB2.out⟩
    ·have hlt':¬(i:Int)<(n:Int):=by omega
     have HE0:Hid (ckT r wide=ckR r wide):=ckT_ok (by rw[←HNN.out];omega) (fun j hj=>HI.out j hj (by have:=HNN.out;omega))
     clear HI
     go_wp2_with fail
     have HB0:=HB
     clear HB
     go_loopw [25] (fun ci wr=>∃i:Nat,i≤n∧ci=.int .i64 i∧Hid (Below w.heap.size w wr)∧Hid (ckR r wide=ckR (r.drop i) wide)) (fun ci _=>n - (intOf ci).toNat)
     case atStart=>exact⟨0,Nat.zero_le _,rfl,HB0,rfl⟩
     case round=>
      clear HB0 hlt hlt' hi
      obtain⟨i,hi,rfl,HB,HI⟩:=hrel
      by_cases hlt:i<n
      ·have hlt':(i:Int)<(n:Int):=by omega
       have hir:i<r.length:=by rw[←HNN.out];exact hlt
       obtain⟨hx16,hxn⟩:=HOK.out r[i] (List.getElem_mem hir)
       obtain⟨C,hC⟩:∃C,C=hostC r[i]:=⟨_,rfl⟩
       have hCz:C.size=18:=by rw[hC];exact hostC_size _ hx16
       have hCo:C.all (·.oneCell')=true:=by rw[hC];exact hostC_one _
       have HMC:Hid (wr.rangeAt g0 (o+i*18) C.toList):=fun j v hv=>by
        rw[HB.out.cell (p:=⟨g0,o+i*18+j,none⟩) hg0]
        rw[hC]at hv
        exact HMM.out i hir j v hv
       have hwr:w.heap.size≤wr.heap.size:=HB.out.size
       have HZ:Hid (Lies (wr.alloc (.cells #[.int .i64 0,.string ⟨#[]⟩,.int .u8 0,.int .u8 0,.int .u8 0,.int .u8 0,.int .u8 0,.int .u8 0,.int .u8 0,.int .u8 0,.int .u8 0,.int .u8 0,.int .u8 0,.int .u8 0,.int .u8 0,.int .u8 0,.int .u8 0,.int .u8 0] 25)) wr.heap.size #[.int .i64 0,.string ⟨#[]⟩,.int .u8 0,.int .u8 0,.int .u8 0,.int .u8 0,.int .u8 0,.int .u8 0,.int .u8 0,.int .u8 0,.int .u8 0,.int .u8 0,.int .u8 0,.int .u8 0,.int .u8 0,.int .u8 0,.int .u8 0,.int .u8 0] 25):=Lies.new wr _ _
       have HV:Hid (Lies ((wr.alloc (.cells #[.int .i64 0,.string ⟨#[]⟩,.int .u8 0,.int .u8 0,.int .u8 0,.int .u8 0,.int .u8 0,.int .u8 0,.int .u8 0,.int .u8 0,.int .u8 0,.int .u8 0,.int .u8 0,.int .u8 0,.int .u8 0,.int .u8 0,.int .u8 0,.int .u8 0] 25)).setRow wr.heap.size C) wr.heap.size C 25):=HZ.out.row C
       have HB2:Hid (Below w.heap.size w ((wr.alloc (.cells #[.int .i64 0,.string ⟨#[]⟩,.int .u8 0,.int .u8 0,.int .u8 0,.int .u8 0,.int .u8 0,.int .u8 0,.int .u8 0,.int .u8 0,.int .u8 0,.int .u8 0,.int .u8 0,.int .u8 0,.int .u8 0,.int .u8 0,.int .u8 0,.int .u8 0] 25)).setRow wr.heap.size C)):=HB.out.trans ((below_row ((Below.refl _ wr).alloc (Nat.le_refl _) _) (Nat.le_refl _) _).mono hwr)
       have HD:Hid (ckR (r.drop i) wide=if check r[i] wide=0 then ckR (r.drop (i+1)) wide else check r[i] wide):=ckR_drop r wide i hir
       have HX:Hid (∀wx,Below w.heap.size w wx→Calls Tryz.prog 74 #[.agg C,.bool wide] wx fun e w'=>e=.returned (.int .i64 (check r[i] wide:Nat))∧Below wx.heap.size wx w'):=fun wx hb=>by
        rw[hC]
        exact HCK.out _ wx (List.getElem_mem hir) hb
       generalize check r[i] wide=m at HD HX
       clear hC hx16 hxn
       go_upto_region 12 with(first|(refine wpList_load_mid rfl 25 _ rfl g0 (o+i*18) rfl C.toList _ HMC.out Tryz.underlying25 rfl (by rw[Array.length_toList,hCz];exact infoHo) ?_)|(refine wpList_store_row rfl 25 _ _ rfl wr.heap.size rfl #[.int .i64 0,.string ⟨#[]⟩,.int .u8 0,.int .u8 0,.int .u8 0,.int .u8 0,.int .u8 0,.int .u8 0,.int .u8 0,.int .u8 0,.int .u8 0,.int .u8 0,.int .u8 0,.int .u8 0,.int .u8 0,.int .u8 0,.int .u8 0,.int .u8 0] C rfl 25 HZ.out (by rw[hCz];exact infoHo) (by rw[hCz];rfl) hCo rfl ?_))
       clear HMC HZ
       generalize (wr.alloc (.cells #[.int .i64 0,.string ⟨#[]⟩,.int .u8 0,.int .u8 0,.int .u8 0,.int .u8 0,.int .u8 0,.int .u8 0,.int .u8 0,.int .u8 0,.int .u8 0,.int .u8 0,.int .u8 0,.int .u8 0,.int .u8 0,.int .u8 0,.int .u8 0,.int .u8 0] 25)).setRow wr.heap.size C=w2 at HB2 HV ⊢
       go_wp2_with (refine wpList_load_row9 (by rfl) 25 _ rfl wr.heap.size rfl C 25 _ HV.out Tryz.underlying25 rfl (by rw[hCz];exact infoHo) ?_)
       refine(HX.out _ HB2.out).mono ?_
       rintro e w3 ⟨rfl,hb3⟩
       have HB3:Hid (Below w.heap.size w w3):=HB2.out.trans (hb3.mono HB2.out.size)
       clear hb3 HB2 HX HV
       by_cases hm0:m=0
       ·have HN:Hid (ckR r wide=ckR (r.drop (i+1)) wide):=by
         show _=_
         rw[HI.out,HD.out,if_pos hm0]
        subst hm0
        clear HD HI
        go_wp2_with fail
        go_roundw
        case rel=>exact⟨i+1,hlt,by go_num,HB3,HN⟩
        case measure=>simp[intOf];omega
       ·have hm0':¬(m:Int)=0:=by omega
        have HN:Hid (ckT r wide=m):=by
         show _=_
         rw[HE0.out,HI.out,HD.out,if_neg hm0]
        clear HD HI
        go_wp2_with fail
        go_ret
        exact⟨by rw[HN.out];rfl,HB3.out⟩
      ·have hlt':¬(i:Int)<(n:Int):=by omega
       have HN:Hid (ckT r wide=0):=by
        show _=_
        rw[HE0.out,HI.out,List.drop_of_length_le (by rw[←HNN.out];omega)]
        rfl
       clear HI
       go_wp2_with fail
       go_ret
       exact⟨by rw[HN.out];rfl,HB.out⟩
end Go.Proofs.YtfjpkfhbmldmfaaGreatDoor
