/-
  The statements' own host.
-/
import Derived.Test.YtfjpkfhbmldmfabGreatDoorYf9
import Derived.Test.YtfjpkfhbmldmfabGreatDoorXz9
import Derived.Test.YtfjpkfhbmldmfabGreatDoorLt8
namespace Go.Proofs.YtfjpkfhbmldmfabGreatDoor
open Go.RowKit
def rawC (lc hs:List UInt8) (a:List Nat) (k:Int) (sl:Value):Array Value:=#[.string (txt lc),.string (txt hs)]++(bytesV a++#[.int .i64 k,sl])
theorem rawC_at (lc hs:List UInt8) (a:List Nat) (k:Int) (sl:Value) (ha:a.length=16):(rawC lc hs a k sl)[0]?=some (.string (txt lc))∧(rawC lc hs a k sl)[1]?=some (.string (txt hs))∧(rawC lc hs a k sl)[18]?=some (.int .i64 k)∧(rawC lc hs a k sl)[19]?=some sl∧∀j v,(bytesV a).toList[j]?=some v→(rawC lc hs a k sl)[2+j]?=some v:=by
 have hz:(bytesV a).size=16:=by unfold bytesV;simp[ha]
 unfold rawC
 refine⟨by rw[Array.getElem?_append_left (by simp)];rfl,by rw[Array.getElem?_append_left (by simp)];rfl,?_,?_,fun j v hv=>?_⟩
 ·rw[Array.getElem?_append_right (by simp),Array.getElem?_append_right (by rw[hz];simp),hz]
  rfl
 ·rw[Array.getElem?_append_right (by simp),Array.getElem?_append_right (by rw[hz];simp),hz]
  rfl
 ·have hj:j<16:=by
   have:=(List.getElem?_eq_some_iff.1 hv).1
   rw[Array.length_toList,hz]at this
   exact this
  rw[Array.getElem?_append_right (by simp),Array.getElem?_append_left (by rw[hz];simp;omega)]
  simp only[List.size_toArray,List.length_cons,List.length_nil]
  rw[show 2+j - (0+1+1)=j from by omega]
  simpa using hv
theorem nameC (k:Int) (n:List UInt8):hostC ⟨k,n,z16⟩=#[.int .i64 k,.string (txt n),.int .u8 0,.int .u8 0,.int .u8 0,.int .u8 0,.int .u8 0,.int .u8 0,.int .u8 0,.int .u8 0,.int .u8 0,.int .u8 0,.int .u8 0,.int .u8 0,.int .u8 0,.int .u8 0,.int .u8 0,.int .u8 0]:=by
 unfold hostC txt
 rfl
set_option maxHeartbeats 8000000 in
set_option maxRecDepth 100000 in
theorem hostl_any (lc hs:List UInt8) (a:List Nat) (k:Int) (sl:Value) (ha:a.length=16) (hlc:lc.length≤140737488355328) (hhs:hs.length≤140737488355328) (h1:Int.tmod k 4≠1) (w:World):
  Calls Tryz.prog 26 #[.agg (rawC lc hs a k sl)] w fun e w'=>e=.returned (hostV (hostM (Int.tmod k 4) a hs lc))∧Below w.heap.size w w':=by
 obtain⟨r0,r1,r18,_,r2⟩:=rawC_at lc hs a k sl ha
 generalize rawC lc hs a k sl=P at r0 r1 r18 r2 ⊢
 obtain⟨Lc,hLc⟩:∃Lc,Lc=txt lc:=⟨_,rfl⟩
 obtain⟨Hs,hHs⟩:∃Hs,Hs=txt hs:=⟨_,rfl⟩
 rw[←hLc]at r0
 rw[←hHs]at r1
 have p0:Hid (P[0]?=some (.string Lc)):=r0
 have p1:Hid (P[1]?=some (.string Hs)):=r1
 have p18:Hid (P[18]?=some (.int .i64 k)):=r18
 have p2:Hid (∀j v,(bytesV a).toList[j]?=some v→P[2+j]?=some v):=r2
 have HTG:Hid (∀wx,Calls Tryz.prog 44 #[.string Hs,.int .i64 20] wx fun e w'=>e=.returned (.string (txt (tggd hs 20)))∧Below wx.heap.size wx w'):=fun wx=>by
  have:=taggedl_any Hs (by rw[hHs,txt_size];exact hhs) 20 (by omega) wx
  rw[hHs,txt_list]at this
  rw[hHs]
  exact this
 have HL1:Hid (∀wx,Calls Tryz.prog 27 #[.string Hs,.int .i64 30] wx fun e w'=>e=.returned (.string (txt (ltrs hs 30)))∧Below wx.heap.size wx w'):=fun wx=>by
  have:=letters_any Hs (by rw[hHs,txt_size];exact hhs) 30 (by omega) wx
  rw[hHs,txt_list]at this
  rw[hHs]
  exact this
 have HL2:Hid (∀wx,Calls Tryz.prog 27 #[.string Lc,.int .i64 10] wx fun e w'=>e=.returned (.string (txt (ltrs lc 10)))∧Below wx.heap.size wx w'):=fun wx=>by
  have:=letters_any Lc (by rw[hLc,txt_size];exact hlc) 10 (by omega) wx
  rw[hLc,txt_list]at this
  rw[hLc]
  exact this
 have hg1:=(tggd_is hs 20 (by omega)).2.1
 have hg2:=(ltrs_is hs 30 (by omega)).2.1
 have hg3:=(ltrs_is lc 10 (by omega)).2.1
 have L1:Hid (Lies ((w.alloc (.cells P 45)).alloc (.cells #[.int .i64 0,.string ⟨#[]⟩,.int .u8 0,.int .u8 0,.int .u8 0,.int .u8 0,.int .u8 0,.int .u8 0,.int .u8 0,.int .u8 0,.int .u8 0,.int .u8 0,.int .u8 0,.int .u8 0,.int .u8 0,.int .u8 0,.int .u8 0,.int .u8 0] 28)) w.heap.size P 45):=(Lies.new w _ _).alloc _
 have L2:Hid (Lies ((w.alloc (.cells P 45)).alloc (.cells #[.int .i64 0,.string ⟨#[]⟩,.int .u8 0,.int .u8 0,.int .u8 0,.int .u8 0,.int .u8 0,.int .u8 0,.int .u8 0,.int .u8 0,.int .u8 0,.int .u8 0,.int .u8 0,.int .u8 0,.int .u8 0,.int .u8 0,.int .u8 0,.int .u8 0] 28)) (w.heap.size+1) #[.int .i64 0,.string ⟨#[]⟩,.int .u8 0,.int .u8 0,.int .u8 0,.int .u8 0,.int .u8 0,.int .u8 0,.int .u8 0,.int .u8 0,.int .u8 0,.int .u8 0,.int .u8 0,.int .u8 0,.int .u8 0,.int .u8 0,.int .u8 0,.int .u8 0] 28):=new_one w _ _ _
 have KB:Hid (Below w.heap.size w ((w.alloc (.cells P 45)).alloc (.cells #[.int .i64 0,.string ⟨#[]⟩,.int .u8 0,.int .u8 0,.int .u8 0,.int .u8 0,.int .u8 0,.int .u8 0,.int .u8 0,.int .u8 0,.int .u8 0,.int .u8 0,.int .u8 0,.int .u8 0,.int .u8 0,.int .u8 0,.int .u8 0,.int .u8 0] 28))):=((Below.refl _ _).alloc (Nat.le_refl _) _).alloc (by simp) _
 obtain⟨hx,hhx⟩:∃hx,hx=hostM (Int.tmod k 4) a hs lc:=⟨_,rfl⟩
 rw[←hhx]
 have HHM:Hid (hx=hostM (Int.tmod k 4) a hs lc):=hhx
 clear r0 r1 r18 r2 hLc hHs hhx
 go_enter Tryz.func26,Tryz.ntmps26
 go_upto_region 1 with fail
 generalize (w.alloc (.cells P 45)).alloc (.cells #[.int .i64 0,.string ⟨#[]⟩,.int .u8 0,.int .u8 0,.int .u8 0,.int .u8 0,.int .u8 0,.int .u8 0,.int .u8 0,.int .u8 0,.int .u8 0,.int .u8 0,.int .u8 0,.int .u8 0,.int .u8 0,.int .u8 0,.int .u8 0,.int .u8 0] 28)=v0 at L1 L2 KB ⊢
 have c18:v0.cell? ⟨w.heap.size,18,none⟩=some (.int .i64 k):=(L1.out.cell 18).trans p18.out
 have c0:v0.cell? ⟨w.heap.size,0,none⟩=some (.string Lc):=(L1.out.cell 0).trans p0.out
 have c1:v0.cell? ⟨w.heap.size,1,none⟩=some (.string Hs):=(L1.out.cell 1).trans p1.out
 go_upto_region 2 with fail
 generalize Int.tmod k 4=j at h1 HHM ⊢
 have j1b:(j==1)=false:=by rw[beq_eq_false_iff_ne];exact h1
 by_cases j2:j=2
 ·have j2b:(j==2)=true:=by rw[j2];rfl
  have HV:Hid (hx=⟨3,[],a⟩):=by
   show _=_
   rw[HHM.out]
   unfold hostM
   rw[if_neg h1,if_pos j2]
  have HBD:Hid _:=build_six a ha
  have hz:=hostC_size ⟨3,[],a⟩ ha
  have hbs:(bytesV a).size=16:=by rw[bytesV_size,ha]
  have HRG:Hid (v0.rangeAt w.heap.size 2 (bytesV a).toList):=fun j v hv=>(L1.out.cell (2+j)).trans (p2.out j v hv)
  have eA:(bytesV a).toList.toArray=bytesV a:=by simp
  clear HHM HTG HL1 HL2
  go_upto_region 7 with fail
  refine wp_region_lit ?_
  refine wpList_yieldG (.pointer (some ⟨w.heap.size,2,none⟩)) (by rfl) ?hy ?_
  case hy=>(go_simp<;>(first|with_reducible rfl|omega|skip))
  simp only[Act.put,pA,pB,pC]
  refine wpList_load_mid9 (by rfl) 26 _ rfl w.heap.size 2 rfl (bytesV a).toList _ HRG.out Tryz.underlying26 rfl (by rw[Array.length_toList,hbs];exact info16) ?_
  rw[eA]
  simp only[Act.put,pA,pB,pC]
  refine wpList_yieldG (.agg (hostC ⟨3,[],a⟩)) (by rfl) ?hy ?_
  case hy=>(go_simp;rw[HBD.out])
  simp only[Act.put,pA,pB,pC]
  refine wpList_store_row rfl 28 _ _ rfl (w.heap.size+1) rfl #[.int .i64 0,.string ⟨#[]⟩,.int .u8 0,.int .u8 0,.int .u8 0,.int .u8 0,.int .u8 0,.int .u8 0,.int .u8 0,.int .u8 0,.int .u8 0,.int .u8 0,.int .u8 0,.int .u8 0,.int .u8 0,.int .u8 0,.int .u8 0,.int .u8 0] (hostC ⟨3,[],a⟩) rfl 28 L2.out (by rw[hz];exact infoHo) (by rw[hz];rfl) (hostC_one _) rfl ?_
  go_wp2_with fail
  exact bodyPost_ret (results_row (p:=2) (by kernel_rfl) _ _ (w.heap.size+1) 28 _ (0,0) _ rfl (L2.out.row _) Tryz.underlying28 rfl (by rw[hz];exact infoHo)) rfl ⟨by rw[HV.out];rfl,below_row KB.out (by omega) _⟩
 have j2b:(j==2)=false:=by rw[beq_eq_false_iff_ne];exact j2
 by_cases j3:j=3
 ·have j3b:(j==3)=true:=by rw[j3];rfl
  have HV0:Hid (hx=⟨4,[116,97,103,58]++tggd hs 20,z16⟩):=by
   show _=_
   rw[HHM.out]
   unfold hostM
   rw[if_neg h1,if_neg j2,if_pos j3]
  obtain⟨T1,hT1⟩:∃T1,T1=txt (tggd hs 20):=⟨_,rfl⟩
  have zt:T1.size≤20:=by rw[hT1,txt_size];exact hg1
  rw[←hT1]at HTG
  have HTT:Hid (txt ([116,97,103,58]++tggd hs 20)=⟨#[116,97,103,58]⟩++T1):=by
   show _=_
   rw[hT1,show(⟨#[116,97,103,58]⟩:ByteArray)=txt [116,97,103,58] from rfl,txt_cat]
  have HV:Hid (hx=⟨4,[116,97,103,58]++tggd hs 20,z16⟩):=HV0.out
  have HC:Hid (hostC ⟨4,[116,97,103,58]++tggd hs 20,z16⟩=#[.int .i64 4,.string (⟨#[116,97,103,58]⟩++T1),.int .u8 0,.int .u8 0,.int .u8 0,.int .u8 0,.int .u8 0,.int .u8 0,.int .u8 0,.int .u8 0,.int .u8 0,.int .u8 0,.int .u8 0,.int .u8 0,.int .u8 0,.int .u8 0,.int .u8 0,.int .u8 0]):=by
   show _=_
   rw[nameC,HTT.out]
  have hz:=hostC_size ⟨4,[116,97,103,58]++tggd hs 20,z16⟩ rfl
  have ho:=hostC_one ⟨4,[116,97,103,58]++tggd hs 20,z16⟩
  have HHV:Hid (hostV hx=.agg (hostC ⟨4,[116,97,103,58]++tggd hs 20,z16⟩)):=by
   show _=_
   rw[HV.out]
   rfl
  generalize hostC ⟨4,[116,97,103,58]++tggd hs 20,z16⟩=C at HC hz ho HHV
  clear HHM HL1 HL2 HTT hT1 HV0 HV
  go_wp2_with fail
  refine(HTG.out v0).mono ?_
  rintro e w1 ⟨rfl,hb1⟩
  have L3:Hid (Lies w1 (w.heap.size+1) #[.int .i64 0,.string ⟨#[]⟩,.int .u8 0,.int .u8 0,.int .u8 0,.int .u8 0,.int .u8 0,.int .u8 0,.int .u8 0,.int .u8 0,.int .u8 0,.int .u8 0,.int .u8 0,.int .u8 0,.int .u8 0,.int .u8 0,.int .u8 0,.int .u8 0] 28):=L2.out.below hb1 L2.out.lt
  have K3:Hid (Below w.heap.size w w1):=KB.out.trans (hb1.mono KB.out.size)
  clear hb1 L1 L2 KB HTG c0 c1 c18
  go_wp2_with (refine wpList_store_row rfl 28 _ _ rfl (w.heap.size+1) rfl #[.int .i64 0,.string ⟨#[]⟩,.int .u8 0,.int .u8 0,.int .u8 0,.int .u8 0,.int .u8 0,.int .u8 0,.int .u8 0,.int .u8 0,.int .u8 0,.int .u8 0,.int .u8 0,.int .u8 0,.int .u8 0,.int .u8 0,.int .u8 0,.int .u8 0] C (by show _=Value.agg C;rw[HC.out];rfl) 28 L3.out (by rw[hz];exact infoHo) (by rw[hz];rfl) ho rfl ?_)
  exact bodyPost_ret (results_row (p:=2) (by kernel_rfl) _ _ (w.heap.size+1) 28 _ (0,0) _ rfl (L3.out.row _) Tryz.underlying28 rfl (by rw[hz];exact infoHo)) rfl ⟨by rw[HHV.out],below_row K3.out (by omega) _⟩
 have j3b:(j==3)=false:=by rw[beq_eq_false_iff_ne];exact j3
 have HV0:hx=⟨1,ltrs hs 30++46::ltrs lc 10,z16⟩:=by
  rw[HHM.out]
  unfold hostM
  rw[if_neg h1,if_neg j2,if_neg j3]
 obtain⟨T1,hT1⟩:∃T1,T1=txt (ltrs hs 30):=⟨_,rfl⟩
 obtain⟨T2,hT2⟩:∃T2,T2=txt (ltrs lc 10):=⟨_,rfl⟩
 have zt:T1.size≤30:=by rw[hT1,txt_size];exact hg2
 have zu:T2.size≤10:=by rw[hT2,txt_size];exact hg3
 rw[←hT1]at HL1
 rw[←hT2]at HL2
 have HTT:txt (ltrs hs 30++46::ltrs lc 10)=T1++⟨#[46]⟩++T2:=by
  rw[hT1,hT2,show(⟨#[46]⟩:ByteArray)=txt [46] from rfl,txt_cat,txt_cat,List.append_assoc]
  rfl
 have HHX:Hid (hostC hx=#[.int .i64 1,.string (T1++⟨#[46]⟩++T2),.int .u8 0,.int .u8 0,.int .u8 0,.int .u8 0,.int .u8 0,.int .u8 0,.int .u8 0,.int .u8 0,.int .u8 0,.int .u8 0,.int .u8 0,.int .u8 0,.int .u8 0,.int .u8 0,.int .u8 0,.int .u8 0]):=by
  show _=_
  rw[HV0,nameC,HTT]
 have hz:(hostC hx).size=18:=by rw[HHX.out];rfl
 have ho:=hostC_one hx
 have HHV:Hid (hostV hx=.agg (hostC hx)):=rfl
 have ad1:∀W,(Op.stringOp .add T1 ⟨#[46]⟩).run Tryz.prog W=.ok (.string (T1++⟨#[46]⟩)) W:=fun W=>run_string_add_sum _ _ _ (by show T1.size+1≤_;omega)
 have ad2:∀W,(Op.stringOp .add (T1++⟨#[46]⟩) T2).run Tryz.prog W=.ok (.string (T1++⟨#[46]⟩++T2)) W:=fun W=>run_string_add_sum _ _ _ (by rw[ByteArray.size_append];show T1.size+1+T2.size≤_;omega)
 clear HTG HTT HV0 hT1 hT2 HHM
 generalize hostC hx=C at HHX hz ho HHV
 go_upto_region 10 with fail
 refine wp_region_late (fun wx=>Below v0.heap.size v0 wx) 9 (by kernel_rfl) (Below.refl _ v0).drew (fun hHeld=>?_)
 refine tk8 0 (some 28) (.pointer (some ⟨w.heap.size,1,none⟩)) ?_
 simp only[Act.put,pA,pB,pC]
 refine tk8 1 (some 29) (.string Hs) ?_ (hy:=?hy)
 case hy=>(intro w' hSw;have hq1:=((L1.out.below hSw L1.out.lt).cell 1).trans p1.out;go_simp<;>(first|with_reducible rfl|omega|skip))
 simp only[Act.put,pA,pB,pC]
 refine tk8 4 (some 32) (.pointer (some ⟨w.heap.size,0,none⟩)) ?_
 simp only[Act.put,pA,pB,pC]
 refine tk8 5 (some 33) (.string Lc) ?_ (hy:=?hy)
 case hy=>(intro w' hSw;have hq1:=((L1.out.below hSw L1.out.lt).cell 0).trans p0.out;go_simp<;>(first|with_reducible rfl|omega|skip))
 simp only[Act.put,pA,pB,pC]
 refine on9 2 ?_
 refine oper_call (some 30) 27 #[.string Hs,.int .i64 30] (fun v w'=>v=.string T1∧Below v0.heap.size v0 w') rfl (by go_simp) ((HL1.out v0.drew).mono (fun e w' q=>⟨_,q.1,rfl,(Below.refl _ v0).drew.trans q.2⟩)) ?_
 rintro v y1 ⟨rfl,hy1⟩
 refine⟨Or.inr hy1,?_⟩
 simp only[Act.put,pA,pB,pC]
 refine tk8 3 (some 31) (.string (T1++⟨#[46]⟩)) ?_
 simp only[Act.put,pA,pB,pC]
 refine on9 6 ?_
 refine oper_call (some 34) 27 #[.string Lc,.int .i64 10] (fun v w'=>v=.string T2∧Below v0.heap.size v0 w') rfl (by go_simp) ((HL2.out y1).mono (fun e w' q=>⟨_,q.1,rfl,hy1.trans (q.2.mono hy1.size)⟩)) ?_
 rintro v y2 ⟨rfl,hy2⟩
 refine⟨Or.inr hy2,?_⟩
 simp only[Act.put,pA,pB,pC]
 refine tk8 7 (some 35) (.string (T1++⟨#[46]⟩++T2)) ?_
 simp only[Act.put,pA,pB,pC]
 refine tk8 8 (some 36) (.agg C) ?_ (hy:=?hy)
 case hy=>(intro w' hSw;rw[HHX.out];go_simp)
 simp only[Act.put,pA,pB,pC]
 refine on9 9 ?_
 refine oper_store_row 28 _ _ rfl (w.heap.size+1) rfl #[.int .i64 0,.string ⟨#[]⟩,.int .u8 0,.int .u8 0,.int .u8 0,.int .u8 0,.int .u8 0,.int .u8 0,.int .u8 0,.int .u8 0,.int .u8 0,.int .u8 0,.int .u8 0,.int .u8 0,.int .u8 0,.int .u8 0,.int .u8 0,.int .u8 0] C rfl 28 (L2.out.below hy2 L2.out.lt) (by rw[hz];exact infoHo) (by rw[hz];rfl) ho rfl ?_
 refine⟨Or.inl rfl,?_⟩
 refine wpAnyE_done (by kernel_rfl) ?_ _
 clear hHeld
 have L3:Hid (Lies (y2.setRow (w.heap.size+1) C) (w.heap.size+1) C 28):=(L2.out.below hy2 L2.out.lt).row _
 have K3:Hid (Below w.heap.size w (y2.setRow (w.heap.size+1) C)):=below_row (KB.out.trans (hy2.mono KB.out.size)) (by omega) _
 clear hy1 hy2
 go_wp2_with fail
 exact bodyPost_ret (results_row (p:=2) (by kernel_rfl) _ _ (w.heap.size+1) 28 _ (0,0) _ rfl L3.out Tryz.underlying28 rfl (by rw[hz];exact infoHo)) rfl ⟨by rw[HHV.out],K3.out⟩
open Go.RowKit
set_option maxHeartbeats 8000000 in
set_option maxRecDepth 100000 in
theorem hostl_four (lc hs:List UInt8) (a:List Nat) (k:Int) (sl:Value) (ha:a.length=16) (h1:Int.tmod k 4=1) (w:World):
  Calls Tryz.prog 26 #[.agg (rawC lc hs a k sl)] w fun e w'=>e=.returned (hostV (hostM (Int.tmod k 4) a hs lc))∧Below w.heap.size w w':=by
 obtain⟨_,_,r18,_,r2⟩:=rawC_at lc hs a k sl ha
 generalize rawC lc hs a k sl=P at r18 r2 ⊢
 have p18:Hid (P[18]?=some (.int .i64 k)):=r18
 have hu5:(Tryz.prog.info? 5).map (·.size)=some 1:=by kernel_rfl
 have L1:Hid (Lies ((w.alloc (.cells P 45)).alloc (.cells #[.int .i64 0,.string ⟨#[]⟩,.int .u8 0,.int .u8 0,.int .u8 0,.int .u8 0,.int .u8 0,.int .u8 0,.int .u8 0,.int .u8 0,.int .u8 0,.int .u8 0,.int .u8 0,.int .u8 0,.int .u8 0,.int .u8 0,.int .u8 0,.int .u8 0] 28)) w.heap.size P 45):=(Lies.new w _ _).alloc _
 have L2:Hid (Lies ((w.alloc (.cells P 45)).alloc (.cells #[.int .i64 0,.string ⟨#[]⟩,.int .u8 0,.int .u8 0,.int .u8 0,.int .u8 0,.int .u8 0,.int .u8 0,.int .u8 0,.int .u8 0,.int .u8 0,.int .u8 0,.int .u8 0,.int .u8 0,.int .u8 0,.int .u8 0,.int .u8 0,.int .u8 0] 28)) (w.heap.size+1) #[.int .i64 0,.string ⟨#[]⟩,.int .u8 0,.int .u8 0,.int .u8 0,.int .u8 0,.int .u8 0,.int .u8 0,.int .u8 0,.int .u8 0,.int .u8 0,.int .u8 0,.int .u8 0,.int .u8 0,.int .u8 0,.int .u8 0,.int .u8 0,.int .u8 0] 28):=new_one w _ _ _
 have KB:Hid (Below w.heap.size w ((w.alloc (.cells P 45)).alloc (.cells #[.int .i64 0,.string ⟨#[]⟩,.int .u8 0,.int .u8 0,.int .u8 0,.int .u8 0,.int .u8 0,.int .u8 0,.int .u8 0,.int .u8 0,.int .u8 0,.int .u8 0,.int .u8 0,.int .u8 0,.int .u8 0,.int .u8 0,.int .u8 0,.int .u8 0] 28))):=((Below.refl _ _).alloc (Nat.le_refl _) _).alloc (by simp) _
 obtain⟨hx,hhx⟩:∃hx,hx=hostM (Int.tmod k 4) a hs lc:=⟨_,rfl⟩
 rw[←hhx]
 have HV:hx=⟨2,[],a.take 4++List.replicate 12 0⟩:=by
  rw[hhx]
  unfold hostM
  rw[if_pos h1]
 obtain⟨x,y,z,u,r,hr⟩:∃x y z u r,a=x::y::z::u::r:=by
  match a,ha with
  |x::y::z::u::r,_=>exact⟨x,y,z,u,r,rfl⟩
 obtain⟨cs,hcs⟩:∃cs:List Value,cs=[.int .u8 (x:Nat),.int .u8 (y:Nat),.int .u8 (z:Nat),.int .u8 (u:Nat)]:=⟨_,rfl⟩
 have hcl:cs.length=4:=by rw[hcs];rfl
 have hsr:∀j v,cs[j]?=some v→P[2+j]?=some v:=fun j v hv=>by
  refine r2 j v ?_
  rw[hr]
  unfold bytesV
  rw[hcs]at hv
  match j,hv with
  |0,hv=>exact hv
  |1,hv=>exact hv
  |2,hv=>exact hv
  |3,hv=>exact hv
 have HSR:Hid (∀j v,cs[j]?=some v→P[2+j]?=some v):=hsr
 have hrow:(((#[.int .i64 2,.string ⟨#[]⟩,.int .u8 0,.int .u8 0,.int .u8 0,.int .u8 0,.int .u8 0,.int .u8 0,.int .u8 0,.int .u8 0,.int .u8 0,.int .u8 0,.int .u8 0,.int .u8 0,.int .u8 0,.int .u8 0,.int .u8 0,.int .u8 0]:Array Value).toList.take 2++cs++(#[.int .i64 2,.string ⟨#[]⟩,.int .u8 0,.int .u8 0,.int .u8 0,.int .u8 0,.int .u8 0,.int .u8 0,.int .u8 0,.int .u8 0,.int .u8 0,.int .u8 0,.int .u8 0,.int .u8 0,.int .u8 0,.int .u8 0,.int .u8 0,.int .u8 0]:Array Value).toList.drop (2+cs.length)).toArray)=hostC hx:=by
  rw[HV,hr,hcs]
  rfl
 have hon1:∀v∈cs,v.oneCell'=true:=fun v hv=>by
  rw[hcs]at hv
  simp at hv
  rcases hv with rfl|rfl|rfl|rfl<;>rfl
 have hsz:(hostC hx).size=18:=hostC_size hx (by rw[HV,hr];rfl)
 have hon:=hostC_one hx
 have HFH:Hid (hostV hx=.agg (hostC hx)):=rfl
 have HRW:Hid (((#[.int .i64 2,.string ⟨#[]⟩,.int .u8 0,.int .u8 0,.int .u8 0,.int .u8 0,.int .u8 0,.int .u8 0,.int .u8 0,.int .u8 0,.int .u8 0,.int .u8 0,.int .u8 0,.int .u8 0,.int .u8 0,.int .u8 0,.int .u8 0,.int .u8 0]:Array Value).toList.take 2++cs++(#[.int .i64 2,.string ⟨#[]⟩,.int .u8 0,.int .u8 0,.int .u8 0,.int .u8 0,.int .u8 0,.int .u8 0,.int .u8 0,.int .u8 0,.int .u8 0,.int .u8 0,.int .u8 0,.int .u8 0,.int .u8 0,.int .u8 0,.int .u8 0,.int .u8 0]:Array Value).toList.drop (2+cs.length)).toArray=hostC hx):=hrow
 have HCL:Hid (cs.length=4):=hcl
 have HO1:Hid (∀v∈cs,v.oneCell'=true):=hon1
 clear r18 r2 hhx HV hr hcs hsr hrow hcl hon1
 generalize hostC hx=HC at hsz hon HFH HRW
 go_enter Tryz.func26,Tryz.ntmps26
 go_upto_region 1 with fail
 generalize (w.alloc (.cells P 45)).alloc (.cells #[.int .i64 0,.string ⟨#[]⟩,.int .u8 0,.int .u8 0,.int .u8 0,.int .u8 0,.int .u8 0,.int .u8 0,.int .u8 0,.int .u8 0,.int .u8 0,.int .u8 0,.int .u8 0,.int .u8 0,.int .u8 0,.int .u8 0,.int .u8 0,.int .u8 0] 28)=v0 at L1 L2 KB ⊢
 have c18:v0.cell? ⟨w.heap.size,18,none⟩=some (.int .i64 k):=(L1.out.cell 18).trans p18.out
 go_upto_region 2 with fail
 generalize Int.tmod k 4=j at h1 ⊢
 subst h1
 have hlt0:w.heap.size+1<v0.heap.size:=L2.out.lt
 have A:Hid (Lies (v0.alloc (.cells #[.int .i64 0,.string ⟨#[]⟩,.int .u8 0,.int .u8 0,.int .u8 0,.int .u8 0,.int .u8 0,.int .u8 0,.int .u8 0,.int .u8 0,.int .u8 0,.int .u8 0,.int .u8 0,.int .u8 0,.int .u8 0,.int .u8 0,.int .u8 0,.int .u8 0] 28)) v0.heap.size #[.int .i64 0,.string ⟨#[]⟩,.int .u8 0,.int .u8 0,.int .u8 0,.int .u8 0,.int .u8 0,.int .u8 0,.int .u8 0,.int .u8 0,.int .u8 0,.int .u8 0,.int .u8 0,.int .u8 0,.int .u8 0,.int .u8 0,.int .u8 0,.int .u8 0] 28):=Lies.new v0 _ _
 have B3:Hid (Below v0.heap.size v0 ((v0.alloc (.cells #[.int .i64 0,.string ⟨#[]⟩,.int .u8 0,.int .u8 0,.int .u8 0,.int .u8 0,.int .u8 0,.int .u8 0,.int .u8 0,.int .u8 0,.int .u8 0,.int .u8 0,.int .u8 0,.int .u8 0,.int .u8 0,.int .u8 0,.int .u8 0,.int .u8 0] 28)).setRow v0.heap.size #[.int .i64 2,.string ⟨#[]⟩,.int .u8 0,.int .u8 0,.int .u8 0,.int .u8 0,.int .u8 0,.int .u8 0,.int .u8 0,.int .u8 0,.int .u8 0,.int .u8 0,.int .u8 0,.int .u8 0,.int .u8 0,.int .u8 0,.int .u8 0,.int .u8 0])):=below_row ((Below.refl _ _).alloc (Nat.le_refl _) _) (Nat.le_refl _) _
 have A3:Hid (Lies ((v0.alloc (.cells #[.int .i64 0,.string ⟨#[]⟩,.int .u8 0,.int .u8 0,.int .u8 0,.int .u8 0,.int .u8 0,.int .u8 0,.int .u8 0,.int .u8 0,.int .u8 0,.int .u8 0,.int .u8 0,.int .u8 0,.int .u8 0,.int .u8 0,.int .u8 0,.int .u8 0] 28)).setRow v0.heap.size #[.int .i64 2,.string ⟨#[]⟩,.int .u8 0,.int .u8 0,.int .u8 0,.int .u8 0,.int .u8 0,.int .u8 0,.int .u8 0,.int .u8 0,.int .u8 0,.int .u8 0,.int .u8 0,.int .u8 0,.int .u8 0,.int .u8 0,.int .u8 0,.int .u8 0]) v0.heap.size #[.int .i64 2,.string ⟨#[]⟩,.int .u8 0,.int .u8 0,.int .u8 0,.int .u8 0,.int .u8 0,.int .u8 0,.int .u8 0,.int .u8 0,.int .u8 0,.int .u8 0,.int .u8 0,.int .u8 0,.int .u8 0,.int .u8 0,.int .u8 0,.int .u8 0] 28):=A.out.row _
 have L13:Hid (Lies ((v0.alloc (.cells #[.int .i64 0,.string ⟨#[]⟩,.int .u8 0,.int .u8 0,.int .u8 0,.int .u8 0,.int .u8 0,.int .u8 0,.int .u8 0,.int .u8 0,.int .u8 0,.int .u8 0,.int .u8 0,.int .u8 0,.int .u8 0,.int .u8 0,.int .u8 0,.int .u8 0] 28)).setRow v0.heap.size #[.int .i64 2,.string ⟨#[]⟩,.int .u8 0,.int .u8 0,.int .u8 0,.int .u8 0,.int .u8 0,.int .u8 0,.int .u8 0,.int .u8 0,.int .u8 0,.int .u8 0,.int .u8 0,.int .u8 0,.int .u8 0,.int .u8 0,.int .u8 0,.int .u8 0]) w.heap.size P 45):=L1.out.below B3.out L1.out.lt
 have L23:Hid (Lies ((v0.alloc (.cells #[.int .i64 0,.string ⟨#[]⟩,.int .u8 0,.int .u8 0,.int .u8 0,.int .u8 0,.int .u8 0,.int .u8 0,.int .u8 0,.int .u8 0,.int .u8 0,.int .u8 0,.int .u8 0,.int .u8 0,.int .u8 0,.int .u8 0,.int .u8 0,.int .u8 0] 28)).setRow v0.heap.size #[.int .i64 2,.string ⟨#[]⟩,.int .u8 0,.int .u8 0,.int .u8 0,.int .u8 0,.int .u8 0,.int .u8 0,.int .u8 0,.int .u8 0,.int .u8 0,.int .u8 0,.int .u8 0,.int .u8 0,.int .u8 0,.int .u8 0,.int .u8 0,.int .u8 0]) (w.heap.size+1) #[.int .i64 0,.string ⟨#[]⟩,.int .u8 0,.int .u8 0,.int .u8 0,.int .u8 0,.int .u8 0,.int .u8 0,.int .u8 0,.int .u8 0,.int .u8 0,.int .u8 0,.int .u8 0,.int .u8 0,.int .u8 0,.int .u8 0,.int .u8 0,.int .u8 0] 28):=L2.out.below B3.out L2.out.lt
 have KB3:Hid (Below w.heap.size w ((v0.alloc (.cells #[.int .i64 0,.string ⟨#[]⟩,.int .u8 0,.int .u8 0,.int .u8 0,.int .u8 0,.int .u8 0,.int .u8 0,.int .u8 0,.int .u8 0,.int .u8 0,.int .u8 0,.int .u8 0,.int .u8 0,.int .u8 0,.int .u8 0,.int .u8 0,.int .u8 0] 28)).setRow v0.heap.size #[.int .i64 2,.string ⟨#[]⟩,.int .u8 0,.int .u8 0,.int .u8 0,.int .u8 0,.int .u8 0,.int .u8 0,.int .u8 0,.int .u8 0,.int .u8 0,.int .u8 0,.int .u8 0,.int .u8 0,.int .u8 0,.int .u8 0,.int .u8 0,.int .u8 0])):=KB.out.trans (B3.out.mono KB.out.size)
 obtain⟨g,hg⟩:∃g,g=v0.heap.size:=⟨_,rfl⟩
 go_upto_region 4 with(refine wpList_store_row rfl 28 _ _ rfl v0.heap.size rfl #[.int .i64 0,.string ⟨#[]⟩,.int .u8 0,.int .u8 0,.int .u8 0,.int .u8 0,.int .u8 0,.int .u8 0,.int .u8 0,.int .u8 0,.int .u8 0,.int .u8 0,.int .u8 0,.int .u8 0,.int .u8 0,.int .u8 0,.int .u8 0,.int .u8 0] #[.int .i64 2,.string ⟨#[]⟩,.int .u8 0,.int .u8 0,.int .u8 0,.int .u8 0,.int .u8 0,.int .u8 0,.int .u8 0,.int .u8 0,.int .u8 0,.int .u8 0,.int .u8 0,.int .u8 0,.int .u8 0,.int .u8 0,.int .u8 0,.int .u8 0] rfl 28 A.out infoHo rfl (by simp[Value.oneCell']) rfl ?_)
 clear B3 A c18
 generalize (v0.alloc (.cells #[.int .i64 0,.string ⟨#[]⟩,.int .u8 0,.int .u8 0,.int .u8 0,.int .u8 0,.int .u8 0,.int .u8 0,.int .u8 0,.int .u8 0,.int .u8 0,.int .u8 0,.int .u8 0,.int .u8 0,.int .u8 0,.int .u8 0,.int .u8 0,.int .u8 0] 28)).setRow v0.heap.size #[.int .i64 2,.string ⟨#[]⟩,.int .u8 0,.int .u8 0,.int .u8 0,.int .u8 0,.int .u8 0,.int .u8 0,.int .u8 0,.int .u8 0,.int .u8 0,.int .u8 0,.int .u8 0,.int .u8 0,.int .u8 0,.int .u8 0,.int .u8 0,.int .u8 0]=wA at A3 L13 L23 KB3 ⊢
 rw[←hg]at A3 hlt0 ⊢
 have hL2d:Lies wA.drew g #[.int .i64 2,.string ⟨#[]⟩,.int .u8 0,.int .u8 0,.int .u8 0,.int .u8 0,.int .u8 0,.int .u8 0,.int .u8 0,.int .u8 0,.int .u8 0,.int .u8 0,.int .u8 0,.int .u8 0,.int .u8 0,.int .u8 0,.int .u8 0,.int .u8 0] 28:=A3.out
 have hcp:=run_copy_row (P:=Tryz.prog) wA.drew 47 47 3 5 g 2 4 16 ⟨w.heap.size,2,none⟩ 4 16 #[.int .i64 2,.string ⟨#[]⟩,.int .u8 0,.int .u8 0,.int .u8 0,.int .u8 0,.int .u8 0,.int .u8 0,.int .u8 0,.int .u8 0,.int .u8 0,.int .u8 0,.int .u8 0,.int .u8 0,.int .u8 0,.int .u8 0,.int .u8 0,.int .u8 0] 28 cs Tryz.underlying47 hu5 hL2d (by rw[HCL.out];rfl) (fun j v hv=>by
  rw[Addr.add_lit]
  exact(L13.out.drew.cell (2+j)).trans (HSR.out j v hv)) (by rw[HCL.out];decide) HO1.out
 rw[HRW.out,HCL.out]at hcp
 have HL3:Hid (Lies (wA.drew.setRow g HC) g HC 28):=hL2d.row _
 have HL4:Hid (Lies (wA.drew.setRow g HC) (w.heap.size+1) #[.int .i64 0,.string ⟨#[]⟩,.int .u8 0,.int .u8 0,.int .u8 0,.int .u8 0,.int .u8 0,.int .u8 0,.int .u8 0,.int .u8 0,.int .u8 0,.int .u8 0,.int .u8 0,.int .u8 0,.int .u8 0,.int .u8 0,.int .u8 0,.int .u8 0] 28):=L23.out.drew.row_other (by omega) _
 have HB2:Hid (Below w.heap.size w (wA.drew.setRow g HC)):=below_row KB3.out.drew (by omega) _
 have hz:g<wA.heap.size:=A3.out.lt
 clear hL2d A3 L13 L23 KB3 hg
 go_region
 generalize wA.drew.setRow g HC=wB at HL3 HL4 HB2 ⊢
 clear hcp
 go_wp2_with (first|(refine wpList_load_row rfl 28 _ rfl g rfl HC 28 _ HL3.out Tryz.underlying28 rfl (by rw[hsz];exact infoHo) ?_)|(refine wpList_store_row rfl 28 _ _ rfl (w.heap.size+1) rfl #[.int .i64 0,.string ⟨#[]⟩,.int .u8 0,.int .u8 0,.int .u8 0,.int .u8 0,.int .u8 0,.int .u8 0,.int .u8 0,.int .u8 0,.int .u8 0,.int .u8 0,.int .u8 0,.int .u8 0,.int .u8 0,.int .u8 0,.int .u8 0,.int .u8 0] HC rfl 28 HL4.out (by rw[hsz];exact infoHo) (by rw[hsz];rfl) hon rfl ?_))
 exact bodyPost_ret (results_row (p:=2) (by kernel_rfl) _ _ (w.heap.size+1) 28 _ (0,0) _ rfl (HL4.out.row _) Tryz.underlying28 rfl (by rw[hsz];exact infoHo)) rfl ⟨by rw[HFH.out],below_row HB2.out (by omega) _⟩
theorem hostl_all (lc hs:List UInt8) (a:List Nat) (k:Int) (sl:Value) (ha:a.length=16) (hlc:lc.length≤140737488355328) (hhs:hs.length≤140737488355328) (w:World):
  Calls Tryz.prog 26 #[.agg (rawC lc hs a k sl)] w fun e w'=>e=.returned (hostV (hostM (Int.tmod k 4) a hs lc))∧Below w.heap.size w w':=by
 by_cases h1:Int.tmod k 4=1
 ·exact hostl_four lc hs a k sl ha h1 w
 ·exact hostl_any lc hs a k sl ha hlc hhs h1 w
end Go.Proofs.YtfjpkfhbmldmfabGreatDoor
