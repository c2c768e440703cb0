/-
  For every two mailboxes the statement PathSames returns true.
-/
import Derived.Test.YtfjpkfhbmldmfaaGreatDoorDmW
import Derived.Test.YtfjpkfhbmldmfaaGreatDoorDec
import Derived.Test.YtfjpkfhbmldmfaaGreatDoorREnc
import Derived.Test.YtfjpkfhbmldmfaaGreatDoorRSameT
import Derived.Test.YtfjpkfhbmldmfaaGreatDoorCardB
import Derived.ProofKit
import Derived.ChangeMaps5
import Derived.OpenShut
import Derived.ShutString
import Derived.ChangeOld
import Derived.SizedLaws
namespace Go.Proofs.YtfjpkfhbmldmfaaGreatDoor.pathSames
open Go.ChangeShapes Go.WideShapes Go.ChangeAt Go.RowKit
set_option maxHeartbeats 16000000 in
set_option maxRecDepth 100000 in
theorem walkW (A B:Array Value) (hAz:A.size=19) (hBz:B.size=19) (r1 r2:Bool) (w:World)
  (HH:Hid (∀wx,Below w.heap.size w wx→Calls Tryz.prog 11 #[] wx fun e w'=>e=.returned (.bool true)∧Below wx.heap.size wx w')) (H1:Hid (∀wx,Below w.heap.size w wx→Calls Tryz.prog 29 #[.agg A,.agg B] wx fun e w'=>e=.returned (.bool r1)∧Below wx.heap.size wx w')) (H2:Hid (∀wx,Below w.heap.size w wx→Calls Tryz.prog 30 #[.agg A,.agg B] wx fun e w'=>e=.returned (.bool r1)∧Below wx.heap.size wx w')) (H3:Hid (∀wx,Below w.heap.size w wx→Calls Tryz.prog 29 #[.agg B,.agg A] wx fun e w'=>e=.returned (.bool r2)∧Below wx.heap.size wx w')) (H4:Hid (∀wx,Below w.heap.size w wx→Calls Tryz.prog 30 #[.agg B,.agg A] wx fun e w'=>e=.returned (.bool r2)∧Below wx.heap.size wx w')):
  Calls Tryz.prog 6 #[.agg A,.agg B] w fun e w'=>e=.returned (.bool true)∧Below w.heap.size w w':=by
 have HAZ:Hid (A.size=19):=hAz
 have HBZ:Hid (B.size=19):=hBz
 have L1:Hid (Lies ((w.alloc (.cells A 27)).alloc (.cells B 27)) w.heap.size A 27):=(Lies.new w _ _).alloc _
 have L2:Hid (Lies ((w.alloc (.cells A 27)).alloc (.cells B 27)) (w.heap.size+1) B 27):=new_one w _ _ _
 have KB:Hid (Below w.heap.size w ((w.alloc (.cells A 27)).alloc (.cells B 27))):=((Below.refl _ _).alloc (Nat.le_refl _) _).alloc (by simp) _
 clear hAz hBz
 go_enter Tryz.func6,Tryz.ntmps6
 go_upto_region 1 with fail
 generalize (w.alloc (.cells A 27)).alloc (.cells B 27)=v0 at L1 L2 KB ⊢
 have HLd:Hid (∀wx,Below v0.heap.size v0 wx→Lies wx w.heap.size A 27∧Lies wx (w.heap.size+1) B 27):=fun wx h=>⟨L1.out.below h L1.out.lt,L2.out.below h L2.out.lt⟩
 have HSB:Hid (∀wx,Below v0.heap.size v0 wx→Below w.heap.size w wx):=fun wx h=>KB.out.trans (h.mono KB.out.size)
 clear L1 L2 KB
 refine wp_region_late (fun wx=>Below v0.heap.size v0 wx) 20 (by kernel_rfl) (Below.refl _ v0).drew (fun hHeld=>?_)
 have k0:Below v0.heap.size v0 v0.drew:=(Below.refl _ v0).drew
 generalize v0.drew=W0 at hHeld k0 ⊢
 refine tk9 0 (some 5) (.agg A) ?_ (hy:=?hy)
 case hy=>(intro w' hSw;exact exec_load_row 27 _ rfl (w.heap.size) rfl A 27 _ (HLd.out w' hSw).1 Tryz.underlying27 rfl (by rw[HAZ.out];exact infoBx))
 simp only[Act.put,pA,pB,pC]
 refine tk9 1 (some 6) (.agg B) ?_ (hy:=?hy)
 case hy=>(intro w' hSw;exact exec_load_row 27 _ rfl (w.heap.size+1) rfl B 27 _ (HLd.out w' hSw).2 Tryz.underlying27 rfl (by rw[HBZ.out];exact infoBx))
 simp only[Act.put,pA,pB,pC]
 refine tk9 3 (some 8) (.agg A) ?_ (hy:=?hy)
 case hy=>(intro w' hSw;exact exec_load_row 27 _ rfl (w.heap.size) rfl A 27 _ (HLd.out w' hSw).1 Tryz.underlying27 rfl (by rw[HAZ.out];exact infoBx))
 simp only[Act.put,pA,pB,pC]
 refine tk9 4 (some 9) (.agg B) ?_ (hy:=?hy)
 case hy=>(intro w' hSw;exact exec_load_row 27 _ rfl (w.heap.size+1) rfl B 27 _ (HLd.out w' hSw).2 Tryz.underlying27 rfl (by rw[HBZ.out];exact infoBx))
 simp only[Act.put,pA,pB,pC]
 refine on9 2 ?_
 refine oper_call (some 7) 29 #[.agg A,.agg B] (fun v w'=>v=.bool r1∧Below v0.heap.size v0 w') rfl (by go_simp) ((H1.out _ (HSB.out _ k0)).mono (fun e w' q=>⟨_,q.1,rfl,k0.trans (q.2.mono k0.size)⟩)) ?_
 rintro v z1_ ⟨rfl,k1_⟩
 refine⟨Or.inr k1_,?_⟩
 simp only[Act.put,pA,pB,pC]
 clear hHeld k0
 refine on9 5 ?_
 refine oper_call (some 10) 30 #[.agg A,.agg B] (fun v w'=>v=.bool r1∧Below v0.heap.size v0 w') rfl (by go_simp) ((H2.out _ (HSB.out _ k1_)).mono (fun e w' q=>⟨_,q.1,rfl,k1_.trans (q.2.mono k1_.size)⟩)) ?_
 rintro v z2_ ⟨rfl,k2_⟩
 refine⟨Or.inr k2_,?_⟩
 simp only[Act.put,pA,pB,pC]
 clear k1_
 refine tk9 6 (some 11) (.bool true) ?_
 simp only[Act.put,pA,pB,pC]
 refine tk9 7 (some 12) (.bool true) ?_
 simp only[Act.put,pA,pB,pC]
 refine tk9 8 (some 13) (.agg B) ?_ (hy:=?hy)
 case hy=>(intro w' hSw;exact exec_load_row 27 _ rfl (w.heap.size+1) rfl B 27 _ (HLd.out w' hSw).2 Tryz.underlying27 rfl (by rw[HBZ.out];exact infoBx))
 simp only[Act.put,pA,pB,pC]
 refine tk9 9 (some 14) (.agg A) ?_ (hy:=?hy)
 case hy=>(intro w' hSw;exact exec_load_row 27 _ rfl (w.heap.size) rfl A 27 _ (HLd.out w' hSw).1 Tryz.underlying27 rfl (by rw[HAZ.out];exact infoBx))
 simp only[Act.put,pA,pB,pC]
 refine tk9 11 (some 16) (.agg B) ?_ (hy:=?hy)
 case hy=>(intro w' hSw;exact exec_load_row 27 _ rfl (w.heap.size+1) rfl B 27 _ (HLd.out w' hSw).2 Tryz.underlying27 rfl (by rw[HBZ.out];exact infoBx))
 simp only[Act.put,pA,pB,pC]
 refine tk9 12 (some 17) (.agg A) ?_ (hy:=?hy)
 case hy=>(intro w' hSw;exact exec_load_row 27 _ rfl (w.heap.size) rfl A 27 _ (HLd.out w' hSw).1 Tryz.underlying27 rfl (by rw[HAZ.out];exact infoBx))
 simp only[Act.put,pA,pB,pC]
 refine on9 10 ?_
 refine oper_call (some 15) 29 #[.agg B,.agg A] (fun v w'=>v=.bool r2∧Below v0.heap.size v0 w') rfl (by go_simp) ((H3.out _ (HSB.out _ k2_)).mono (fun e w' q=>⟨_,q.1,rfl,k2_.trans (q.2.mono k2_.size)⟩)) ?_
 rintro v z3_ ⟨rfl,k3_⟩
 refine⟨Or.inr k3_,?_⟩
 simp only[Act.put,pA,pB,pC]
 clear k2_
 refine on9 13 ?_
 refine oper_call (some 18) 30 #[.agg B,.agg A] (fun v w'=>v=.bool r2∧Below v0.heap.size v0 w') rfl (by go_simp) ((H4.out _ (HSB.out _ k3_)).mono (fun e w' q=>⟨_,q.1,rfl,k3_.trans (q.2.mono k3_.size)⟩)) ?_
 rintro v z4_ ⟨rfl,k4_⟩
 refine⟨Or.inr k4_,?_⟩
 simp only[Act.put,pA,pB,pC]
 clear k3_
 refine tk9 14 (some 19) (.bool true) ?_
 simp only[Act.put,pA,pB,pC]
 refine tk9 15 (some 20) (.bool true) ?_
 simp only[Act.put,pA,pB,pC]
 refine tk9 16 (some 21) (.bool true) ?_
 simp only[Act.put,pA,pB,pC]
 refine on9 17 ?_
 refine oper_call (some 22) 11 #[] (fun v w'=>v=.bool true∧Below v0.heap.size v0 w') rfl (by go_simp) ((HH.out _ (HSB.out _ k4_)).mono (fun e w' q=>⟨_,q.1,rfl,k4_.trans (q.2.mono k4_.size)⟩)) ?_
 rintro v z5_ ⟨rfl,k5_⟩
 refine⟨Or.inr k5_,?_⟩
 simp only[Act.put,pA,pB,pC]
 clear k4_
 refine tk9 18 (some 23) (.bool true) ?_
 simp only[Act.put,pA,pB,pC]
 refine tk9 19 (some 4) (.bool true) ?_
 simp only[Act.put,pA,pB,pC]
 refine wpAnyE_done (by kernel_rfl) ?_ _
 go_wp2_with fail
 go_ret
 exact⟨rfl,HSB.out _ k5_⟩
theorem rsame_sml (x:ByteArray) (w:World) (hx:x.size≤140737488351232):Calls Tryz.prog 56 #[.string x,.string ⟨#[112,111,115,116,109,97,115,116,101,114]⟩] w fun e w'=>e=.returned (.bool (decide (sml x.data.toList=sml pmL)))∧Below w.heap.size w w':=by
 have:=rsamet_any x ⟨#[112,111,115,116,109,97,115,116,101,114]⟩ w hx (by decide)
 have e:sameB x ⟨#[112,111,115,116,109,97,115,116,101,114]⟩=decide (sml x.data.toList=sml pmL):=by
  have h1:=sameB_sml x.data.toList [112,111,115,116,109,97,115,116,101,114]
  have h2:(⟨x.data.toList.toArray⟩:ByteArray)=x:=by simp
  rw[h2]at h1
  rw[show sml pmL=sml [112,111,115,116,109,97,115,116,101,114] from by decide]
  exact h1
 rw[e]at this
 exact this
theorem walk (l:ByteArray) (x:Ho) (okx:x.Ok) (sx:l.data.toList.length≤140737488351232∧x.n.length≤140737488351232) (m:ByteArray) (y:Ho) (oky:y.Ok) (sy:m.data.toList.length≤140737488351232∧y.n.length≤140737488351232) (w:World) (ht:Td w∧10≤w.heap.size):
  Calls Tryz.prog 6 #[.agg (boxC l.data.toList x),.agg (boxC m.data.toList y)] w fun e w'=>e=.returned (.bool true)∧Below w.heap.size w w':=by
 have HT:∀wx,Below w.heap.size w wx→Td wx∧10≤wx.heap.size:=fun wx hb=>⟨ht.1.below hb,Nat.le_trans ht.2 hb.size⟩
 have hP:∀(l m:List UInt8) (x y:Ho),x.Ok→y.Ok→l.length≤140737488351232→m.length≤140737488351232→x.n.length≤140737488351232→y.n.length≤140737488351232→∀wx,Below w.heap.size w wx→Calls Tryz.prog 29 #[.agg (boxC l x),.agg (boxC m y)] wx fun e w'=>e=.returned (.bool (sameM asciiL l x m y))∧Below wx.heap.size wx w':=
  fun l m x y o1 o2 l1 l2 n1 n2 wx hx=>psame_any l m x y o1 o2 (by omega) (by omega) (by omega) (by omega) wx ⟨(HT wx hx).1.tb,(HT wx hx).1.pow,(HT wx hx).1.ml⟩
 have hS:∀wx,Below w.heap.size w wx→RSameH asciiL wx:=fun wx hx a b oka okb na nb wy hy=>rsame_any a b oka okb wy ⟨((HT wx hx).1.below hy).tb,((HT wx hx).1.below hy).pow,((HT wx hx).1.below hy).ml⟩ na nb
 refine walkW _ _ (boxC_size _ _ okx.len) (boxC_size _ _ oky.len) (sameM asciiL l.data.toList x m.data.toList y) (sameM asciiL m.data.toList y l.data.toList x) w (fun wx hx=>head_any wx (HT wx hx).1 (HT wx hx).2) (fun wx hx=>hP _ _ _ _ okx oky sx.1 sy.1 sx.2 sy.2 wx hx) (fun wx hx=>?_) (fun wx hx=>hP _ _ _ _ oky okx sy.1 sx.1 sy.2 sx.2 wx hx) (fun wx hx=>?_)
 ·exact qsame_any asciiL _ _ _ _ okx oky sx.1 sy.1 sx.2 sy.2 wx (hS wx hx) rsame_sml
 ·exact qsame_any asciiL _ _ _ _ oky okx sy.1 sx.1 sy.2 sx.2 wx (hS wx hx) rsame_sml
set_option maxRecDepth 100000 in
theorem contract (H:Type) (enc:TypeId×Value→H) (W:World) (base:Nat) (args:Array Value) (ds gs:List (DataW H)) (before:List MemPlace)
  (hval:∀(j:Nat) t v,Tryz.f6.params[j]?=some t→args[j]?=some v→Value.okWide Tryz.prog W .any base t v)
  (hW:DataW.Whole enc Tryz.prog Tryz.f6.params.toList Rows.pathSamesSpec.vars false W args.toList ds gs before)
  (hsz:(DataW.weightsEach Tryz.prog (Tryz.f6.params.toList++(OpenSpec.ofChange Rows.pathSamesSpec).bare.plain.varTypes Tryz.prog) (ds++gs)).all (· ≤reachBytes)=true)
  (hL:laidMetH Tryz.prog Rows.pathSamesRow.laid W) (hsh:W.ShapedOpen Tryz.prog):
  Calls Tryz.prog 6 args W fun e W'=>∃v,e=.returned v∧Rows.pathSamesSpec.post enc Tryz.prog Tryz.f6 false true false false W args v W':=by
 have hW':=hW
 obtain⟨p,q,hA0,hV,rfl,hfz,hnd⟩:=hW
 have hA:DataW.TrodAll enc Tryz.prog W 0 (fun _=>true) true Tryz.f6.params.toList args.toList ds p:=hA0
 rw[Tryz.params6]at hA hval hsz
 obtain⟨v0,vs0,d0,ds0,p0,q0,hargs,rfl,rfl,h0,r0⟩:=trodAll_cons hA
 obtain⟨v1,vs1,d1,ds1,p1,q1,rfl,rfl,rfl,h1,r1⟩:=trodAll_cons r0
 obtain⟨rfl,rfl,rfl⟩:=trodAll_nil r1
 obtain rfl:args=#[v0,v1]:=by cases args;simp_all
 obtain⟨rfl,rfl⟩:=trodVars_none hV
 have k0:=h0
 have lt0:∀x∈p0,x.block<W.heap.size:=by obtain⟨m,hm⟩:=k0;exact DataW.trod_lt m _ _ _ hm
 obtain⟨L0,a0,rfl,b0,e0⟩:=open_box (hval 0 27 v0 rfl rfl) h0
 have k1:=h1
 have lt1:∀x∈p1,x.block<W.heap.size:=by obtain⟨m,hm⟩:=k1;exact DataW.trod_lt m _ _ _ hm
 obtain⟨L1,a1,rfl,b1,e1⟩:=open_box (hval 1 27 v1 rfl rfl) h1
 clear hA0
 have s0:=box_size (j:=0) hsz rfl rfl e0
 have s1:=box_size (j:=1) hsz rfl rfl e1
 refine(walk L0 a0 b0.1 s0 L1 a1 b1.1 s1 W (tabs9_of hL hsh)).mono fun e W' ⟨he,bel⟩=>?_
 subst he
 exact⟨_,rfl,_,_,_,[],_,[],hW',trodAll_mk1 (shut_bool Tryz.underlying4 _),trodAll_cons_mk (Below.trod laidOut (by kernel_rfl) (of_decide_eq_true (by kernel_rfl)) k0 bel lt0) (trodAll_cons_mk (Below.trod laidOut (by kernel_rfl) (of_decide_eq_true (by kernel_rfl)) k1 bel lt1) trodAll_mk0),rfl,bel.frame _,fun h=>by cases h⟩
set_option maxRecDepth 100000 in
theorem laid_met (os:Os):laidMet Tryz.prog Rows.pathSamesRow.laid ((laidWorld9 os).forCall (fun _ _=>0) ⟨#[],#[.agg #[.string ByteArray.empty,.int .i64 0,.string ByteArray.empty,.int .u8 0,.int .u8 0,.int .u8 0,.int .u8 0,.int .u8 0,.int .u8 0,.int .u8 0,.int .u8 0,.int .u8 0,.int .u8 0,.int .u8 0,.int .u8 0,.int .u8 0,.int .u8 0,.int .u8 0,.int .u8 0],.agg #[.string ByteArray.empty,.int .i64 0,.string ByteArray.empty,.int .u8 0,.int .u8 0,.int .u8 0,.int .u8 0,.int .u8 0,.int .u8 0,.int .u8 0,.int .u8 0,.int .u8 0,.int .u8 0,.int .u8 0,.int .u8 0,.int .u8 0,.int .u8 0,.int .u8 0,.int .u8 0]],[]⟩).memory:=
 laidMet_of_run' 8 (by kernel_rfl) (by kernel_rfl)
set_option maxRecDepth 100000 in
theorem reads (os:Os) {H:Type} (enc:TypeId×Value→H):∃places,DataW.whole enc Tryz.prog ((laidWorld9 os).forCall (fun _ _=>0) ⟨#[],#[.agg #[.string ByteArray.empty,.int .i64 0,.string ByteArray.empty,.int .u8 0,.int .u8 0,.int .u8 0,.int .u8 0,.int .u8 0,.int .u8 0,.int .u8 0,.int .u8 0,.int .u8 0,.int .u8 0,.int .u8 0,.int .u8 0,.int .u8 0,.int .u8 0,.int .u8 0,.int .u8 0],.agg #[.string ByteArray.empty,.int .i64 0,.string ByteArray.empty,.int .u8 0,.int .u8 0,.int .u8 0,.int .u8 0,.int .u8 0,.int .u8 0,.int .u8 0,.int .u8 0,.int .u8 0,.int .u8 0,.int .u8 0,.int .u8 0,.int .u8 0,.int .u8 0,.int .u8 0,.int .u8 0]],[]⟩).memory Tryz.f6.params.toList Rows.pathSamesSpec.vars false #[Value.agg #[.string ByteArray.empty,.int .i64 0,.string ByteArray.empty,.int .u8 0,.int .u8 0,.int .u8 0,.int .u8 0,.int .u8 0,.int .u8 0,.int .u8 0,.int .u8 0,.int .u8 0,.int .u8 0,.int .u8 0,.int .u8 0,.int .u8 0,.int .u8 0,.int .u8 0,.int .u8 0],Value.agg #[.string ByteArray.empty,.int .i64 0,.string ByteArray.empty,.int .u8 0,.int .u8 0,.int .u8 0,.int .u8 0,.int .u8 0,.int .u8 0,.int .u8 0,.int .u8 0,.int .u8 0,.int .u8 0,.int .u8 0,.int .u8 0,.int .u8 0,.int .u8 0,.int .u8 0,.int .u8 0]].toList 8=some ([.agg [.lit (.string []),.agg [.lit (.int .i64 0),.lit (.string []),.agg [.lit (.int .u8 0),.lit (.int .u8 0),.lit (.int .u8 0),.lit (.int .u8 0),.lit (.int .u8 0),.lit (.int .u8 0),.lit (.int .u8 0),.lit (.int .u8 0),.lit (.int .u8 0),.lit (.int .u8 0),.lit (.int .u8 0),.lit (.int .u8 0),.lit (.int .u8 0),.lit (.int .u8 0),.lit (.int .u8 0),.lit (.int .u8 0)]]],.agg [.lit (.string []),.agg [.lit (.int .i64 0),.lit (.string []),.agg [.lit (.int .u8 0),.lit (.int .u8 0),.lit (.int .u8 0),.lit (.int .u8 0),.lit (.int .u8 0),.lit (.int .u8 0),.lit (.int .u8 0),.lit (.int .u8 0),.lit (.int .u8 0),.lit (.int .u8 0),.lit (.int .u8 0),.lit (.int .u8 0),.lit (.int .u8 0),.lit (.int .u8 0),.lit (.int .u8 0),.lit (.int .u8 0)]]]],[],places):=
 ⟨[],by kernel_rfl⟩
set_option maxRecDepth 100000 in
theorem lifted (os:Os) (started:os.Started) (H:Type) (enc:TypeId×Value→H) (F:Stop.Interp):
  ReturnsInHanded {} Tryz.checked os 6 .any ((OpenSpec.ofChange Rows.pathSamesSpec).preRow enc Tryz.prog Tryz.f6 Rows.pathSamesRow.domain false Rows.pathSamesRow.laid) (((OpenSpec.ofChange Rows.pathSamesSpec).at F).post enc Tryz.prog Tryz.f6 false true false false):=by
 obtain⟨places,hx⟩:=reads os enc
 refine returnsInHanded_of_row (C:=Tryz.checked) (s:=OpenSpec.ofChange Rows.pathSamesSpec) own started (by kernel_rfl) Tryz.func6
  (witness_row_at (enc:=enc) (C:=Tryz.checked) false (laidWorld9 os) #[.agg #[.string ByteArray.empty,.int .i64 0,.string ByteArray.empty,.int .u8 0,.int .u8 0,.int .u8 0,.int .u8 0,.int .u8 0,.int .u8 0,.int .u8 0,.int .u8 0,.int .u8 0,.int .u8 0,.int .u8 0,.int .u8 0,.int .u8 0,.int .u8 0,.int .u8 0,.int .u8 0],.agg #[.string ByteArray.empty,.int .i64 0,.string ByteArray.empty,.int .u8 0,.int .u8 0,.int .u8 0,.int .u8 0,.int .u8 0,.int .u8 0,.int .u8 0,.int .u8 0,.int .u8 0,.int .u8 0,.int .u8 0,.int .u8 0,.int .u8 0,.int .u8 0,.int .u8 0,.int .u8 0]] rfl (by kernel_rfl) (by kernel_rfl) (by kernel_rfl)
   (OpenSpec.preRow_of_cond 8 hx (by kernel_rfl) (fun k hk=>by cases hk) (by kernel_rfl) (laid_met os))) ?_
 intro W base args ds gs before hval hW _ _ hsz hL hsh _
 exact contract H enc W base args ds gs before hval hW hsz hL hsh
theorem said:Rows.PathSamesSaid:=
 OpenClaim.holds_of_cond 6 Tryz.f6 rfl rfl rfl rfl rfl rfl rfl ⟨rfl,rfl,rfl,rfl,rfl⟩ rfl rfl rfl rfl rfl (by kernel_rfl) Tryz.func6 (by kernel_rfl)
  (of_decide_eq_true (by kernel_rfl)) (by unfold Func.isWrapper;first|(rw[if_pos (by decide+kernel)];kernel_rfl)|(rw[if_neg (by decide+kernel)];exact⟨rfl,rfl⟩))
  (fun os started H enc _ F=>by rw[OpenClaim.pre_eq_preRow];exact lifted os started H enc F)
theorem plain (f:FuncId) (fn:Func) (hf:Tryz.pinned.checked.prog.funcNamed "posthorn/posthornlaw09.PathSames"=some f) (hfn:Tryz.pinned.checked.prog.funcs[f]?=some fn):
  true=Tryz.pinned.checked.prog.looks []∧∀(j:Nat) t,fn.params[j]?=some t→Tryz.pinned.checked.prog.wantsStandIn t=false:=by
 obtain rfl:f=6:=Option.some.inj ((show Tryz.prog.funcNamed "posthorn/posthornlaw09.PathSames"=some 6 by kernel_rfl).symm.trans hf) |>.symm
 obtain rfl:fn=Tryz.f6:=(Option.some.inj (Tryz.func6.symm.trans hfn)).symm
 refine⟨by kernel_rfl,fun j t ht=>?_⟩
 rw[Tryz.params6]at ht
 have hm:t∈[27,27]:=by simpa using Array.mem_of_getElem? ht
 have hall:([27,27].all fun u=>!Tryz.prog.wantsStandIn u)=true:=by kernel_rfl
 exact(show Tryz.prog.wantsStandIn t=false by simpa using List.all_eq_true.1 hall t hm)
theorem card:Rows.PathSamesCardSaid:=
 Claim7.holds_tied_plain_at .later [] _ _ _ _ said (fun _ h=>by cases h) (by kernel_rfl) (fun _ h=>by cases h) pathSames_row_tie rfl ⟨rfl,rfl⟩ (by kernel_rfl) rfl plain (by kernel_rfl)
end Go.Proofs.YtfjpkfhbmldmfaaGreatDoor.pathSames
namespace Go.Proofs.YtfjpkfhbmldmfaaGreatDoor
theorem pathSames_card:Rows.PathSamesCardSaid:=pathSames.card
#print axioms pathSames_card
end Go.Proofs.YtfjpkfhbmldmfaaGreatDoor
