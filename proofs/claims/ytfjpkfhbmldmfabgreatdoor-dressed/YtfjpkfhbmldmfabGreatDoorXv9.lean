/-
  Mailboxes compared; the contract of head.
-/
import Derived.Test.YtfjpkfhbmldmfabGreatDoorXt9
import Derived.Test.YtfjpkfhbmldmfabGreatDoorUtfE
namespace Go.Proofs.YtfjpkfhbmldmfabGreatDoor
open Go.RowKit
theorem infoHE:∃i,Tryz.prog.info? 28=some i∧i.size=18:=by
 have h5:(Tryz.prog.info? 28).map (·.size)=some 18:=by kernel_rfl
 cases hq:Tryz.prog.info? 28 with
 |none=>simp[hq]at h5
 |some i=>exact⟨i,rfl,by simpa [hq] using h5⟩
theorem part_loc (l:List UInt8) (h:Ho) (w:World):(part 9 (boxC l h) 0).run Tryz.prog w=.ok (.string (txt l)) w:=by
 simp[part,isAgg,run_underlying Tryz.underlying9,boxC_0]
theorem part_hst (l:List UInt8) (h:Ho) (ha:h.a.length=16) (w:World):(part 28 (boxC l h) 1).run Tryz.prog w=.ok (hostV h) w:=by
 obtain⟨i,hi,hs⟩:=infoHE
 have hz:=hostC_size h ha
 have e:(boxC l h).extract 1 19=hostC h:=by
  apply Array.ext'
  unfold boxC
  rw[Array.toList_extract]
  simp
  rw[List.take_of_length_le (by simp[hz])]
 have hz':(boxC l h).size=19:=by unfold boxC;rw[Array.size_append,hz];rfl
 simp[part,isAgg,run_underlying Tryz.underlying28,sizeOf,typeInfo,hi,hs,e,hz',hostV]
set_option maxRecDepth 100000 in
theorem eqBox (d:Nat) (l m:List UInt8) (x y:Ho) (hx:x.a.length=16) (hy:y.a.length=16) (w:World):(Op.equalIn (d+4) 30 (.agg (boxC l x)) (.agg (boxC m y))).run Tryz.prog w=.ok (decide (l=m)&&decide (x=y)) w:=by
 have hf:Tryz.prog.underlying 30=some (.struct (Tryz.prog.fieldsOf 30)):=by simp[Program.fieldsOf,Tryz.underlying30]
 rw[run_equalIn_struct w (d+3) 30 _ _ hf (by kernel_rfl)]
 simp only[Program.fieldsOf,Tryz.underlying30]
 simp only[Op.eqFields,Sem.run_bind,Sem.run_ite,part_loc,part_hst l x hx,part_hst m y hy,Result.andThen_ok,run_equalIn_string (P:=Tryz.prog) w (d+2) 9 _ _ Tryz.underlying9,eqHost d x y hx hy,txt,list_beq]
 by_cases h1:l=m<;>by_cases h2:x=y<;>simp[h1,h2]
theorem exec_eql_box {op:Oper} {a:Act} {w:World} (p q:Operand) (r:TypeId) (ho:op.op=.binOp .eql 30 p q r) (l m:List UInt8) (x y:Ho) (hp:a.eval p=.agg (boxC l x)) (hq:a.eval q=.agg (boxC m y)) (hx:x.a.length=16) (hy:y.a.length=16):(execOp a.eval op).run Tryz.prog w=.ok (.value (.bool (decide (l=m)&&decide (x=y)))) w:=by
 have hgu:Tryz.prog.eqGuardType Tryz.prog.depth 30=false:=by kernel_rfl
 have h:=eqBox 9996 l m x y hx hy w
 have hg:=run_eqGuard_agg (P:=Tryz.prog) w .eql 30 p q (boxC l x) (boxC m y) hgu
 unfold execOp
 simp only[ho,hp,hq,Sem.run_bind,hg,Result.andThen_ok,run_eql_struct,h,Sem.run_pure]
theorem pthC_one9 (k:Int) (sl:Value) (l:List UInt8) (h:Ho) (hs:sl.oneCell'=true):(pthC k sl l h).all (·.oneCell')=true:=by
 rw[pth_box,Array.all_append,boxC_one]
 simp[Value.oneCell']
 exact hs
theorem pthC_024 (k:Int) (sl:Value) (l:List UInt8) (h:Ho):(pthC k sl l h)[0]?=some (.int .i64 k)∧(pthC k sl l h)[1]?=some sl∧(pthC k sl l h)[2]?=some (.string (txt l))∧(pthC k sl l h)[3]?=some (.int .i64 h.k)∧(pthC k sl l h)[4]?=some (.string (txt h.n)):=by
 unfold pthC hostC txt
 simp
def annH:Ho:=⟨1,[97,46,101,120,97,109,112,108,101],z16⟩
theorem head_pth:pth false true [60,97,110,110,64,97,46,101,120,97,109,112,108,101,62,32,83,73,90,69,61,51]=.ok (⟨3,[],[97,110,110],annH⟩,15):=by kernel_rfl
set_option maxHeartbeats 4000000 in
set_option maxRecDepth 100000 in
theorem head_any (w:World) (hT:Td w) (h10:10≤w.heap.size):Calls Tryz.prog 7 #[] w fun e w'=>e=.returned (.bool true)∧Below w.heap.size w w':=by
 have HR:Hid (∀wx,Below w.heap.size w wx→Calls Tryz.prog 10 #[.string ⟨#[60,97,110,110,64,97,46,101,120,97,109,112,108,101,62,32,83,73,90,69,61,51]⟩,.bool false] wx fun e w'=>∃sl,sl.oneCell'=true∧e=.returned (.tuple #[.agg (pthC 3 sl [97,110,110] annH),.int .i64 15,.agg #[.int .i64 0,.int .i64 0]])∧Below wx.heap.size wx w'):=fun wx hx=>by
  refine Calls.mono (rev_any ⟨#[60,97,110,110,64,97,46,101,120,97,109,112,108,101,62,32,83,73,90,69,61,51]⟩ (by decide) false wx (hT.below hx) (Nat.le_trans h10 hx.size)) ?_
  rintro e w' ⟨v,rfl,hv,hb⟩
  have e1:pth false true (⟨#[60,97,110,110,64,97,46,101,120,97,109,112,108,101,62,32,83,73,90,69,61,51]⟩:ByteArray).data.toList=.ok (⟨3,[],[97,110,110],annH⟩,15):=head_pth
  rw[e1]at hv
  obtain⟨sl,rfl,ho⟩:=hv
  obtain⟨sa,sc,hsl⟩:=ownH_len ho
  exact⟨sl,by rw[hsl];rfl,rfl,hb⟩
 go_enter Tryz.func7,Tryz.ntmps7
 go_upto_region 1 with fail
 go_wp2_with fail
 refine Calls.mono (HR.out _ (Below.refl _ _)) ?_
 rintro e y ⟨sl,hs1,rfl,hc⟩
 obtain⟨VP,hVP⟩:∃VP,VP=pthC 3 sl [97,110,110] annH:=⟨_,rfl⟩
 rw[←hVP]
 have zp:Hid (VP.size=21):=by rw[hVP];exact pthC_size _ _ _ _ rfl
 have op:Hid (VP.all (·.oneCell')=true):=by rw[hVP];exact pthC_one9 _ _ _ _ hs1
 have p0:Hid (VP[0]?=some (.int .i64 3)):=by rw[hVP];exact(pthC_024 _ _ _ _).1
 have p2:Hid (VP[2]?=some (.string ⟨#[97,110,110]⟩)):=by rw[hVP];exact(pthC_024 _ _ _ _).2.2.1
 have p4:Hid (VP[4]?=some (.string ⟨#[97,46,101,120,97,109,112,108,101]⟩)):=by rw[hVP];exact(pthC_024 _ _ _ _).2.2.2.2
 clear hVP hs1
 have KB:Hid (Below w.heap.size w y):=hc
 clear hc HR hT h10
 have A:Hid (Lies ((y.alloc (.cells #[.int .i64 0,.slice none 0 0,.string ⟨#[]⟩,.int .i64 0,.string ⟨#[]⟩,.int .u8 0,.int .u8 0,.int .u8 0,.int .u8 0,.int .u8 0,.int .u8 0,.int .u8 0,.int .u8 0,.int .u8 0,.int .u8 0,.int .u8 0,.int .u8 0,.int .u8 0,.int .u8 0,.int .u8 0,.int .u8 0] 32)).alloc (.cells #[.int .i64 0,.int .i64 0] 35)) y.heap.size #[.int .i64 0,.slice none 0 0,.string ⟨#[]⟩,.int .i64 0,.string ⟨#[]⟩,.int .u8 0,.int .u8 0,.int .u8 0,.int .u8 0,.int .u8 0,.int .u8 0,.int .u8 0,.int .u8 0,.int .u8 0,.int .u8 0,.int .u8 0,.int .u8 0,.int .u8 0,.int .u8 0,.int .u8 0,.int .u8 0] 32):=(Lies.new y _ _).alloc _
 have B:Hid (Lies ((y.alloc (.cells #[.int .i64 0,.slice none 0 0,.string ⟨#[]⟩,.int .i64 0,.string ⟨#[]⟩,.int .u8 0,.int .u8 0,.int .u8 0,.int .u8 0,.int .u8 0,.int .u8 0,.int .u8 0,.int .u8 0,.int .u8 0,.int .u8 0,.int .u8 0,.int .u8 0,.int .u8 0,.int .u8 0,.int .u8 0,.int .u8 0] 32)).alloc (.cells #[.int .i64 0,.int .i64 0] 35)) (y.heap.size+1) #[.int .i64 0,.int .i64 0] 35):=new_one y _ _ _
 have M:Hid (Lies ((((y.alloc (.cells #[.int .i64 0,.slice none 0 0,.string ⟨#[]⟩,.int .i64 0,.string ⟨#[]⟩,.int .u8 0,.int .u8 0,.int .u8 0,.int .u8 0,.int .u8 0,.int .u8 0,.int .u8 0,.int .u8 0,.int .u8 0,.int .u8 0,.int .u8 0,.int .u8 0,.int .u8 0,.int .u8 0,.int .u8 0,.int .u8 0] 32)).alloc (.cells #[.int .i64 0,.int .i64 0] 35)).setRow y.heap.size VP).setRow (y.heap.size+1) #[.int .i64 0,.int .i64 0]) y.heap.size VP 32):=(A.out.row _).row_other (by omega) _
 have N:Hid (Lies ((((y.alloc (.cells #[.int .i64 0,.slice none 0 0,.string ⟨#[]⟩,.int .i64 0,.string ⟨#[]⟩,.int .u8 0,.int .u8 0,.int .u8 0,.int .u8 0,.int .u8 0,.int .u8 0,.int .u8 0,.int .u8 0,.int .u8 0,.int .u8 0,.int .u8 0,.int .u8 0,.int .u8 0,.int .u8 0,.int .u8 0,.int .u8 0] 32)).alloc (.cells #[.int .i64 0,.int .i64 0] 35)).setRow y.heap.size VP).setRow (y.heap.size+1) #[.int .i64 0,.int .i64 0]) (y.heap.size+1) #[.int .i64 0,.int .i64 0] 35):=(B.out.row_other (by omega) _).row _
 have BB:Hid (Below w.heap.size w ((((y.alloc (.cells #[.int .i64 0,.slice none 0 0,.string ⟨#[]⟩,.int .i64 0,.string ⟨#[]⟩,.int .u8 0,.int .u8 0,.int .u8 0,.int .u8 0,.int .u8 0,.int .u8 0,.int .u8 0,.int .u8 0,.int .u8 0,.int .u8 0,.int .u8 0,.int .u8 0,.int .u8 0,.int .u8 0,.int .u8 0,.int .u8 0] 32)).alloc (.cells #[.int .i64 0,.int .i64 0] 35)).setRow y.heap.size VP).setRow (y.heap.size+1) #[.int .i64 0,.int .i64 0])):=KB.out.trans ((below_row (below_row (((Below.refl _ _).alloc (Nat.le_refl _) _).alloc (by simp) _) (Nat.le_refl _) _) (by omega) _:Below y.heap.size y _).mono KB.out.size)
 clear KB
 go_upto_region 2 with(first|(refine wpList_store_row rfl 32 _ _ rfl y.heap.size rfl #[.int .i64 0,.slice none 0 0,.string ⟨#[]⟩,.int .i64 0,.string ⟨#[]⟩,.int .u8 0,.int .u8 0,.int .u8 0,.int .u8 0,.int .u8 0,.int .u8 0,.int .u8 0,.int .u8 0,.int .u8 0,.int .u8 0,.int .u8 0,.int .u8 0,.int .u8 0,.int .u8 0,.int .u8 0,.int .u8 0] VP rfl 32 A.out (by rw[zp.out];exact infoPt) (by rw[zp.out];rfl) op.out rfl ?_)|(refine wpList_store_row rfl 35 _ _ rfl (y.heap.size+1) rfl #[.int .i64 0,.int .i64 0] #[.int .i64 0,.int .i64 0] rfl 35 (B.out.row_other (by omega) _) infoSp rfl (by simp[Value.oneCell']) rfl ?_))
 generalize hv:(((y.alloc (.cells #[.int .i64 0,.slice none 0 0,.string ⟨#[]⟩,.int .i64 0,.string ⟨#[]⟩,.int .u8 0,.int .u8 0,.int .u8 0,.int .u8 0,.int .u8 0,.int .u8 0,.int .u8 0,.int .u8 0,.int .u8 0,.int .u8 0,.int .u8 0,.int .u8 0,.int .u8 0,.int .u8 0,.int .u8 0,.int .u8 0] 32)).alloc (.cells #[.int .i64 0,.int .i64 0] 35)).setRow y.heap.size VP).setRow (y.heap.size+1) #[.int .i64 0,.int .i64 0]=v at M N BB ⊢
 clear hv A B
 have c0:v.cell? ⟨y.heap.size,0,none⟩=some (.int .i64 3):=(M.out.cell 0).trans p0.out
 have c2:v.cell? ⟨y.heap.size,2,none⟩=some (.string ⟨#[97,110,110]⟩):=(M.out.cell 2).trans p2.out
 have c4:v.cell? ⟨y.heap.size,4,none⟩=some (.string ⟨#[97,46,101,120,97,109,112,108,101]⟩):=(M.out.cell 4).trans p4.out
 go_wp2_with (refine wpList_load_row9 (by rfl) 35 _ rfl (y.heap.size+1) rfl #[.int .i64 0,.int .i64 0] 35 _ N.out Tryz.underlying35 rfl infoSp ?_)
 go_ret
 exact⟨rfl,BB.out⟩
open Go.RowKit
def boxV (x:Except (Nat×Nat) (List UInt8×Ho)):Value:=match x with
 | .error (e,p)=>.tuple #[.agg #[.string ⟨#[]⟩,.int .i64 0,.string ⟨#[]⟩,.int .u8 0,.int .u8 0,.int .u8 0,.int .u8 0,.int .u8 0,.int .u8 0,.int .u8 0,.int .u8 0,.int .u8 0,.int .u8 0,.int .u8 0,.int .u8 0,.int .u8 0,.int .u8 0,.int .u8 0,.int .u8 0],.agg #[.int .i64 (e:Nat),.int .i64 (p:Nat)]]
 | .ok (l,h)=>.tuple #[.agg (boxC l h),.agg #[.int .i64 0,.int .i64 0]]
theorem results_cc9 {P:Program} {fn:Func} {p r:Tmp} {ty tz:TypeId} (h:fn.results=#[.cell p ty,.cell r tz]) (tmps:Array Value) (w:World) (g1 g3:Nat) (cs ds:Array Value) (d1 d2:TypeDesc)
  (hp:tmps.getD p undef=.pointer (some ⟨g1,0,none⟩)) (hr:tmps.getD r undef=.pointer (some ⟨g3,0,none⟩)) (hg1:Lies w g1 cs ty) (hg3:Lies w g3 ds tz)
  (hu1:P.underlying ty=some d1) (ha1:(match d1 with| .struct _| .array _ _=>true|_=>false)=true) (hz1:(P.info? ty).map (·.size)=some cs.size)
  (hu2:P.underlying tz=some d2) (ha2:(match d2 with| .struct _| .array _ _=>true|_=>false)=true) (hz2:(P.info? tz).map (·.size)=some ds.size):(results fn tmps).run P w=.ok (.tuple #[.agg cs,.agg ds]) w:=by
 have hp':tmps[p]?.getD undef=.pointer (some ⟨g1,0,none⟩):=by simpa using hp
 have hr':tmps[r]?.getD undef=.pointer (some ⟨g3,0,none⟩):=by simpa using hr
 simp[results,h,hp',hr',asAddr,run_loadVar_row w g1 ty ty cs (0,0) d1 hg1 hu1 ha1 hz1,run_loadVar_row w g3 tz tz ds (0,0) d2 hg3 hu2 ha2 hz2]
theorem pbx_idle (b g4 g6:Nat) (w:World):CallsD Tryz.prog 29 #[.pointer (some ⟨b,0,none⟩),.pointer (some ⟨g4,0,none⟩),.pointer (some ⟨g6,0,none⟩)] .returning w fun e u' w'=>e=.returned (.tuple #[])∧u'=.returning∧w'=w:=by
 refine callsD_of_wpS Tryz.func29 rfl fun c₀ cs hu=>?_
 apply wpS_seq
 apply wpS_region
 simp[wpOpsS,go_sem,recoverD,hu,Tryz.ntmps29,Exit.thenS]
 refine wpS_cond (t:=false) (by simp[Act.eval,Array.replicate]) ?_
 simp only[Bool.false_eq_true,if_false]
 refine wpS_of_wp (wp_skip ?_)
 cases c₀
 simp_all[bodyPostS,results,Tryz.results29]
set_option maxHeartbeats 4000000 in
set_option maxRecDepth 100000 in
theorem pbx_catch (b g4 g6:Nat) (pv:Value) (er p:Nat) (P:Array Value) (y z:Int) (w:World) (h3:w.cell? ⟨b,3,none⟩=some (.int .i64 (er:Int))) (h4:w.cell? ⟨b,4,none⟩=some (.int .i64 (p:Int))) (L4:Lies w g4 P 30) (hP:P.size=19) (L6:Lies w g6 #[.int .i64 y,.int .i64 z] 35) (n46:g4≠g6):
  CallsD Tryz.prog 29 #[.pointer (some ⟨b,0,none⟩),.pointer (some ⟨g4,0,none⟩),.pointer (some ⟨g6,0,none⟩)] (.panicking [{v:=.iface 33 pv,recovered:=false}]) w fun e u' w'=>
   e=.returned (.tuple #[])∧u'=.panicking [{v:=.iface 33 pv,recovered:=true}]∧w'=(w.setRow g4 #[.string ⟨#[]⟩,.int .i64 0,.string ⟨#[]⟩,.int .u8 0,.int .u8 0,.int .u8 0,.int .u8 0,.int .u8 0,.int .u8 0,.int .u8 0,.int .u8 0,.int .u8 0,.int .u8 0,.int .u8 0,.int .u8 0,.int .u8 0,.int .u8 0,.int .u8 0,.int .u8 0]).setRow g6 #[.int .i64 (er:Int),.int .i64 (p:Int)]:=by
 refine callsD_of_wpS Tryz.func29 rfl fun c₀ cs hu=>?_
 apply wpS_seq
 apply wpS_region
 simp[wpOpsS,go_sem,recoverD,hu,Tryz.ntmps29,Exit.thenS]
 refine wpS_cond (t:=true) (by simp[Act.eval,Array.replicate]) ?_
 simp only[if_true]
 refine wpS_of_wp ?_
 have HL4:Hid (Lies w g4 P 30):=L4
 have HPZ:Hid (P.size=19):=hP
 have HL6:Hid (Lies (w.setRow g4 #[.string ⟨#[]⟩,.int .i64 0,.string ⟨#[]⟩,.int .u8 0,.int .u8 0,.int .u8 0,.int .u8 0,.int .u8 0,.int .u8 0,.int .u8 0,.int .u8 0,.int .u8 0,.int .u8 0,.int .u8 0,.int .u8 0,.int .u8 0,.int .u8 0,.int .u8 0,.int .u8 0]) g6 #[.int .i64 y,.int .i64 z] 35):=L6.row_other (Ne.symm n46) _
 have HRG:Hid (w.rangeAt b 3 [.int .i64 (er:Int),.int .i64 (p:Int)]):=fun j v hv=>by
  match j,hv with
  |0,hv=>injection hv with hv;rw[←hv];exact h3
  |1,hv=>injection hv with hv;rw[←hv];exact h4
 clear L4 L6 hP
 go_wp2_with (first|(refine wpList_load_mid rfl 35 _ rfl b 3 rfl [.int .i64 (er:Int),.int .i64 (p:Int)] _ HRG.out Tryz.underlying35 rfl infoSp ?_)|(refine wpList_store_row rfl 30 _ _ rfl g4 rfl P #[.string ⟨#[]⟩,.int .i64 0,.string ⟨#[]⟩,.int .u8 0,.int .u8 0,.int .u8 0,.int .u8 0,.int .u8 0,.int .u8 0,.int .u8 0,.int .u8 0,.int .u8 0,.int .u8 0,.int .u8 0,.int .u8 0,.int .u8 0,.int .u8 0,.int .u8 0,.int .u8 0] rfl 30 HL4.out infoBx (by rw[HPZ.out];rfl) (by simp[Value.oneCell']) rfl ?_)|(refine wpList_store_row rfl 35 _ _ rfl g6 rfl #[.int .i64 y,.int .i64 z] #[.int .i64 (er:Int),.int .i64 (p:Int)] rfl 35 HL6.out infoSp rfl (by simp[Value.oneCell']) rfl ?_))
 simp[bodyPostS,results,Tryz.results29]
theorem pbx_out (s:ByteArray) (wide:Bool) (er p:Nat) (P:Array Value) (hP:P.size=19) (a':Nat) (w w5:World) (tmps:Array Value) (hp:tmps.getD 4 undef=.pointer (some ⟨w.heap.size,0,none⟩)) (hq:tmps.getD 5 undef=.pointer (some ⟨w.heap.size+1,0,none⟩)) (l4:Lies w5 w.heap.size P 30) (l6:Lies w5 (w.heap.size+1) #[.int .i64 0,.int .i64 0] 35) (q2:RdAt w5 (w.heap.size+2) s a' wide er p) (kb:Below w.heap.size w w5) (pv:Value) (cap:Array Value) (hcap:cap=#[.pointer (some ⟨w.heap.size+2,0,none⟩),.pointer (some ⟨w.heap.size,0,none⟩),.pointer (some ⟨w.heap.size+1,0,none⟩)]) (R:Ending→World→Prop)
  (hR:∀w',Below w.heap.size w w'→R (.returned (boxV (.error (er,p)))) w'):
  Leaves Tryz.prog Tryz.f15 tmps R [{target:=Target.fn (Fn.func 29) cap,args:=#[]}] (.panicking [{v:=.iface 33 pv,recovered:=false}]) w5:=by
 subst hcap
 obtain⟨_,_,_,c3,c4⟩:=q2.cells
 refine leaves_cons (f:=29) (args:=#[.pointer (some ⟨w.heap.size+2,0,none⟩),.pointer (some ⟨w.heap.size,0,none⟩),.pointer (some ⟨w.heap.size+1,0,none⟩)]) (by simp) (by simp[go_sem]) ?_
 refine(pbx_catch (w.heap.size+2) w.heap.size (w.heap.size+1) _ er p P 0 0 w5 c3 c4 l4 hP l6 (by omega)).mono ?_
 rintro e u' w6 ⟨rfl,rfl,rfl⟩
 refine⟨_,results_cc9 (p:=4) (r:=5) (by kernel_rfl) _ _ w.heap.size (w.heap.size+1) #[.string ⟨#[]⟩,.int .i64 0,.string ⟨#[]⟩,.int .u8 0,.int .u8 0,.int .u8 0,.int .u8 0,.int .u8 0,.int .u8 0,.int .u8 0,.int .u8 0,.int .u8 0,.int .u8 0,.int .u8 0,.int .u8 0,.int .u8 0,.int .u8 0,.int .u8 0,.int .u8 0] #[.int .i64 (er:Int),.int .i64 (p:Int)] _ _ hp hq ((l4.row _).row_other (by omega) _) ((l6.row_other (by omega) _).row _) Tryz.underlying30 rfl infoBx Tryz.underlying35 rfl infoSp,hR _ (below_row (below_row kb (Nat.le_refl _) _) (by omega) _)⟩
set_option maxHeartbeats 16000000 in
set_option maxRecDepth 100000 in
theorem pbx_any (s:ByteArray) (hs:s.size≤140737488355328) (wide:Bool) (w:World) (hT:Td w) (h10:10≤w.heap.size):
  Calls Tryz.prog 15 #[.string s,.bool wide] w fun e w'=>e=.returned (boxV (box wide s.data.toList))∧Below w.heap.size w w':=by
 have hmf:∀(fn:Fn) (first cap:Array Value) (w:World),(Instr.makeFunc fn first cap).run Tryz.prog w=.ok (.func fn first cap) w:=fun _ _ _ _=>rfl
 have K2:Below w.heap.size w ((w.alloc (.cells #[.string ⟨#[]⟩,.int .i64 0,.string ⟨#[]⟩,.int .u8 0,.int .u8 0,.int .u8 0,.int .u8 0,.int .u8 0,.int .u8 0,.int .u8 0,.int .u8 0,.int .u8 0,.int .u8 0,.int .u8 0,.int .u8 0,.int .u8 0,.int .u8 0,.int .u8 0,.int .u8 0] 30)).alloc (.cells #[.int .i64 0,.int .i64 0] 35)):=((Below.refl _ w).alloc (Nat.le_refl _) _).alloc (by simp) _
 have z2:((w.alloc (.cells #[.string ⟨#[]⟩,.int .i64 0,.string ⟨#[]⟩,.int .u8 0,.int .u8 0,.int .u8 0,.int .u8 0,.int .u8 0,.int .u8 0,.int .u8 0,.int .u8 0,.int .u8 0,.int .u8 0,.int .u8 0,.int .u8 0,.int .u8 0,.int .u8 0,.int .u8 0,.int .u8 0] 30)).alloc (.cells #[.int .i64 0,.int .i64 0] 35)).heap.size=w.heap.size+2:=by simp
 have HLR0:Hid (Lies (((w.alloc (.cells #[.string ⟨#[]⟩,.int .i64 0,.string ⟨#[]⟩,.int .u8 0,.int .u8 0,.int .u8 0,.int .u8 0,.int .u8 0,.int .u8 0,.int .u8 0,.int .u8 0,.int .u8 0,.int .u8 0,.int .u8 0,.int .u8 0,.int .u8 0,.int .u8 0,.int .u8 0,.int .u8 0] 30)).alloc (.cells #[.int .i64 0,.int .i64 0] 35)).alloc (.cells #[.string ⟨#[]⟩,.int .i64 0,.bool false,.int .i64 0,.int .i64 0] 58)) (w.heap.size+2) #[.string ⟨#[]⟩,.int .i64 0,.bool false,.int .i64 0,.int .i64 0] 58):=by
  have:=Lies.new ((w.alloc (.cells #[.string ⟨#[]⟩,.int .i64 0,.string ⟨#[]⟩,.int .u8 0,.int .u8 0,.int .u8 0,.int .u8 0,.int .u8 0,.int .u8 0,.int .u8 0,.int .u8 0,.int .u8 0,.int .u8 0,.int .u8 0,.int .u8 0,.int .u8 0,.int .u8 0,.int .u8 0,.int .u8 0] 30)).alloc (.cells #[.int .i64 0,.int .i64 0] 35)) #[.string ⟨#[]⟩,.int .i64 0,.bool false,.int .i64 0,.int .i64 0] 58
  rw[z2]at this
  exact this
 have K3:Below w.heap.size w ((((w.alloc (.cells #[.string ⟨#[]⟩,.int .i64 0,.string ⟨#[]⟩,.int .u8 0,.int .u8 0,.int .u8 0,.int .u8 0,.int .u8 0,.int .u8 0,.int .u8 0,.int .u8 0,.int .u8 0,.int .u8 0,.int .u8 0,.int .u8 0,.int .u8 0,.int .u8 0,.int .u8 0,.int .u8 0] 30)).alloc (.cells #[.int .i64 0,.int .i64 0] 35)).alloc (.cells #[.string ⟨#[]⟩,.int .i64 0,.bool false,.int .i64 0,.int .i64 0] 58)).setRow (w.heap.size+2) #[.string s,.int .i64 0,.bool wide,.int .i64 0,.int .i64 0]):=below_row (K2.alloc (by rw[z2];omega) _) (by omega) _
 have HW:Hid (Below w.heap.size w ((((w.alloc (.cells #[.string ⟨#[]⟩,.int .i64 0,.string ⟨#[]⟩,.int .u8 0,.int .u8 0,.int .u8 0,.int .u8 0,.int .u8 0,.int .u8 0,.int .u8 0,.int .u8 0,.int .u8 0,.int .u8 0,.int .u8 0,.int .u8 0,.int .u8 0,.int .u8 0,.int .u8 0,.int .u8 0] 30)).alloc (.cells #[.int .i64 0,.int .i64 0] 35)).alloc (.cells #[.string ⟨#[]⟩,.int .i64 0,.bool false,.int .i64 0,.int .i64 0] 58)).setRow (w.heap.size+2) #[.string s,.int .i64 0,.bool wide,.int .i64 0,.int .i64 0])):=K3
 have HL4:Hid (Lies ((((w.alloc (.cells #[.string ⟨#[]⟩,.int .i64 0,.string ⟨#[]⟩,.int .u8 0,.int .u8 0,.int .u8 0,.int .u8 0,.int .u8 0,.int .u8 0,.int .u8 0,.int .u8 0,.int .u8 0,.int .u8 0,.int .u8 0,.int .u8 0,.int .u8 0,.int .u8 0,.int .u8 0,.int .u8 0] 30)).alloc (.cells #[.int .i64 0,.int .i64 0] 35)).alloc (.cells #[.string ⟨#[]⟩,.int .i64 0,.bool false,.int .i64 0,.int .i64 0] 58)).setRow (w.heap.size+2) #[.string s,.int .i64 0,.bool wide,.int .i64 0,.int .i64 0]) w.heap.size #[.string ⟨#[]⟩,.int .i64 0,.string ⟨#[]⟩,.int .u8 0,.int .u8 0,.int .u8 0,.int .u8 0,.int .u8 0,.int .u8 0,.int .u8 0,.int .u8 0,.int .u8 0,.int .u8 0,.int .u8 0,.int .u8 0,.int .u8 0,.int .u8 0,.int .u8 0,.int .u8 0] 30):=(((Lies.new w _ _).alloc _).alloc _).row_other (by omega) _
 have HL5:Hid (Lies ((((w.alloc (.cells #[.string ⟨#[]⟩,.int .i64 0,.string ⟨#[]⟩,.int .u8 0,.int .u8 0,.int .u8 0,.int .u8 0,.int .u8 0,.int .u8 0,.int .u8 0,.int .u8 0,.int .u8 0,.int .u8 0,.int .u8 0,.int .u8 0,.int .u8 0,.int .u8 0,.int .u8 0,.int .u8 0] 30)).alloc (.cells #[.int .i64 0,.int .i64 0] 35)).alloc (.cells #[.string ⟨#[]⟩,.int .i64 0,.bool false,.int .i64 0,.int .i64 0] 58)).setRow (w.heap.size+2) #[.string s,.int .i64 0,.bool wide,.int .i64 0,.int .i64 0]) (w.heap.size+1) #[.int .i64 0,.int .i64 0] 35):=(Lies.alloc (new_one w _ _ _) _).row_other (by omega) _
 have HR:Hid (RdAt ((((w.alloc (.cells #[.string ⟨#[]⟩,.int .i64 0,.string ⟨#[]⟩,.int .u8 0,.int .u8 0,.int .u8 0,.int .u8 0,.int .u8 0,.int .u8 0,.int .u8 0,.int .u8 0,.int .u8 0,.int .u8 0,.int .u8 0,.int .u8 0,.int .u8 0,.int .u8 0,.int .u8 0,.int .u8 0] 30)).alloc (.cells #[.int .i64 0,.int .i64 0] 35)).alloc (.cells #[.string ⟨#[]⟩,.int .i64 0,.bool false,.int .i64 0,.int .i64 0] 58)).setRow (w.heap.size+2) #[.string s,.int .i64 0,.bool wide,.int .i64 0,.int .i64 0]) (w.heap.size+2) s 0 wide 0 0):=⟨HLR0.out.row _⟩
 have HTd:Hid (Td ((((w.alloc (.cells #[.string ⟨#[]⟩,.int .i64 0,.string ⟨#[]⟩,.int .u8 0,.int .u8 0,.int .u8 0,.int .u8 0,.int .u8 0,.int .u8 0,.int .u8 0,.int .u8 0,.int .u8 0,.int .u8 0,.int .u8 0,.int .u8 0,.int .u8 0,.int .u8 0,.int .u8 0,.int .u8 0] 30)).alloc (.cells #[.int .i64 0,.int .i64 0] 35)).alloc (.cells #[.string ⟨#[]⟩,.int .i64 0,.bool false,.int .i64 0,.int .i64 0] 58)).setRow (w.heap.size+2) #[.string s,.int .i64 0,.bool wide,.int .i64 0,.int .i64 0])):=hT.below K3
 clear K2 K3 hT
 obtain⟨X,hX⟩:∃X,X=box wide s.data.toList:=⟨_,rfl⟩
 rw[←hX]
 have HX:Hid (X=match shE 0 (bx wide (s.data.toList.drop 0)) with
  | .error e=>.error e
  | .ok (m,n)=>if n<s.size then .error (93,n) else .ok m):=by
  show X=_
  rw[hX,List.drop_zero]
  unfold box
  rw[len_list]
  cases bx wide s.data.toList with
  |error y=>simp[shE]
  |ok y=>simp[shE]
 clear hX
 go_enter_defers Tryz.func15,Tryz.ntmps15
 go_upto_region 2 with(refine wpList_store_row rfl 58 _ _ rfl (w.heap.size+2) rfl #[.string ⟨#[]⟩,.int .i64 0,.bool false,.int .i64 0,.int .i64 0] #[.string s,.int .i64 0,.bool wide,.int .i64 0,.int .i64 0] rfl 58 HLR0.out infoRd rfl (by simp[Value.oneCell']) rfl ?_)
 generalize (((w.alloc (.cells #[.string ⟨#[]⟩,.int .i64 0,.string ⟨#[]⟩,.int .u8 0,.int .u8 0,.int .u8 0,.int .u8 0,.int .u8 0,.int .u8 0,.int .u8 0,.int .u8 0,.int .u8 0,.int .u8 0,.int .u8 0,.int .u8 0,.int .u8 0,.int .u8 0,.int .u8 0,.int .u8 0] 30)).alloc (.cells #[.int .i64 0,.int .i64 0] 35)).alloc (.cells #[.string ⟨#[]⟩,.int .i64 0,.bool false,.int .i64 0,.int .i64 0] 58)).setRow (w.heap.size+2) #[.string s,.int .i64 0,.bool wide,.int .i64 0,.int .i64 0]=W at HW HL4 HL5 HR HTd ⊢
 clear HLR0 z2
 have HBX:Hid (Calls Tryz.prog 30 #[.pointer (some ⟨w.heap.size+2,0,none⟩)] W (Come (w.heap.size+2) s wide W (bxW (shE 0 (bx wide (s.data.toList.drop 0)))))):=box_any (w.heap.size+2) (by omega) s 0 (Nat.zero_le _) hs wide W HTd.out.tb HR.out
 cases hz:shE 0 (bx wide (s.data.toList.drop 0)) with
 |error z=>
  obtain⟨er,p⟩:=z
  rw[hz]at HBX
  have hx:=HX.out
  rw[hz]at hx
  subst hx
  clear HX hz
  go_wp2_with fail
  refine HBX.out.mono ?_
  rintro e w5 ⟨q1,rfl,a',q2⟩
  exact pbx_out s wide er p #[.string ⟨#[]⟩,.int .i64 0,.string ⟨#[]⟩,.int .u8 0,.int .u8 0,.int .u8 0,.int .u8 0,.int .u8 0,.int .u8 0,.int .u8 0,.int .u8 0,.int .u8 0,.int .u8 0,.int .u8 0,.int .u8 0,.int .u8 0,.int .u8 0,.int .u8 0,.int .u8 0] rfl a' w w5 _ rfl rfl (q1.lies HL4.out (by omega)) (q1.lies HL5.out (by omega)) q2 (HW.out.trans (q1.below (by omega) HW.out.size)) _ _ rfl _ (fun w' hb=>⟨rfl,hb⟩)
 |ok z=>
  obtain⟨⟨l,ho⟩,n⟩:=z
  obtain⟨hns,_,hok,_⟩:=bx_ok hz (Nat.zero_le _)
  rw[hz]at HBX
  have hx:=HX.out
  rw[hz]at hx
  have HX2:Hid (X=if n<s.size then .error (93,n) else .ok (l,ho)):=hx
  have hal:=hok.len
  obtain⟨U,hU⟩:∃U,U=boxC l ho:=⟨_,rfl⟩
  have HUZ:Hid (U.size=19):=by show _=_;rw[hU];exact boxC_size l ho hal
  have HUO:Hid (U.all (·.oneCell')=true):=by show _=_;rw[hU];exact boxC_one l ho
  have HBX2:Hid (Calls Tryz.prog 30 #[.pointer (some ⟨w.heap.size+2,0,none⟩)] W fun e w'=>e=.returned (.agg U)∧But (w.heap.size+2) W w'∧RdAt w' (w.heap.size+2) s n wide 0 0):=HBX.out.mono (fun e w' q=>by
   obtain⟨q1,q2,q3⟩:=q
   rw[hU]
   exact⟨q2,q1,q3⟩)
  have HUU:Hid (U=boxC l ho):=hU
  clear hx HX hz HBX hU hok hal
  go_wp2_with fail
  refine HBX2.out.mono ?_
  rintro e w5 ⟨rfl,q1,q2⟩
  have H4:Hid (Lies w5 w.heap.size #[.string ⟨#[]⟩,.int .i64 0,.string ⟨#[]⟩,.int .u8 0,.int .u8 0,.int .u8 0,.int .u8 0,.int .u8 0,.int .u8 0,.int .u8 0,.int .u8 0,.int .u8 0,.int .u8 0,.int .u8 0,.int .u8 0,.int .u8 0,.int .u8 0,.int .u8 0,.int .u8 0] 30):=q1.lies HL4.out (by omega)
  have HLU:Hid (Lies (w5.setRow w.heap.size U) w.heap.size U 30):=H4.out.row U
  have HLS:Hid (Lies (w5.setRow w.heap.size U) (w.heap.size+1) #[.int .i64 0,.int .i64 0] 35):=(q1.lies HL5.out (by omega)).row_other (by omega) U
  have HRU:Hid (RdAt (w5.setRow w.heap.size U) (w.heap.size+2) s n wide 0 0):=⟨q2.lies.row_other (by omega) U⟩
  have HKB:Hid (Below w.heap.size w (w5.setRow w.heap.size U)):=below_row (HW.out.trans (q1.below (by omega) HW.out.size)) (Nat.le_refl _) U
  clear q1 q2 HBX2 HL4 HL5 HR HTd HW
  go_upto_region 4 with(refine wpList_store_row rfl 30 _ _ rfl w.heap.size rfl #[.string ⟨#[]⟩,.int .i64 0,.string ⟨#[]⟩,.int .u8 0,.int .u8 0,.int .u8 0,.int .u8 0,.int .u8 0,.int .u8 0,.int .u8 0,.int .u8 0,.int .u8 0,.int .u8 0,.int .u8 0,.int .u8 0,.int .u8 0,.int .u8 0,.int .u8 0,.int .u8 0] U rfl 30 H4.out (by rw[HUZ.out];exact infoBx) (by rw[HUZ.out];rfl) HUO.out rfl ?_)
  generalize w5.setRow w.heap.size U=w6 at HLU HLS HRU HKB ⊢
  clear H4
  obtain⟨_,c1,_,_,_⟩:=HRU.out.cells
  by_cases hlt:n<s.size
  ·have hlt':(n:Int)<(s.size:Int):=by omega
   have hx:=HX2.out
   rw[if_pos hlt]at hx
   subst hx
   have HF:Hid (Calls Tryz.prog 31 #[.pointer (some ⟨w.heap.size+2,0,none⟩),.int .i64 93,.int .i64 (n:Nat)] w6 fun e w'=>e=gaveUp 93∧RdAt w' (w.heap.size+2) s n wide 93 n∧But (w.heap.size+2) w6 w'):=fail_any (w.heap.size+2) s n wide 93 n w6 HRU.out
   clear HX2 hlt
   go_wp2_with fail
   refine HF.out.mono ?_
   rintro e w7 ⟨rfl,q1,q2⟩
   exact pbx_out s wide 93 n U HUZ.out n w w7 _ rfl rfl (q2.lies HLU.out (by omega)) (q2.lies HLS.out (by omega)) q1 (HKB.out.trans (q2.below (by omega) HKB.out.size)) _ _ rfl _ (fun w' hb=>⟨rfl,hb⟩)
  ·have hlt':¬(n:Int)<(s.size:Int):=by omega
   have hx:=HX2.out
   rw[if_neg hlt]at hx
   subst hx
   clear HX2 hlt
   go_upto_region 6 with fail
   go_wp2_with (first|(refine wpList_load_row rfl 30 _ rfl w.heap.size rfl U 30 _ HLU.out Tryz.underlying30 rfl (by rw[HUZ.out];exact infoBx) ?_)|(refine wpList_store_row rfl 30 _ _ rfl w.heap.size rfl U U rfl 30 HLU.out (by rw[HUZ.out];exact infoBx) rfl HUO.out rfl ?_)|(refine wpList_store_row rfl 35 _ _ rfl (w.heap.size+1) rfl #[.int .i64 0,.int .i64 0] #[.int .i64 0,.int .i64 0] rfl 35 (HLS.out.row_other (by omega) _) infoSp rfl (by simp[Value.oneCell']) rfl ?_))
   refine leaves_cons (f:=29) (args:=#[.pointer (some ⟨w.heap.size+2,0,none⟩),.pointer (some ⟨w.heap.size,0,none⟩),.pointer (some ⟨w.heap.size+1,0,none⟩)]) (by simp) (by simp[go_sem]) ?_
   refine(pbx_idle _ _ _ _).mono ?_
   rintro e u' w7 ⟨rfl,rfl,rfl⟩
   refine⟨_,results_cc9 (p:=4) (r:=5) (by kernel_rfl) _ _ w.heap.size (w.heap.size+1) U #[.int .i64 0,.int .i64 0] _ _ rfl rfl ((HLU.out.row U).row_other (by omega) _) ((HLS.out.row_other (by omega) U).row _) Tryz.underlying30 rfl (by rw[HUZ.out];exact infoBx) Tryz.underlying35 rfl infoSp,by rw[HUU.out];rfl,?_⟩
   exact below_row (below_row HKB.out (Nat.le_refl _) U) (by omega) _
end Go.Proofs.YtfjpkfhbmldmfabGreatDoor
