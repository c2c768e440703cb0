/-
  The program's Box.
-/
import Derived.Test.YtfjpkfhbmldmfaaGreatDoorXt9
import Derived.Test.YtfjpkfhbmldmfaaGreatDoorRcP
import Derived.Test.YtfjpkfhbmldmfaaGreatDoorXr9
import Derived.Test.YtfjpkfhbmldmfaaGreatDoorRows
import Derived.Test.YtfjpkfhbmldmfaaGreatDoorCards
import Derived.Test.YtfjpkfhbmldmfaaGreatDoorTie
import Derived.ProofKit
import Derived.OpenShut
import Derived.Lib.LaidTab
import Derived.LaidLaws
import Derived.Deep.DeepHandedRow
import Derived.ShutString
import Derived.SizedLaws
import Derived.ChangeOld
import Derived.Shelf.Vars
namespace Go.Proofs.YtfjpkfhbmldmfaaGreatDoor
open Go.RowKit
def boxV (x:Except (Nat×Nat) (List UInt8×Ho)):Value:=match x with
 | .error (e,p)=>.tuple #[.agg #[.string ⟨#[]⟩,.int .i64 0,.string ⟨#[]⟩,.int .u8 0,.int .u8 0,.int .u8 0,.int .u8 0,.int .u8 0,.int .u8 0,.int .u8 0,.int .u8 0,.int .u8 0,.int .u8 0,.int .u8 0,.int .u8 0,.int .u8 0,.int .u8 0,.int .u8 0,.int .u8 0],.agg #[.int .i64 (e:Nat),.int .i64 (p:Nat)]]
 | .ok (l,h)=>.tuple #[.agg (boxC l h),.agg #[.int .i64 0,.int .i64 0]]
theorem results_cc9 {P:Program} {fn:Func} {p r:Tmp} {ty tz:TypeId} (h:fn.results=#[.cell p ty,.cell r tz]) (tmps:Array Value) (w:World) (g1 g3:Nat) (cs ds:Array Value) (d1 d2:TypeDesc)
  (hp:tmps.getD p undef=.pointer (some ⟨g1,0,none⟩)) (hr:tmps.getD r undef=.pointer (some ⟨g3,0,none⟩)) (hg1:Lies w g1 cs ty) (hg3:Lies w g3 ds tz)
  (hu1:P.underlying ty=some d1) (ha1:(match d1 with| .struct _| .array _ _=>true|_=>false)=true) (hz1:(P.info? ty).map (·.size)=some cs.size)
  (hu2:P.underlying tz=some d2) (ha2:(match d2 with| .struct _| .array _ _=>true|_=>false)=true) (hz2:(P.info? tz).map (·.size)=some ds.size):(results fn tmps).run P w=.ok (.tuple #[.agg cs,.agg ds]) w:=by
 have hp':tmps[p]?.getD undef=.pointer (some ⟨g1,0,none⟩):=by simpa using hp
 have hr':tmps[r]?.getD undef=.pointer (some ⟨g3,0,none⟩):=by simpa using hr
 simp[results,h,hp',hr',asAddr,run_loadVar_row w g1 ty ty cs (0,0) d1 hg1 hu1 ha1 hz1,run_loadVar_row w g3 tz tz ds (0,0) d2 hg3 hu2 ha2 hz2]
theorem pbx_idle (b g4 g6:Nat) (w:World):CallsD Tryz.prog 40 #[.pointer (some ⟨b,0,none⟩),.pointer (some ⟨g4,0,none⟩),.pointer (some ⟨g6,0,none⟩)] .returning w fun e u' w'=>e=.returned (.tuple #[])∧u'=.returning∧w'=w:=by
 refine callsD_of_wpS Tryz.func40 rfl fun c₀ cs hu=>?_
 apply wpS_seq
 apply wpS_region
 simp[wpOpsS,go_sem,recoverD,hu,Tryz.ntmps40,Exit.thenS]
 refine wpS_cond (t:=false) (by simp[Act.eval,Array.replicate]) ?_
 simp only[Bool.false_eq_true,if_false]
 refine wpS_of_wp (wp_skip ?_)
 cases c₀
 simp_all[bodyPostS,results,Tryz.results40]
set_option maxHeartbeats 4000000 in
set_option maxRecDepth 100000 in
theorem pbx_catch (b g4 g6:Nat) (pv:Value) (er p:Nat) (P:Array Value) (y z:Int) (w:World) (h3:w.cell? ⟨b,3,none⟩=some (.int .i64 (er:Int))) (h4:w.cell? ⟨b,4,none⟩=some (.int .i64 (p:Int))) (L4:Lies w g4 P 27) (hP:P.size=19) (L6:Lies w g6 #[.int .i64 y,.int .i64 z] 32) (n46:g4≠g6):
  CallsD Tryz.prog 40 #[.pointer (some ⟨b,0,none⟩),.pointer (some ⟨g4,0,none⟩),.pointer (some ⟨g6,0,none⟩)] (.panicking [{v:=.iface 30 pv,recovered:=false}]) w fun e u' w'=>
   e=.returned (.tuple #[])∧u'=.panicking [{v:=.iface 30 pv,recovered:=true}]∧w'=(w.setRow g4 #[.string ⟨#[]⟩,.int .i64 0,.string ⟨#[]⟩,.int .u8 0,.int .u8 0,.int .u8 0,.int .u8 0,.int .u8 0,.int .u8 0,.int .u8 0,.int .u8 0,.int .u8 0,.int .u8 0,.int .u8 0,.int .u8 0,.int .u8 0,.int .u8 0,.int .u8 0,.int .u8 0]).setRow g6 #[.int .i64 (er:Int),.int .i64 (p:Int)]:=by
 refine callsD_of_wpS Tryz.func40 rfl fun c₀ cs hu=>?_
 apply wpS_seq
 apply wpS_region
 simp[wpOpsS,go_sem,recoverD,hu,Tryz.ntmps40,Exit.thenS]
 refine wpS_cond (t:=true) (by simp[Act.eval,Array.replicate]) ?_
 simp only[if_true]
 refine wpS_of_wp ?_
 have HL4:Hid (Lies w g4 P 27):=L4
 have HPZ:Hid (P.size=19):=hP
 have HL6:Hid (Lies (w.setRow g4 #[.string ⟨#[]⟩,.int .i64 0,.string ⟨#[]⟩,.int .u8 0,.int .u8 0,.int .u8 0,.int .u8 0,.int .u8 0,.int .u8 0,.int .u8 0,.int .u8 0,.int .u8 0,.int .u8 0,.int .u8 0,.int .u8 0,.int .u8 0,.int .u8 0,.int .u8 0,.int .u8 0]) g6 #[.int .i64 y,.int .i64 z] 32):=L6.row_other (Ne.symm n46) _
 have HRG:Hid (w.rangeAt b 3 [.int .i64 (er:Int),.int .i64 (p:Int)]):=fun j v hv=>by
  match j,hv with
  |0,hv=>injection hv with hv;rw[←hv];exact h3
  |1,hv=>injection hv with hv;rw[←hv];exact h4
 clear L4 L6 hP
 go_wp2_with (first|(refine wpList_load_mid rfl 32 _ rfl b 3 rfl [.int .i64 (er:Int),.int .i64 (p:Int)] _ HRG.out Tryz.underlying32 rfl infoSp ?_)|(refine wpList_store_row rfl 27 _ _ rfl g4 rfl P #[.string ⟨#[]⟩,.int .i64 0,.string ⟨#[]⟩,.int .u8 0,.int .u8 0,.int .u8 0,.int .u8 0,.int .u8 0,.int .u8 0,.int .u8 0,.int .u8 0,.int .u8 0,.int .u8 0,.int .u8 0,.int .u8 0,.int .u8 0,.int .u8 0,.int .u8 0,.int .u8 0] rfl 27 HL4.out infoBx (by rw[HPZ.out];rfl) (by simp[Value.oneCell']) rfl ?_)|(refine wpList_store_row rfl 32 _ _ rfl g6 rfl #[.int .i64 y,.int .i64 z] #[.int .i64 (er:Int),.int .i64 (p:Int)] rfl 32 HL6.out infoSp rfl (by simp[Value.oneCell']) rfl ?_))
 simp[bodyPostS,results,Tryz.results40]
theorem pbx_out (s:ByteArray) (wide:Bool) (er p:Nat) (P:Array Value) (hP:P.size=19) (a':Nat) (w w5:World) (tmps:Array Value) (hp:tmps.getD 4 undef=.pointer (some ⟨w.heap.size,0,none⟩)) (hq:tmps.getD 5 undef=.pointer (some ⟨w.heap.size+1,0,none⟩)) (l4:Lies w5 w.heap.size P 27) (l6:Lies w5 (w.heap.size+1) #[.int .i64 0,.int .i64 0] 32) (q2:RdAt w5 (w.heap.size+2) s a' wide er p) (kb:Below w.heap.size w w5) (pv:Value) (cap:Array Value) (hcap:cap=#[.pointer (some ⟨w.heap.size+2,0,none⟩),.pointer (some ⟨w.heap.size,0,none⟩),.pointer (some ⟨w.heap.size+1,0,none⟩)]) (R:Ending→World→Prop)
  (hR:∀w',Below w.heap.size w w'→R (.returned (boxV (.error (er,p)))) w'):
  Leaves Tryz.prog Tryz.f18 tmps R [{target:=Target.fn (Fn.func 40) cap,args:=#[]}] (.panicking [{v:=.iface 30 pv,recovered:=false}]) w5:=by
 subst hcap
 obtain⟨_,_,_,c3,c4⟩:=q2.cells
 refine leaves_cons (f:=40) (args:=#[.pointer (some ⟨w.heap.size+2,0,none⟩),.pointer (some ⟨w.heap.size,0,none⟩),.pointer (some ⟨w.heap.size+1,0,none⟩)]) (by simp) (by simp[go_sem]) ?_
 refine(pbx_catch (w.heap.size+2) w.heap.size (w.heap.size+1) _ er p P 0 0 w5 c3 c4 l4 hP l6 (by omega)).mono ?_
 rintro e u' w6 ⟨rfl,rfl,rfl⟩
 refine⟨_,results_cc9 (p:=4) (r:=5) (by kernel_rfl) _ _ w.heap.size (w.heap.size+1) #[.string ⟨#[]⟩,.int .i64 0,.string ⟨#[]⟩,.int .u8 0,.int .u8 0,.int .u8 0,.int .u8 0,.int .u8 0,.int .u8 0,.int .u8 0,.int .u8 0,.int .u8 0,.int .u8 0,.int .u8 0,.int .u8 0,.int .u8 0,.int .u8 0,.int .u8 0,.int .u8 0] #[.int .i64 (er:Int),.int .i64 (p:Int)] _ _ hp hq ((l4.row _).row_other (by omega) _) ((l6.row_other (by omega) _).row _) Tryz.underlying27 rfl infoBx Tryz.underlying32 rfl infoSp,hR _ (below_row (below_row kb (Nat.le_refl _) _) (by omega) _)⟩
set_option maxHeartbeats 16000000 in
set_option maxRecDepth 100000 in
theorem pbx_any (s:ByteArray) (hs:s.size≤140737488351232) (wide:Bool) (w:World) (hT:Td w) (h10:10≤w.heap.size):
  Calls Tryz.prog 18 #[.string s,.bool wide] w fun e w'=>e=.returned (boxV (box wide s.data.toList))∧Below w.heap.size w w':=by
 have hmf:∀(fn:Fn) (first cap:Array Value) (w:World),(Instr.makeFunc fn first cap).run Tryz.prog w=.ok (.func fn first cap) w:=fun _ _ _ _=>rfl
 have K2:Below w.heap.size w ((w.alloc (.cells #[.string ⟨#[]⟩,.int .i64 0,.string ⟨#[]⟩,.int .u8 0,.int .u8 0,.int .u8 0,.int .u8 0,.int .u8 0,.int .u8 0,.int .u8 0,.int .u8 0,.int .u8 0,.int .u8 0,.int .u8 0,.int .u8 0,.int .u8 0,.int .u8 0,.int .u8 0,.int .u8 0] 27)).alloc (.cells #[.int .i64 0,.int .i64 0] 32)):=((Below.refl _ w).alloc (Nat.le_refl _) _).alloc (by simp) _
 have z2:((w.alloc (.cells #[.string ⟨#[]⟩,.int .i64 0,.string ⟨#[]⟩,.int .u8 0,.int .u8 0,.int .u8 0,.int .u8 0,.int .u8 0,.int .u8 0,.int .u8 0,.int .u8 0,.int .u8 0,.int .u8 0,.int .u8 0,.int .u8 0,.int .u8 0,.int .u8 0,.int .u8 0,.int .u8 0] 27)).alloc (.cells #[.int .i64 0,.int .i64 0] 32)).heap.size=w.heap.size+2:=by simp
 have HLR0:Hid (Lies (((w.alloc (.cells #[.string ⟨#[]⟩,.int .i64 0,.string ⟨#[]⟩,.int .u8 0,.int .u8 0,.int .u8 0,.int .u8 0,.int .u8 0,.int .u8 0,.int .u8 0,.int .u8 0,.int .u8 0,.int .u8 0,.int .u8 0,.int .u8 0,.int .u8 0,.int .u8 0,.int .u8 0,.int .u8 0] 27)).alloc (.cells #[.int .i64 0,.int .i64 0] 32)).alloc (.cells #[.string ⟨#[]⟩,.int .i64 0,.bool false,.int .i64 0,.int .i64 0] 59)) (w.heap.size+2) #[.string ⟨#[]⟩,.int .i64 0,.bool false,.int .i64 0,.int .i64 0] 59):=by
  have:=Lies.new ((w.alloc (.cells #[.string ⟨#[]⟩,.int .i64 0,.string ⟨#[]⟩,.int .u8 0,.int .u8 0,.int .u8 0,.int .u8 0,.int .u8 0,.int .u8 0,.int .u8 0,.int .u8 0,.int .u8 0,.int .u8 0,.int .u8 0,.int .u8 0,.int .u8 0,.int .u8 0,.int .u8 0,.int .u8 0] 27)).alloc (.cells #[.int .i64 0,.int .i64 0] 32)) #[.string ⟨#[]⟩,.int .i64 0,.bool false,.int .i64 0,.int .i64 0] 59
  rw[z2]at this
  exact this
 have K3:Below w.heap.size w ((((w.alloc (.cells #[.string ⟨#[]⟩,.int .i64 0,.string ⟨#[]⟩,.int .u8 0,.int .u8 0,.int .u8 0,.int .u8 0,.int .u8 0,.int .u8 0,.int .u8 0,.int .u8 0,.int .u8 0,.int .u8 0,.int .u8 0,.int .u8 0,.int .u8 0,.int .u8 0,.int .u8 0,.int .u8 0] 27)).alloc (.cells #[.int .i64 0,.int .i64 0] 32)).alloc (.cells #[.string ⟨#[]⟩,.int .i64 0,.bool false,.int .i64 0,.int .i64 0] 59)).setRow (w.heap.size+2) #[.string s,.int .i64 0,.bool wide,.int .i64 0,.int .i64 0]):=below_row (K2.alloc (by rw[z2];omega) _) (by omega) _
 have HW:Hid (Below w.heap.size w ((((w.alloc (.cells #[.string ⟨#[]⟩,.int .i64 0,.string ⟨#[]⟩,.int .u8 0,.int .u8 0,.int .u8 0,.int .u8 0,.int .u8 0,.int .u8 0,.int .u8 0,.int .u8 0,.int .u8 0,.int .u8 0,.int .u8 0,.int .u8 0,.int .u8 0,.int .u8 0,.int .u8 0,.int .u8 0] 27)).alloc (.cells #[.int .i64 0,.int .i64 0] 32)).alloc (.cells #[.string ⟨#[]⟩,.int .i64 0,.bool false,.int .i64 0,.int .i64 0] 59)).setRow (w.heap.size+2) #[.string s,.int .i64 0,.bool wide,.int .i64 0,.int .i64 0])):=K3
 have HL4:Hid (Lies ((((w.alloc (.cells #[.string ⟨#[]⟩,.int .i64 0,.string ⟨#[]⟩,.int .u8 0,.int .u8 0,.int .u8 0,.int .u8 0,.int .u8 0,.int .u8 0,.int .u8 0,.int .u8 0,.int .u8 0,.int .u8 0,.int .u8 0,.int .u8 0,.int .u8 0,.int .u8 0,.int .u8 0,.int .u8 0] 27)).alloc (.cells #[.int .i64 0,.int .i64 0] 32)).alloc (.cells #[.string ⟨#[]⟩,.int .i64 0,.bool false,.int .i64 0,.int .i64 0] 59)).setRow (w.heap.size+2) #[.string s,.int .i64 0,.bool wide,.int .i64 0,.int .i64 0]) w.heap.size #[.string ⟨#[]⟩,.int .i64 0,.string ⟨#[]⟩,.int .u8 0,.int .u8 0,.int .u8 0,.int .u8 0,.int .u8 0,.int .u8 0,.int .u8 0,.int .u8 0,.int .u8 0,.int .u8 0,.int .u8 0,.int .u8 0,.int .u8 0,.int .u8 0,.int .u8 0,.int .u8 0] 27):=(((Lies.new w _ _).alloc _).alloc _).row_other (by omega) _
 have HL5:Hid (Lies ((((w.alloc (.cells #[.string ⟨#[]⟩,.int .i64 0,.string ⟨#[]⟩,.int .u8 0,.int .u8 0,.int .u8 0,.int .u8 0,.int .u8 0,.int .u8 0,.int .u8 0,.int .u8 0,.int .u8 0,.int .u8 0,.int .u8 0,.int .u8 0,.int .u8 0,.int .u8 0,.int .u8 0,.int .u8 0] 27)).alloc (.cells #[.int .i64 0,.int .i64 0] 32)).alloc (.cells #[.string ⟨#[]⟩,.int .i64 0,.bool false,.int .i64 0,.int .i64 0] 59)).setRow (w.heap.size+2) #[.string s,.int .i64 0,.bool wide,.int .i64 0,.int .i64 0]) (w.heap.size+1) #[.int .i64 0,.int .i64 0] 32):=(Lies.alloc (new_one w _ _ _) _).row_other (by omega) _
 have HR:Hid (RdAt ((((w.alloc (.cells #[.string ⟨#[]⟩,.int .i64 0,.string ⟨#[]⟩,.int .u8 0,.int .u8 0,.int .u8 0,.int .u8 0,.int .u8 0,.int .u8 0,.int .u8 0,.int .u8 0,.int .u8 0,.int .u8 0,.int .u8 0,.int .u8 0,.int .u8 0,.int .u8 0,.int .u8 0,.int .u8 0] 27)).alloc (.cells #[.int .i64 0,.int .i64 0] 32)).alloc (.cells #[.string ⟨#[]⟩,.int .i64 0,.bool false,.int .i64 0,.int .i64 0] 59)).setRow (w.heap.size+2) #[.string s,.int .i64 0,.bool wide,.int .i64 0,.int .i64 0]) (w.heap.size+2) s 0 wide 0 0):=⟨HLR0.out.row _⟩
 have HTd:Hid (Td ((((w.alloc (.cells #[.string ⟨#[]⟩,.int .i64 0,.string ⟨#[]⟩,.int .u8 0,.int .u8 0,.int .u8 0,.int .u8 0,.int .u8 0,.int .u8 0,.int .u8 0,.int .u8 0,.int .u8 0,.int .u8 0,.int .u8 0,.int .u8 0,.int .u8 0,.int .u8 0,.int .u8 0,.int .u8 0] 27)).alloc (.cells #[.int .i64 0,.int .i64 0] 32)).alloc (.cells #[.string ⟨#[]⟩,.int .i64 0,.bool false,.int .i64 0,.int .i64 0] 59)).setRow (w.heap.size+2) #[.string s,.int .i64 0,.bool wide,.int .i64 0,.int .i64 0])):=hT.below K3
 clear K2 K3 hT
 obtain⟨X,hX⟩:∃X,X=box wide s.data.toList:=⟨_,rfl⟩
 rw[←hX]
 have HX:Hid (X=match shE 0 (bx wide (s.data.toList.drop 0)) with
  | .error e=>.error e
  | .ok (m,n)=>if n<s.size then .error (93,n) else .ok m):=by
  show X=_
  rw[hX,List.drop_zero]
  unfold box
  rw[len_list]
  cases bx wide s.data.toList with
  |error y=>simp[shE]
  |ok y=>simp[shE]
 clear hX
 go_enter_defers Tryz.func18,Tryz.ntmps18
 go_upto_region 2 with(refine wpList_store_row rfl 59 _ _ rfl (w.heap.size+2) rfl #[.string ⟨#[]⟩,.int .i64 0,.bool false,.int .i64 0,.int .i64 0] #[.string s,.int .i64 0,.bool wide,.int .i64 0,.int .i64 0] rfl 59 HLR0.out infoRd rfl (by simp[Value.oneCell']) rfl ?_)
 generalize (((w.alloc (.cells #[.string ⟨#[]⟩,.int .i64 0,.string ⟨#[]⟩,.int .u8 0,.int .u8 0,.int .u8 0,.int .u8 0,.int .u8 0,.int .u8 0,.int .u8 0,.int .u8 0,.int .u8 0,.int .u8 0,.int .u8 0,.int .u8 0,.int .u8 0,.int .u8 0,.int .u8 0,.int .u8 0] 27)).alloc (.cells #[.int .i64 0,.int .i64 0] 32)).alloc (.cells #[.string ⟨#[]⟩,.int .i64 0,.bool false,.int .i64 0,.int .i64 0] 59)).setRow (w.heap.size+2) #[.string s,.int .i64 0,.bool wide,.int .i64 0,.int .i64 0]=W at HW HL4 HL5 HR HTd ⊢
 clear HLR0 z2
 have HBX:Hid (Calls Tryz.prog 41 #[.pointer (some ⟨w.heap.size+2,0,none⟩)] W (Come (w.heap.size+2) s wide W (bxW (shE 0 (bx wide (s.data.toList.drop 0)))))):=box_any (w.heap.size+2) (by omega) s 0 (Nat.zero_le _) hs wide W HTd.out.tb HR.out
 cases hz:shE 0 (bx wide (s.data.toList.drop 0)) with
 |error z=>
  obtain⟨er,p⟩:=z
  rw[hz]at HBX
  have hx:=HX.out
  rw[hz]at hx
  subst hx
  clear HX hz
  go_wp2_with fail
  refine HBX.out.mono ?_
  rintro e w5 ⟨q1,rfl,a',q2⟩
  exact pbx_out s wide er p #[.string ⟨#[]⟩,.int .i64 0,.string ⟨#[]⟩,.int .u8 0,.int .u8 0,.int .u8 0,.int .u8 0,.int .u8 0,.int .u8 0,.int .u8 0,.int .u8 0,.int .u8 0,.int .u8 0,.int .u8 0,.int .u8 0,.int .u8 0,.int .u8 0,.int .u8 0,.int .u8 0] rfl a' w w5 _ rfl rfl (q1.lies HL4.out (by omega)) (q1.lies HL5.out (by omega)) q2 (HW.out.trans (q1.below (by omega) HW.out.size)) _ _ rfl _ (fun w' hb=>⟨rfl,hb⟩)
 |ok z=>
  obtain⟨⟨l,ho⟩,n⟩:=z
  obtain⟨hns,_,hok,_⟩:=bx_ok hz (Nat.zero_le _)
  rw[hz]at HBX
  have hx:=HX.out
  rw[hz]at hx
  have HX2:Hid (X=if n<s.size then .error (93,n) else .ok (l,ho)):=hx
  have hal:=hok.len
  obtain⟨U,hU⟩:∃U,U=boxC l ho:=⟨_,rfl⟩
  have HUZ:Hid (U.size=19):=by show _=_;rw[hU];exact boxC_size l ho hal
  have HUO:Hid (U.all (·.oneCell')=true):=by show _=_;rw[hU];exact boxC_one l ho
  have HBX2:Hid (Calls Tryz.prog 41 #[.pointer (some ⟨w.heap.size+2,0,none⟩)] W fun e w'=>e=.returned (.agg U)∧But (w.heap.size+2) W w'∧RdAt w' (w.heap.size+2) s n wide 0 0):=HBX.out.mono (fun e w' q=>by
   obtain⟨q1,q2,q3⟩:=q
   rw[hU]
   exact⟨q2,q1,q3⟩)
  have HUU:Hid (U=boxC l ho):=hU
  clear hx HX hz HBX hU hok hal
  go_wp2_with fail
  refine HBX2.out.mono ?_
  rintro e w5 ⟨rfl,q1,q2⟩
  have H4:Hid (Lies w5 w.heap.size #[.string ⟨#[]⟩,.int .i64 0,.string ⟨#[]⟩,.int .u8 0,.int .u8 0,.int .u8 0,.int .u8 0,.int .u8 0,.int .u8 0,.int .u8 0,.int .u8 0,.int .u8 0,.int .u8 0,.int .u8 0,.int .u8 0,.int .u8 0,.int .u8 0,.int .u8 0,.int .u8 0] 27):=q1.lies HL4.out (by omega)
  have HLU:Hid (Lies (w5.setRow w.heap.size U) w.heap.size U 27):=H4.out.row U
  have HLS:Hid (Lies (w5.setRow w.heap.size U) (w.heap.size+1) #[.int .i64 0,.int .i64 0] 32):=(q1.lies HL5.out (by omega)).row_other (by omega) U
  have HRU:Hid (RdAt (w5.setRow w.heap.size U) (w.heap.size+2) s n wide 0 0):=⟨q2.lies.row_other (by omega) U⟩
  have HKB:Hid (Below w.heap.size w (w5.setRow w.heap.size U)):=below_row (HW.out.trans (q1.below (by omega) HW.out.size)) (Nat.le_refl _) U
  clear q1 q2 HBX2 HL4 HL5 HR HTd HW
  go_upto_region 4 with(refine wpList_store_row rfl 27 _ _ rfl w.heap.size rfl #[.string ⟨#[]⟩,.int .i64 0,.string ⟨#[]⟩,.int .u8 0,.int .u8 0,.int .u8 0,.int .u8 0,.int .u8 0,.int .u8 0,.int .u8 0,.int .u8 0,.int .u8 0,.int .u8 0,.int .u8 0,.int .u8 0,.int .u8 0,.int .u8 0,.int .u8 0,.int .u8 0] U rfl 27 H4.out (by rw[HUZ.out];exact infoBx) (by rw[HUZ.out];rfl) HUO.out rfl ?_)
  generalize w5.setRow w.heap.size U=w6 at HLU HLS HRU HKB ⊢
  clear H4
  obtain⟨_,c1,_,_,_⟩:=HRU.out.cells
  by_cases hlt:n<s.size
  ·have hlt':(n:Int)<(s.size:Int):=by omega
   have hx:=HX2.out
   rw[if_pos hlt]at hx
   subst hx
   have HF:Hid (Calls Tryz.prog 42 #[.pointer (some ⟨w.heap.size+2,0,none⟩),.int .i64 93,.int .i64 (n:Nat)] w6 fun e w'=>e=gaveUp 93∧RdAt w' (w.heap.size+2) s n wide 93 n∧But (w.heap.size+2) w6 w'):=fail_any (w.heap.size+2) s n wide 93 n w6 HRU.out
   clear HX2 hlt
   go_wp2_with fail
   refine HF.out.mono ?_
   rintro e w7 ⟨rfl,q1,q2⟩
   exact pbx_out s wide 93 n U HUZ.out n w w7 _ rfl rfl (q2.lies HLU.out (by omega)) (q2.lies HLS.out (by omega)) q1 (HKB.out.trans (q2.below (by omega) HKB.out.size)) _ _ rfl _ (fun w' hb=>⟨rfl,hb⟩)
  ·have hlt':¬(n:Int)<(s.size:Int):=by omega
   have hx:=HX2.out
   rw[if_neg hlt]at hx
   subst hx
   clear HX2 hlt
   go_upto_region 6 with fail
   go_wp2_with (first|(refine wpList_load_row rfl 27 _ rfl w.heap.size rfl U 27 _ HLU.out Tryz.underlying27 rfl (by rw[HUZ.out];exact infoBx) ?_)|(refine wpList_store_row rfl 27 _ _ rfl w.heap.size rfl U U rfl 27 HLU.out (by rw[HUZ.out];exact infoBx) rfl HUO.out rfl ?_)|(refine wpList_store_row rfl 32 _ _ rfl (w.heap.size+1) rfl #[.int .i64 0,.int .i64 0] #[.int .i64 0,.int .i64 0] rfl 32 (HLS.out.row_other (by omega) _) infoSp rfl (by simp[Value.oneCell']) rfl ?_))
   refine leaves_cons (f:=40) (args:=#[.pointer (some ⟨w.heap.size+2,0,none⟩),.pointer (some ⟨w.heap.size,0,none⟩),.pointer (some ⟨w.heap.size+1,0,none⟩)]) (by simp) (by simp[go_sem]) ?_
   refine(pbx_idle _ _ _ _).mono ?_
   rintro e u' w7 ⟨rfl,rfl,rfl⟩
   refine⟨_,results_cc9 (p:=4) (r:=5) (by kernel_rfl) _ _ w.heap.size (w.heap.size+1) U #[.int .i64 0,.int .i64 0] _ _ rfl rfl ((HLU.out.row U).row_other (by omega) _) ((HLS.out.row_other (by omega) U).row _) Tryz.underlying27 rfl (by rw[HUZ.out];exact infoBx) Tryz.underlying32 rfl infoSp,by rw[HUU.out];rfl,?_⟩
   exact below_row (below_row HKB.out (Nat.le_refl _) U) (by omega) _
open Go.RowKit
theorem infoHE:∃i,Tryz.prog.info? 25=some i∧i.size=18:=by
 have h5:(Tryz.prog.info? 25).map (·.size)=some 18:=by kernel_rfl
 cases hq:Tryz.prog.info? 25 with
 |none=>simp[hq]at h5
 |some i=>exact⟨i,rfl,by simpa [hq] using h5⟩
theorem part_loc (l:List UInt8) (h:Ho) (w:World):(part 9 (boxC l h) 0).run Tryz.prog w=.ok (.string (txt l)) w:=by
 simp[part,isAgg,run_underlying Tryz.underlying9,boxC_0]
theorem part_hst (l:List UInt8) (h:Ho) (ha:h.a.length=16) (w:World):(part 25 (boxC l h) 1).run Tryz.prog w=.ok (hostV h) w:=by
 obtain⟨i,hi,hs⟩:=infoHE
 have hz:=hostC_size h ha
 have e:(boxC l h).extract 1 19=hostC h:=by
  apply Array.ext'
  unfold boxC
  rw[Array.toList_extract]
  simp
  rw[List.take_of_length_le (by simp[hz])]
 have hz':(boxC l h).size=19:=by unfold boxC;rw[Array.size_append,hz];rfl
 simp[part,isAgg,run_underlying Tryz.underlying25,sizeOf,typeInfo,hi,hs,e,hz',hostV]
set_option maxRecDepth 100000 in
theorem eqBox (d:Nat) (l m:List UInt8) (x y:Ho) (hx:x.a.length=16) (hy:y.a.length=16) (w:World):(Op.equalIn (d+4) 27 (.agg (boxC l x)) (.agg (boxC m y))).run Tryz.prog w=.ok (decide (l=m)&&decide (x=y)) w:=by
 have hf:Tryz.prog.underlying 27=some (.struct (Tryz.prog.fieldsOf 27)):=by simp[Program.fieldsOf,Tryz.underlying27]
 rw[run_equalIn_struct w (d+3) 27 _ _ hf (by kernel_rfl)]
 simp only[Program.fieldsOf,Tryz.underlying27]
 simp only[Op.eqFields,Sem.run_bind,Sem.run_ite,part_loc,part_hst l x hx,part_hst m y hy,Result.andThen_ok,run_equalIn_string (P:=Tryz.prog) w (d+2) 9 _ _ Tryz.underlying9,eqHost d x y hx hy,txt,list_beq]
 by_cases h1:l=m<;>by_cases h2:x=y<;>simp[h1,h2]
theorem exec_eql_box {op:Oper} {a:Act} {w:World} (p q:Operand) (r:TypeId) (ho:op.op=.binOp .eql 27 p q r) (l m:List UInt8) (x y:Ho) (hp:a.eval p=.agg (boxC l x)) (hq:a.eval q=.agg (boxC m y)) (hx:x.a.length=16) (hy:y.a.length=16):(execOp a.eval op).run Tryz.prog w=.ok (.value (.bool (decide (l=m)&&decide (x=y)))) w:=by
 have hgu:Tryz.prog.eqGuardType Tryz.prog.depth 27=false:=by kernel_rfl
 have h:=eqBox 9996 l m x y hx hy w
 have hg:=run_eqGuard_agg (P:=Tryz.prog) w .eql 27 p q (boxC l x) (boxC m y) hgu
 unfold execOp
 simp only[ho,hp,hq,Sem.run_bind,hg,Result.andThen_ok,run_eql_struct,h,Sem.run_pure]
theorem pthC_one9 (k:Int) (sl:Value) (l:List UInt8) (h:Ho) (hs:sl.oneCell'=true):(pthC k sl l h).all (·.oneCell')=true:=by
 rw[pth_box,Array.all_append,boxC_one]
 simp[Value.oneCell']
 exact hs
theorem pthC_024 (k:Int) (sl:Value) (l:List UInt8) (h:Ho):(pthC k sl l h)[0]?=some (.int .i64 k)∧(pthC k sl l h)[1]?=some sl∧(pthC k sl l h)[2]?=some (.string (txt l))∧(pthC k sl l h)[3]?=some (.int .i64 h.k)∧(pthC k sl l h)[4]?=some (.string (txt h.n)):=by
 unfold pthC hostC txt
 simp
def annH:Ho:=⟨1,[97,46,101,120,97,109,112,108,101],z16⟩
theorem head_pth:pth false true [60,97,110,110,64,97,46,101,120,97,109,112,108,101,62,32,83,73,90,69,61,51]=.ok (⟨3,[],[97,110,110],annH⟩,15):=by kernel_rfl
set_option maxHeartbeats 4000000 in
set_option maxRecDepth 100000 in
theorem head_any (w:World) (hT:Td w) (h10:10≤w.heap.size):Calls Tryz.prog 11 #[] w fun e w'=>e=.returned (.bool true)∧Below w.heap.size w w':=by
 have HR:Hid (∀wx,Below w.heap.size w wx→Calls Tryz.prog 14 #[.string ⟨#[60,97,110,110,64,97,46,101,120,97,109,112,108,101,62,32,83,73,90,69,61,51]⟩,.bool false] wx fun e w'=>∃sl,sl.oneCell'=true∧e=.returned (.tuple #[.agg (pthC 3 sl [97,110,110] annH),.int .i64 15,.agg #[.int .i64 0,.int .i64 0]])∧Below wx.heap.size wx w'):=fun wx hx=>by
  refine Calls.mono (rev_any ⟨#[60,97,110,110,64,97,46,101,120,97,109,112,108,101,62,32,83,73,90,69,61,51]⟩ (by decide) false wx (hT.below hx) (Nat.le_trans h10 hx.size)) ?_
  rintro e w' ⟨v,rfl,hv,hb⟩
  have e1:pth false true (⟨#[60,97,110,110,64,97,46,101,120,97,109,112,108,101,62,32,83,73,90,69,61,51]⟩:ByteArray).data.toList=.ok (⟨3,[],[97,110,110],annH⟩,15):=head_pth
  rw[e1]at hv
  obtain⟨sl,rfl,ho⟩:=hv
  obtain⟨sa,sc,hsl⟩:=ownH_len ho
  exact⟨sl,by rw[hsl];rfl,rfl,hb⟩
 go_enter Tryz.func11,Tryz.ntmps11
 go_upto_region 1 with fail
 go_wp2_with fail
 refine Calls.mono (HR.out _ (Below.refl _ _)) ?_
 rintro e y ⟨sl,hs1,rfl,hc⟩
 obtain⟨VP,hVP⟩:∃VP,VP=pthC 3 sl [97,110,110] annH:=⟨_,rfl⟩
 rw[←hVP]
 have zp:Hid (VP.size=21):=by rw[hVP];exact pthC_size _ _ _ _ rfl
 have op:Hid (VP.all (·.oneCell')=true):=by rw[hVP];exact pthC_one9 _ _ _ _ hs1
 have p0:Hid (VP[0]?=some (.int .i64 3)):=by rw[hVP];exact(pthC_024 _ _ _ _).1
 have p2:Hid (VP[2]?=some (.string ⟨#[97,110,110]⟩)):=by rw[hVP];exact(pthC_024 _ _ _ _).2.2.1
 have p4:Hid (VP[4]?=some (.string ⟨#[97,46,101,120,97,109,112,108,101]⟩)):=by rw[hVP];exact(pthC_024 _ _ _ _).2.2.2.2
 clear hVP hs1
 have KB:Hid (Below w.heap.size w y):=hc
 clear hc HR hT h10
 have A:Hid (Lies ((y.alloc (.cells #[.int .i64 0,.slice none 0 0,.string ⟨#[]⟩,.int .i64 0,.string ⟨#[]⟩,.int .u8 0,.int .u8 0,.int .u8 0,.int .u8 0,.int .u8 0,.int .u8 0,.int .u8 0,.int .u8 0,.int .u8 0,.int .u8 0,.int .u8 0,.int .u8 0,.int .u8 0,.int .u8 0,.int .u8 0,.int .u8 0] 29)).alloc (.cells #[.int .i64 0,.int .i64 0] 32)) y.heap.size #[.int .i64 0,.slice none 0 0,.string ⟨#[]⟩,.int .i64 0,.string ⟨#[]⟩,.int .u8 0,.int .u8 0,.int .u8 0,.int .u8 0,.int .u8 0,.int .u8 0,.int .u8 0,.int .u8 0,.int .u8 0,.int .u8 0,.int .u8 0,.int .u8 0,.int .u8 0,.int .u8 0,.int .u8 0,.int .u8 0] 29):=(Lies.new y _ _).alloc _
 have B:Hid (Lies ((y.alloc (.cells #[.int .i64 0,.slice none 0 0,.string ⟨#[]⟩,.int .i64 0,.string ⟨#[]⟩,.int .u8 0,.int .u8 0,.int .u8 0,.int .u8 0,.int .u8 0,.int .u8 0,.int .u8 0,.int .u8 0,.int .u8 0,.int .u8 0,.int .u8 0,.int .u8 0,.int .u8 0,.int .u8 0,.int .u8 0,.int .u8 0] 29)).alloc (.cells #[.int .i64 0,.int .i64 0] 32)) (y.heap.size+1) #[.int .i64 0,.int .i64 0] 32):=new_one y _ _ _
 have M:Hid (Lies ((((y.alloc (.cells #[.int .i64 0,.slice none 0 0,.string ⟨#[]⟩,.int .i64 0,.string ⟨#[]⟩,.int .u8 0,.int .u8 0,.int .u8 0,.int .u8 0,.int .u8 0,.int .u8 0,.int .u8 0,.int .u8 0,.int .u8 0,.int .u8 0,.int .u8 0,.int .u8 0,.int .u8 0,.int .u8 0,.int .u8 0,.int .u8 0] 29)).alloc (.cells #[.int .i64 0,.int .i64 0] 32)).setRow y.heap.size VP).setRow (y.heap.size+1) #[.int .i64 0,.int .i64 0]) y.heap.size VP 29):=(A.out.row _).row_other (by omega) _
 have N:Hid (Lies ((((y.alloc (.cells #[.int .i64 0,.slice none 0 0,.string ⟨#[]⟩,.int .i64 0,.string ⟨#[]⟩,.int .u8 0,.int .u8 0,.int .u8 0,.int .u8 0,.int .u8 0,.int .u8 0,.int .u8 0,.int .u8 0,.int .u8 0,.int .u8 0,.int .u8 0,.int .u8 0,.int .u8 0,.int .u8 0,.int .u8 0,.int .u8 0] 29)).alloc (.cells #[.int .i64 0,.int .i64 0] 32)).setRow y.heap.size VP).setRow (y.heap.size+1) #[.int .i64 0,.int .i64 0]) (y.heap.size+1) #[.int .i64 0,.int .i64 0] 32):=(B.out.row_other (by omega) _).row _
 have BB:Hid (Below w.heap.size w ((((y.alloc (.cells #[.int .i64 0,.slice none 0 0,.string ⟨#[]⟩,.int .i64 0,.string ⟨#[]⟩,.int .u8 0,.int .u8 0,.int .u8 0,.int .u8 0,.int .u8 0,.int .u8 0,.int .u8 0,.int .u8 0,.int .u8 0,.int .u8 0,.int .u8 0,.int .u8 0,.int .u8 0,.int .u8 0,.int .u8 0,.int .u8 0] 29)).alloc (.cells #[.int .i64 0,.int .i64 0] 32)).setRow y.heap.size VP).setRow (y.heap.size+1) #[.int .i64 0,.int .i64 0])):=KB.out.trans ((below_row (below_row (((Below.refl _ _).alloc (Nat.le_refl _) _).alloc (by simp) _) (Nat.le_refl _) _) (by omega) _:Below y.heap.size y _).mono KB.out.size)
 clear KB
 go_upto_region 2 with(first|(refine wpList_store_row rfl 29 _ _ rfl y.heap.size rfl #[.int .i64 0,.slice none 0 0,.string ⟨#[]⟩,.int .i64 0,.string ⟨#[]⟩,.int .u8 0,.int .u8 0,.int .u8 0,.int .u8 0,.int .u8 0,.int .u8 0,.int .u8 0,.int .u8 0,.int .u8 0,.int .u8 0,.int .u8 0,.int .u8 0,.int .u8 0,.int .u8 0,.int .u8 0,.int .u8 0] VP rfl 29 A.out (by rw[zp.out];exact infoPt) (by rw[zp.out];rfl) op.out rfl ?_)|(refine wpList_store_row rfl 32 _ _ rfl (y.heap.size+1) rfl #[.int .i64 0,.int .i64 0] #[.int .i64 0,.int .i64 0] rfl 32 (B.out.row_other (by omega) _) infoSp rfl (by simp[Value.oneCell']) rfl ?_))
 generalize hv:(((y.alloc (.cells #[.int .i64 0,.slice none 0 0,.string ⟨#[]⟩,.int .i64 0,.string ⟨#[]⟩,.int .u8 0,.int .u8 0,.int .u8 0,.int .u8 0,.int .u8 0,.int .u8 0,.int .u8 0,.int .u8 0,.int .u8 0,.int .u8 0,.int .u8 0,.int .u8 0,.int .u8 0,.int .u8 0,.int .u8 0,.int .u8 0] 29)).alloc (.cells #[.int .i64 0,.int .i64 0] 32)).setRow y.heap.size VP).setRow (y.heap.size+1) #[.int .i64 0,.int .i64 0]=v at M N BB ⊢
 clear hv A B
 have c0:v.cell? ⟨y.heap.size,0,none⟩=some (.int .i64 3):=(M.out.cell 0).trans p0.out
 have c2:v.cell? ⟨y.heap.size,2,none⟩=some (.string ⟨#[97,110,110]⟩):=(M.out.cell 2).trans p2.out
 have c4:v.cell? ⟨y.heap.size,4,none⟩=some (.string ⟨#[97,46,101,120,97,109,112,108,101]⟩):=(M.out.cell 4).trans p4.out
 go_wp2_with (refine wpList_load_row9 (by rfl) 32 _ rfl (y.heap.size+1) rfl #[.int .i64 0,.int .i64 0] 32 _ N.out Tryz.underlying32 rfl infoSp ?_)
 go_ret
 exact⟨rfl,BB.out⟩
open Go.ChangeShapes Go.WideShapes Go.ChangeAt Go.RowKit
theorem gCl:Tryz.prog.globalNamed "posthorn/octet.classes"=some 0:=by kernel_rfl
theorem tCl:(Tryz.prog.globals[(0:Nat)]?).map (·.type)=some 139:=by kernel_rfl
theorem cellsStr:Tryz.prog.cellsOf 9=1:=by kernel_rfl
theorem gFs:Tryz.prog.globalNamed "posthorn/runes.firsts"=some 1:=by kernel_rfl
theorem tFs:(Tryz.prog.globals[(1:Nat)]?).map (·.type)=some 206:=by kernel_rfl
theorem cellsF:Tryz.prog.cellsOf 205=5:=by kernel_rfl
theorem cellsFs:Tryz.prog.cellsOf 206=40:=by kernel_rfl
theorem laid_rows:(Rows.laid_posthorn_octet_classes:DataW Unit)=.agg (classRows.map fun l=>.lit (.string l)):=rfl
theorem laid_fst:(Rows.laid_posthorn_runes_firsts:DataW Unit)=.agg (fsRows.map fun r=>.agg (r.map fun x=>.lit (.int .u8 x))):=rfl
theorem table_of_trod {enc:TypeId×Value→Unit} {W:World} {base:Nat} {sp:Nat→Bool} {held:Bool} {cs:Array Value} {fuel:Nat} {p:List MemPlace}
  (hv:W.var? Tryz.prog "posthorn/octet.classes"=some cs)
  (hd:DataW.trod enc Tryz.prog W base sp held fuel 139 cs.toList=some (Rows.laid_posthorn_octet_classes,p)):Table W:=by
 obtain⟨xs,m,_,hx,hlen,hn,hel⟩:=DataW.trod_array Tryz.underlying139 hd
 rw[laid_rows]at hx
 simp only[Prod.mk.injEq,DataW.agg.injEq]at hx
 obtain⟨hx, -⟩:=hx
 intro c hc
 have h1:=hel c hc
 have hxc:c<xs.length:=by omega
 rw[List.getElem?_eq_getElem hxc]at h1
 obtain⟨s,e1,e2,_⟩:=DataW.trod_string Tryz.underlying9 h1
 have h2:=congrArg (fun l=>l[c]?) hx
 simp only[List.getElem?_map,List.getElem?_eq_getElem hxc,Option.map_some,e2]at h2
 have hcl:c<classRows.length:=hc
 rw[List.getElem?_eq_getElem hcl]at h2
 simp only[Option.map_some,Option.some.injEq,DataW.lit.injEq,Lit.string.injEq]at h2
 have h3:=World.var?_cell gCl hv c
 rw[h3]
 rw[cellsStr,Nat.mul_one]at e1
 have h4:=congrArg (fun l=>l[0]?) e1
 simp only[List.getElem?_take,List.getElem?_drop]at h4
 have h5:cs[c]?=some (.string s):=by simpa using h4
 rw[h5]
 have h6:classRows.getD c []=s.data.toList:=by
  rw[List.getD_eq_getElem?_getD,List.getElem?_eq_getElem hcl,Option.getD_some,h2]
 rw[h6]
theorem fst_of_trod {enc:TypeId×Value→Unit} {W:World} {base:Nat} {sp:Nat→Bool} {held:Bool} {cs:Array Value} {fuel:Nat} {p:List MemPlace}
  (hv:W.var? Tryz.prog "posthorn/runes.firsts"=some cs)
  (hd:DataW.trod enc Tryz.prog W base sp held fuel 206 cs.toList=some (Rows.laid_posthorn_runes_firsts,p)):Fst W:=by
 obtain⟨xs,m,_,hx,hlen,hn,hel⟩:=DataW.trod_array Tryz.underlying206 hd
 rw[laid_fst]at hx
 simp only[Prod.mk.injEq,DataW.agg.injEq]at hx
 obtain⟨hx, -⟩:=hx
 have key:∀c,c<8→∀i,i<5→cs[c*5+i]?=some (.int .u8 (fsAt c i)):=by
  intro c hc i hi
  have h1:=hel c hc
  have hxc:c<xs.length:=by omega
  rw[List.getElem?_eq_getElem hxc,cellsF]at h1
  obtain⟨ys,n,_,hy,hl,hyl,hf⟩:=DataW.trod_struct Tryz.underlying205 h1
  have hrow:c<fsRows.length:=hc
  have e1:=congrArg (fun l=>l[c]?) hx
  simp only[List.getElem?_map,List.getElem?_eq_getElem hxc,List.getElem?_eq_getElem hrow,Option.map_some,Option.some.injEq,hy,DataW.agg.injEq]at e1
  have hr5:(fsRows[c]).length=5:=by
   have:∀k:Fin 8,(fsRows[k.val]'k.isLt).length=5:=by decide
   exact this ⟨c,hc⟩
  have hyi:i<ys.length:=by
   have:=congrArg List.length e1
   simp only[List.length_map,hr5]at this
   omega
  have e2:=congrArg (fun l=>l[i]?) e1
  simp only[List.getElem?_map,List.getElem?_eq_getElem hyi,List.getElem?_eq_getElem (show i<(fsRows[c]).length by omega),Option.map_some,Option.some.injEq]at e2
  have hat:fsAt c i=(fsRows[c])[i]'(by omega):=by
   unfold fsAt
   simp[List.getD_eq_getElem?_getD,List.getElem?_eq_getElem hrow,List.getElem?_eq_getElem (show i<(fsRows[c]).length by omega)]
  have go:∀(f:Field),f.type=5→f.offset=i→DataW.trod enc Tryz.prog W base sp held n f.type (((List.take 5 (List.drop (c*5) cs.toList)).drop f.offset).take (Tryz.prog.cellsOf f.type))=ys[i]?→cs[c*5+i]?=some (.int .u8 (fsAt c i)):=by
   intro f ft fo h
   rw[ft,fo,cells5,List.getElem?_eq_getElem hyi]at h
   obtain⟨z,e3,e4,_⟩:=DataW.trod_int Tryz.underlying5 h
   rw[e4]at e2
   simp only[DataW.lit.injEq,Lit.int.injEq,true_and]at e2
   have h4:=congrArg (fun l=>l[0]?) e3
   simp only[List.getElem?_take,List.getElem?_drop]at h4
   rw[hat,e2]
   simpa [show i<5 from hi] using h4
  have hcase:i=0∨i=1∨i=2∨i=3∨i=4:=by omega
  rcases hcase with rfl|rfl|rfl|rfl|rfl
  ·exact go _ rfl rfl (hf 0 _ rfl)
  ·exact go _ rfl rfl (hf 1 _ rfl)
  ·exact go _ rfl rfl (hf 2 _ rfl)
  ·exact go _ rfl rfl (hf 3 _ rfl)
  ·exact go _ rfl rfl (hf 4 _ rfl)
 have hsz:cs.size=40:=by
  have:=hlen
  rw[cellsFs]at this
  simpa using this
 have hcs:cs=fsCells:=by
  apply Array.ext_getElem?
  intro j
  by_cases hj:j<40
  ·have:=key (j / 5) (by omega) (j % 5) (by omega)
   rw[show j / 5*5+j % 5=j from by omega]at this
   rw[this]
   have h:∀k:Fin 40,fsCells[k.val]?=some (.int .u8 (fsAt (k.val / 5) (k.val % 5))):=by
    intro k
    have:∀k:Fin 40,(fsRows.flatten)[k.val]?=some (fsAt (k.val / 5) (k.val % 5)):=by decide
    unfold fsCells
    rw[List.getElem?_toArray,List.getElem?_map,this k]
    rfl
   exact(h ⟨j,hj⟩).symm
  ·have h40:fsCells.size=40:=by decide
   rw[Array.getElem?_eq_none (by omega),Array.getElem?_eq_none (by omega)]
 unfold World.var? at hv
 rw[gFs]at hv
 simp only[Option.bind_some]at hv
 split at hv
 ·rename_i c t fr hh
  injection hv with hv
  rw[hv,hcs]at hh
  exact⟨t,fr,hh⟩
 ·cases hv
theorem own:ownKnob Tryz.prog.godebug=none:=by kernel_rfl
theorem cell_lt {w:World} {g k:Nat} {v:Value} (h:w.cell? ⟨g,k,none⟩=some v):g<w.heap.size:=by
 rcases Nat.lt_or_ge g w.heap.size with h'|h'
 ·exact h'
 ·simp[World.cell?,Array.getElem?_eq_none h']at h
theorem tPow:(Tryz.prog.globals[(5:Nat)]?).map (·.type)=some 236:=by kernel_rfl
theorem cellsPow:Tryz.prog.cellsOf 236=20:=by kernel_rfl
theorem cellsU64:Tryz.prog.cellsOf 153=1:=by kernel_rfl
theorem laid_pow:(Rows.laid_internal_strconv_uint64pow10:DataW Unit)=Lib.tabData .u64 Lib.pow10Tab:=by kernel_rfl
theorem gT64:Tryz.prog.globalNamed "math/bits.deBruijn64tab"=some 7:=by kernel_rfl
theorem tT64:(Tryz.prog.globals[(7:Nat)]?).map (·.type)=some 263:=by kernel_rfl
theorem gES:Tryz.prog.globalNamed "strconv.ErrSyntax"=some 8:=by kernel_rfl
theorem tES:(Tryz.prog.globals[(8:Nat)]?).map (·.type)=some 148:=by kernel_rfl
set_option maxRecDepth 100000 in
theorem t64_15:∃l:List (DataW Unit),(Rows.laid_math_bits_deBruijn64tab:DataW Unit)=.agg l∧l[15]?=some (.lit (.int .u8 4)):=⟨_,rfl,rfl⟩
set_option maxRecDepth 100000 in
theorem t64_of_trod {enc:TypeId×Value→Unit} {W:World} {base:Nat} {sp:Nat→Bool} {held:Bool} {cs:Array Value} {fuel:Nat} {p:List MemPlace}
  (hv:W.var? Tryz.prog "math/bits.deBruijn64tab"=some cs)
  (hd:DataW.trod enc Tryz.prog W base sp held fuel 263 cs.toList=some (Rows.laid_math_bits_deBruijn64tab,p)):W.cell? ⟨7,15,none⟩=some (.int .u8 4):=by
 obtain⟨xs,m,_,hx,hlen,hn,hel⟩:=DataW.trod_array Tryz.underlying263 hd
 obtain⟨l,hl,h15⟩:=t64_15
 rw[hl]at hx
 simp only[Prod.mk.injEq,DataW.agg.injEq]at hx
 obtain⟨rfl, -⟩:=hx
 have h1:=hel 15 (by omega)
 have hxc:15<xs.length:=by omega
 rw[List.getElem?_eq_getElem hxc,cells5]at h1
 obtain⟨z,e1,e2,_⟩:=DataW.trod_int Tryz.underlying5 h1
 simp only[List.getElem?_map,List.getElem?_eq_getElem hxc,Option.map_some,e2,Option.some.injEq,DataW.lit.injEq,Lit.int.injEq,true_and]at h15
 subst h15
 have h3:=World.var?_cell gT64 hv 15
 rw[h3]
 have h4:=congrArg (fun l=>l[0]?) e1
 simp only[List.getElem?_take,List.getElem?_drop]at h4
 simpa using h4
theorem es_of_trod {enc:TypeId×Value→Unit} {W:World} {base:Nat} {sp:Nat→Bool} {cs:Array Value} {fuel:Nat} {p:List MemPlace}
  (hv:W.var? Tryz.prog "strconv.ErrSyntax"=some cs)
  (hd:DataW.trod enc Tryz.prog W base sp false fuel 148 cs.toList=some (Rows.laid_strconv_ErrSyntax,p)):∃te pe,W.cell? ⟨8,0,none⟩=some (.iface te pe):=by
 obtain⟨_,u,v,e,_,_⟩:=iface_of_trod Tryz.underlying148 hd
 have h3:=World.var?_cell gES hv 0
 refine⟨u,v,?_⟩
 rw[h3]
 have h4:=congrArg (fun l=>l[0]?) e
 simpa using h4
theorem ml_of {W:World} (h:W.ShapedOpen Tryz.prog):∃m,W.cell? ⟨2,0,none⟩=some (.int .i64 m):=
 cell_of_shapedOpen_int (t:=3) (zero:=#[.int .i64 0]) h (of_decide_eq_true (by kernel_rfl)) (by kernel_rfl) rfl (by kernel_rfl) (by kernel_rfl) Tryz.underlying3
theorem gER:Tryz.prog.globalNamed "strconv.ErrRange"=some 9:=by kernel_rfl
theorem ten_of {W:World} {cs:Array Value} (hv:W.var? Tryz.prog "strconv.ErrRange"=some cs):10≤W.heap.size:=by
 unfold World.var? at hv
 rw[gER]at hv
 simp only[Option.bind_some]at hv
 split at hv
 ·rename_i c t fr hh
  exact(Array.getElem?_eq_some_iff.1 hh).1
 ·cases hv
theorem tabs9_of {W:World} (h:laidMet Tryz.prog [("math/bits.deBruijn32tab",Rows.laid_math_bits_deBruijn32tab),("math/bits.deBruijn64tab",Rows.laid_math_bits_deBruijn64tab),("internal/strconv.uint64pow10",Rows.laid_internal_strconv_uint64pow10),("unicode/utf8.acceptRanges",Rows.laid_unicode_utf8_acceptRanges),("strconv.ErrRange",Rows.laid_strconv_ErrRange),("strconv.ErrSyntax",Rows.laid_strconv_ErrSyntax),("posthorn/octet.classes",Rows.laid_posthorn_octet_classes),("posthorn/runes.firsts",Rows.laid_posthorn_runes_firsts),("unicode/utf8.first",Rows.laid_unicode_utf8_first)] W) (hsh:W.ShapedOpen Tryz.prog):Td W∧10≤W.heap.size:=by
 obtain⟨ps,⟨g0,t0,cs0,fuel0,p0,q0,hg0,ht0,hv0,hd0,⟨g1,t1,cs1,fuel1,p1,q1,hg1,ht1,hv1,hd1,⟨g2,t2,cs2,fuel2,p2,q2,hg2,ht2,hv2,hd2,⟨g3,t3,cs3,fuel3,p3,q3,hg3,ht3,hv3,hd3,⟨g4,t4,cs4,fuel4,p4,q4,hg4,ht4,hv4,hd4,⟨g5,t5,cs5,fuel5,p5,q5,hg5,ht5,hv5,hd5,⟨g6,t6,cs6,fuel6,p6,q6,hg6,ht6,hv6,hd6,⟨g7,t7,cs7,fuel7,p7,q7,hg7,ht7,hv7,hd7,⟨g8,t8,cs8,fuel8,p8,q8,hg8,ht8,hv8,hd8,_,_⟩,_⟩,_⟩,_⟩,_⟩,_⟩,_⟩,_⟩,_⟩,_⟩:=h
 obtain rfl:=Option.some.inj (gCl.symm.trans hg6)
 obtain rfl:=Option.some.inj (tCl.symm.trans ht6)
 obtain rfl:=Option.some.inj (gFs.symm.trans hg7)
 obtain rfl:=Option.some.inj (tFs.symm.trans ht7)
 obtain rfl:=Option.some.inj (gPow.symm.trans hg2)
 obtain rfl:=Option.some.inj (tPow.symm.trans ht2)
 obtain rfl:=Option.some.inj (gT64.symm.trans hg1)
 obtain rfl:=Option.some.inj (tT64.symm.trans ht1)
 obtain rfl:=Option.some.inj (gES.symm.trans hg5)
 obtain rfl:=Option.some.inj (tES.symm.trans ht5)
 have h1:=table_of_trod hv6 hd6
 refine⟨?_,ten_of hv4⟩
 refine⟨⟨h1,cell_lt (h1 0 (by omega)),fst_of_trod hv7 hd7,es_of_trod hv5 hd5,t64_of_trod hv1 hd1⟩,?_,ml_of hsh⟩
 rw[laid_pow]at hd2
 unfold PowTab Lib.TabIs
 rw[hv2,←Lib.cells_of_tab Tryz.underlying236 Tryz.underlying153 cellsU64 cellsPow hd2]
def litC:DataW Unit→List Value
 | .lit (.int k z)=>[Value.int k z]
 | .lit (.string b)=>[Value.string ⟨b.toArray⟩]
 |_=>[]
def rowC:DataW Unit→List Value
 | .agg l=>l.flatMap litC
 |d=>litC d
def datCells:DataW Unit→Array Value
 | .agg l=>(l.flatMap rowC).toArray
 |_=>#[]
def layCells (d:DataW Unit):Obj→Obj
 | .cells _ t frozen=>.cells (datCells d) t frozen
 |o=>o
abbrev rangeS:ByteArray:=⟨#[118,97,108,117,101,32,111,117,116,32,111,102,32,114,97,110,103,101]⟩
abbrev synS:ByteArray:=⟨#[105,110,118,97,108,105,100,32,115,121,110,116,97,120]⟩
noncomputable def low9:Nat:=(World.holding Tryz.prog default ⟨#[],#[],[]⟩).heap.size
def layPtr (b:Nat):Obj→Obj
 | .cells _ t frozen=>.cells #[.iface 280 (.pointer (some ⟨b,0,none⟩))] t frozen
 |o=>o
noncomputable def laidWorld9 (os:Os):World:=
 {World.holding Tryz.prog os ⟨#[.cells #[.string rangeS] 282,.cells #[.string synS] 282],#[],[]⟩ with heap:=((((((((((World.holding Tryz.prog os ⟨#[.cells #[.string rangeS] 282,.cells #[.string synS] 282],#[],[]⟩).heap.modify 6 (layCells Rows.laid_math_bits_deBruijn32tab)).modify 7 (layCells Rows.laid_math_bits_deBruijn64tab)).modify 5 (layCells Rows.laid_internal_strconv_uint64pow10)).modify 4 (layCells Rows.laid_unicode_utf8_acceptRanges)).modify 9 (layPtr (low9))).modify 8 (layPtr (low9+1))).modify 0 (layCells Rows.laid_posthorn_octet_classes)).modify 1 (layCells Rows.laid_posthorn_runes_firsts)).modify 3 (layCells Rows.laid_unicode_utf8_first))}
end Go.Proofs.YtfjpkfhbmldmfaaGreatDoor
