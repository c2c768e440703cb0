/-
  The program's Reverse and Forward.
-/
import Derived.Test.YtfjpkfhbmldmfaaGreatDoorXs9
import Derived.Defers
import Derived.Recover
namespace Go.Proofs.YtfjpkfhbmldmfaaGreatDoor
open Go.RowKit
def OnlyN9 (S:Act→World→Prop):Exit→Act→World→Prop
 | .normal,a,w=>S a w
 |_,_,_=>False
theorem wp_noP9 {P:Program} {id:Nat} {ops:Array Oper} {b:Bool} {Q:Exit→Act→World→Prop} {a:Act} {w:World} (h:(Code.region id ops b).wp P (OnlyN9 (fun a w=>Q .normal a w)) a w):(Code.region id ops b).wp P Q a w:=
 Code.wp_mono (fun e a' w' h=>by
  cases e<;>first|exact h|exact(h:False).elim) h
theorem infoRd:(Tryz.prog.info? 59).map (·.size)=some 5:=by kernel_rfl
def PtV (w:World) (x:Except (Nat×Nat) (Pt×Nat)) (v:Value) (w':World):Prop:=match x with
 | .error (e,p)=>v=.tuple #[.agg #[.int .i64 0,.slice none 0 0,.string ⟨#[]⟩,.int .i64 0,.string ⟨#[]⟩,.int .u8 0,.int .u8 0,.int .u8 0,.int .u8 0,.int .u8 0,.int .u8 0,.int .u8 0,.int .u8 0,.int .u8 0,.int .u8 0,.int .u8 0,.int .u8 0,.int .u8 0,.int .u8 0,.int .u8 0,.int .u8 0],.int .i64 0,.agg #[.int .i64 (e:Nat),.int .i64 (p:Nat)]]
 | .ok (p,n)=>∃sl,v=.tuple #[.agg (pthC p.k sl p.l p.h),.int .i64 (n:Nat),.agg #[.int .i64 0,.int .i64 0]]∧w'.ownsRow w.heap.size 25 18 sl p.r.length (cellsH p.r)
theorem results_ccc {P:Program} {fn:Func} {p q r:Tmp} {ty tz:TypeId} (h:fn.results=#[.cell p ty,.cell q 3,.cell r tz]) (tmps:Array Value) (w:World) (g1 g2 g3:Nat) (cs ds:Array Value) (d1 d2:TypeDesc) (v:Value)
  (hp:tmps.getD p undef=.pointer (some ⟨g1,0,none⟩)) (hq:tmps.getD q undef=.pointer (some ⟨g2,0,none⟩)) (hr:tmps.getD r undef=.pointer (some ⟨g3,0,none⟩)) (hg1:Lies w g1 cs ty) (hg3:Lies w g3 ds tz)
  (hl:(loadVar 3 ⟨g2,0,none⟩).run P w=.ok v w)
  (hu1:P.underlying ty=some d1) (ha1:(match d1 with| .struct _| .array _ _=>true|_=>false)=true) (hz1:(P.info? ty).map (·.size)=some cs.size)
  (hu2:P.underlying tz=some d2) (ha2:(match d2 with| .struct _| .array _ _=>true|_=>false)=true) (hz2:(P.info? tz).map (·.size)=some ds.size):(results fn tmps).run P w=.ok (.tuple #[.agg cs,v,.agg ds]) w:=by
 have hp':tmps[p]?.getD undef=.pointer (some ⟨g1,0,none⟩):=by simpa using hp
 have hq':tmps[q]?.getD undef=.pointer (some ⟨g2,0,none⟩):=by simpa using hq
 have hr':tmps[r]?.getD undef=.pointer (some ⟨g3,0,none⟩):=by simpa using hr
 simp[results,h,hp',hq',hr',asAddr,run_loadVar_row w g1 ty ty cs (0,0) d1 hg1 hu1 ha1 hz1,run_loadVar_row w g3 tz tz ds (0,0) d2 hg3 hu2 ha2 hz2,hl]
theorem pth_hlen {wide back:Bool} {s:List UInt8} {p:Pt} {n:Nat} (h:pth wide back s=.ok (p,n)):p.h.a.length=16:=by
 rcases pth_is h with⟨_,rfl,_⟩|⟨_,rfl,_⟩|⟨_,_,_,_,_,_,_,_,_,_,_,hh⟩
 ·rfl
 ·rfl
 ·exact hst_len hh
theorem load_int (w:World) (g:Nat) (n:Int) (hc:w.cell? ⟨g,0,none⟩=some (.int .i64 n)):(loadVar 3 ⟨g,0,none⟩).run Tryz.prog w=.ok (.int .i64 n) w:=by
 simp[go_sem,hc]
theorem rev_idle (b g4 g5 g6:Nat) (w:World):CallsD Tryz.prog 36 #[.pointer (some ⟨b,0,none⟩),.pointer (some ⟨g4,0,none⟩),.pointer (some ⟨g5,0,none⟩),.pointer (some ⟨g6,0,none⟩)] .returning w fun e u' w'=>e=.returned (.tuple #[])∧u'=.returning∧w'=w:=by
 refine callsD_of_wpS Tryz.func36 rfl fun c₀ cs hu=>?_
 apply wpS_seq
 apply wpS_region
 simp[wpOpsS,go_sem,recoverD,hu,Tryz.ntmps36,Exit.thenS]
 refine wpS_cond (t:=false) (by simp[Act.eval,Array.replicate]) ?_
 simp only[Bool.false_eq_true,if_false]
 refine wpS_of_wp (wp_skip ?_)
 cases c₀
 simp_all[bodyPostS,results,Tryz.results36]
set_option maxHeartbeats 4000000 in
set_option maxRecDepth 100000 in
theorem rev_catch (b g4 g5 g6:Nat) (pv:Value) (er p:Nat) (P:Array Value) (x y z:Int) (w:World) (h3:w.cell? ⟨b,3,none⟩=some (.int .i64 (er:Int))) (h4:w.cell? ⟨b,4,none⟩=some (.int .i64 (p:Int))) (L4:Lies w g4 P 29) (hP:P.size=21) (L5:Lies w g5 #[.int .i64 x] 3) (L6:Lies w g6 #[.int .i64 y,.int .i64 z] 32) (n45:g4≠g5) (n46:g4≠g6) (n56:g5≠g6):
  CallsD Tryz.prog 36 #[.pointer (some ⟨b,0,none⟩),.pointer (some ⟨g4,0,none⟩),.pointer (some ⟨g5,0,none⟩),.pointer (some ⟨g6,0,none⟩)] (.panicking [{v:=.iface 30 pv,recovered:=false}]) w fun e u' w'=>
   e=.returned (.tuple #[])∧u'=.panicking [{v:=.iface 30 pv,recovered:=true}]∧w'=((w.setRow g4 #[.int .i64 0,.slice none 0 0,.string ⟨#[]⟩,.int .i64 0,.string ⟨#[]⟩,.int .u8 0,.int .u8 0,.int .u8 0,.int .u8 0,.int .u8 0,.int .u8 0,.int .u8 0,.int .u8 0,.int .u8 0,.int .u8 0,.int .u8 0,.int .u8 0,.int .u8 0,.int .u8 0,.int .u8 0,.int .u8 0]).setCell ⟨g5,0,none⟩ (.int .i64 0)).setRow g6 #[.int .i64 (er:Int),.int .i64 (p:Int)]:=by
 refine callsD_of_wpS Tryz.func36 rfl fun c₀ cs hu=>?_
 apply wpS_seq
 apply wpS_region
 simp[wpOpsS,go_sem,recoverD,hu,Tryz.ntmps36,Exit.thenS]
 refine wpS_cond (t:=true) (by simp[Act.eval,Array.replicate]) ?_
 simp only[if_true]
 refine wpS_of_wp ?_
 have HL4:Hid (Lies w g4 P 29):=L4
 have HPZ:Hid (P.size=21):=hP
 have l5:Lies (w.setRow g4 #[.int .i64 0,.slice none 0 0,.string ⟨#[]⟩,.int .i64 0,.string ⟨#[]⟩,.int .u8 0,.int .u8 0,.int .u8 0,.int .u8 0,.int .u8 0,.int .u8 0,.int .u8 0,.int .u8 0,.int .u8 0,.int .u8 0,.int .u8 0,.int .u8 0,.int .u8 0,.int .u8 0,.int .u8 0,.int .u8 0]) g5 #[.int .i64 x] 3:=L5.row_other (Ne.symm n45) _
 have i5:(w.setRow g4 #[.int .i64 0,.slice none 0 0,.string ⟨#[]⟩,.int .i64 0,.string ⟨#[]⟩,.int .u8 0,.int .u8 0,.int .u8 0,.int .u8 0,.int .u8 0,.int .u8 0,.int .u8 0,.int .u8 0,.int .u8 0,.int .u8 0,.int .u8 0,.int .u8 0,.int .u8 0,.int .u8 0,.int .u8 0,.int .u8 0]).cell? ⟨g5,0,none⟩=some (.int .i64 x):=l5.cell 0
 have z5:(w.setRow g4 #[.int .i64 0,.slice none 0 0,.string ⟨#[]⟩,.int .i64 0,.string ⟨#[]⟩,.int .u8 0,.int .u8 0,.int .u8 0,.int .u8 0,.int .u8 0,.int .u8 0,.int .u8 0,.int .u8 0,.int .u8 0,.int .u8 0,.int .u8 0,.int .u8 0,.int .u8 0,.int .u8 0,.int .u8 0,.int .u8 0]).frozen? ⟨g5,0,none⟩=false:=l5.frozen 0
 have l6:Lies ((w.setRow g4 #[.int .i64 0,.slice none 0 0,.string ⟨#[]⟩,.int .i64 0,.string ⟨#[]⟩,.int .u8 0,.int .u8 0,.int .u8 0,.int .u8 0,.int .u8 0,.int .u8 0,.int .u8 0,.int .u8 0,.int .u8 0,.int .u8 0,.int .u8 0,.int .u8 0,.int .u8 0,.int .u8 0,.int .u8 0,.int .u8 0]).setCell ⟨g5,0,none⟩ (.int .i64 0)) g6 #[.int .i64 y,.int .i64 z] 32:=(L6.row_other (Ne.symm n46) _).set_other (a:=⟨g5,0,none⟩) (Ne.symm n56) _
 have HL6:Hid (Lies ((w.setRow g4 #[.int .i64 0,.slice none 0 0,.string ⟨#[]⟩,.int .i64 0,.string ⟨#[]⟩,.int .u8 0,.int .u8 0,.int .u8 0,.int .u8 0,.int .u8 0,.int .u8 0,.int .u8 0,.int .u8 0,.int .u8 0,.int .u8 0,.int .u8 0,.int .u8 0,.int .u8 0,.int .u8 0,.int .u8 0,.int .u8 0]).setCell ⟨g5,0,none⟩ (.int .i64 0)) g6 #[.int .i64 y,.int .i64 z] 32):=l6
 have HRG:Hid (w.rangeAt b 3 [.int .i64 (er:Int),.int .i64 (p:Int)]):=fun j v hv=>by
  match j,hv with
  |0,hv=>injection hv with hv;rw[←hv];exact h3
  |1,hv=>injection hv with hv;rw[←hv];exact h4
 clear L4 L5 L6 l5 l6 hP
 go_wp2_with (first|(refine wpList_load_mid rfl 32 _ rfl b 3 rfl [.int .i64 (er:Int),.int .i64 (p:Int)] _ HRG.out Tryz.underlying32 rfl infoSp ?_)|(refine wpList_store_row rfl 29 _ _ rfl g4 rfl P #[.int .i64 0,.slice none 0 0,.string ⟨#[]⟩,.int .i64 0,.string ⟨#[]⟩,.int .u8 0,.int .u8 0,.int .u8 0,.int .u8 0,.int .u8 0,.int .u8 0,.int .u8 0,.int .u8 0,.int .u8 0,.int .u8 0,.int .u8 0,.int .u8 0,.int .u8 0,.int .u8 0,.int .u8 0,.int .u8 0] rfl 29 HL4.out infoPt (by rw[HPZ.out];rfl) (by simp[Value.oneCell']) rfl ?_)|(refine wpList_store_row rfl 32 _ _ rfl g6 rfl #[.int .i64 y,.int .i64 z] #[.int .i64 (er:Int),.int .i64 (p:Int)] rfl 32 HL6.out infoSp rfl (by simp[Value.oneCell']) rfl ?_))
 simp[bodyPostS,results,Tryz.results36]
set_option maxHeartbeats 16000000 in
set_option maxRecDepth 100000 in
theorem rev_any (s:ByteArray) (hs:s.size≤140737488355328) (wide:Bool) (w:World) (hT:Td w) (h10:10≤w.heap.size):
  Calls Tryz.prog 14 #[.string s,.bool wide] w fun e w'=>∃v,e=.returned v∧PtV w (pth wide true s.data.toList) v w'∧Below w.heap.size w w':=by
 have hmf:∀(fn:Fn) (first cap:Array Value) (w:World),(Instr.makeFunc fn first cap).run Tryz.prog w=.ok (.func fn first cap) w:=fun _ _ _ _=>rfl
 have K3:Below w.heap.size w (((w.alloc (.cells #[.int .i64 0,.slice none 0 0,.string ⟨#[]⟩,.int .i64 0,.string ⟨#[]⟩,.int .u8 0,.int .u8 0,.int .u8 0,.int .u8 0,.int .u8 0,.int .u8 0,.int .u8 0,.int .u8 0,.int .u8 0,.int .u8 0,.int .u8 0,.int .u8 0,.int .u8 0,.int .u8 0,.int .u8 0,.int .u8 0] 29)).alloc (.cells #[.int .i64 0] 3)).alloc (.cells #[.int .i64 0,.int .i64 0] 32)):=(((Below.refl _ w).alloc (Nat.le_refl _) _).alloc (by simp) _).alloc (by simp;omega) _
 have z3:(((w.alloc (.cells #[.int .i64 0,.slice none 0 0,.string ⟨#[]⟩,.int .i64 0,.string ⟨#[]⟩,.int .u8 0,.int .u8 0,.int .u8 0,.int .u8 0,.int .u8 0,.int .u8 0,.int .u8 0,.int .u8 0,.int .u8 0,.int .u8 0,.int .u8 0,.int .u8 0,.int .u8 0,.int .u8 0,.int .u8 0,.int .u8 0] 29)).alloc (.cells #[.int .i64 0] 3)).alloc (.cells #[.int .i64 0,.int .i64 0] 32)).heap.size=w.heap.size+3:=by simp
 have HLR0:Hid (Lies ((((w.alloc (.cells #[.int .i64 0,.slice none 0 0,.string ⟨#[]⟩,.int .i64 0,.string ⟨#[]⟩,.int .u8 0,.int .u8 0,.int .u8 0,.int .u8 0,.int .u8 0,.int .u8 0,.int .u8 0,.int .u8 0,.int .u8 0,.int .u8 0,.int .u8 0,.int .u8 0,.int .u8 0,.int .u8 0,.int .u8 0,.int .u8 0] 29)).alloc (.cells #[.int .i64 0] 3)).alloc (.cells #[.int .i64 0,.int .i64 0] 32)).alloc (.cells #[.string ⟨#[]⟩,.int .i64 0,.bool false,.int .i64 0,.int .i64 0] 59)) (w.heap.size+3) #[.string ⟨#[]⟩,.int .i64 0,.bool false,.int .i64 0,.int .i64 0] 59):=by
  have:=Lies.new (((w.alloc (.cells #[.int .i64 0,.slice none 0 0,.string ⟨#[]⟩,.int .i64 0,.string ⟨#[]⟩,.int .u8 0,.int .u8 0,.int .u8 0,.int .u8 0,.int .u8 0,.int .u8 0,.int .u8 0,.int .u8 0,.int .u8 0,.int .u8 0,.int .u8 0,.int .u8 0,.int .u8 0,.int .u8 0,.int .u8 0,.int .u8 0] 29)).alloc (.cells #[.int .i64 0] 3)).alloc (.cells #[.int .i64 0,.int .i64 0] 32)) #[.string ⟨#[]⟩,.int .i64 0,.bool false,.int .i64 0,.int .i64 0] 59
  rw[z3]at this
  exact this
 have K4:Below w.heap.size w (((((w.alloc (.cells #[.int .i64 0,.slice none 0 0,.string ⟨#[]⟩,.int .i64 0,.string ⟨#[]⟩,.int .u8 0,.int .u8 0,.int .u8 0,.int .u8 0,.int .u8 0,.int .u8 0,.int .u8 0,.int .u8 0,.int .u8 0,.int .u8 0,.int .u8 0,.int .u8 0,.int .u8 0,.int .u8 0,.int .u8 0,.int .u8 0] 29)).alloc (.cells #[.int .i64 0] 3)).alloc (.cells #[.int .i64 0,.int .i64 0] 32)).alloc (.cells #[.string ⟨#[]⟩,.int .i64 0,.bool false,.int .i64 0,.int .i64 0] 59)).setRow (w.heap.size+3) #[.string s,.int .i64 0,.bool wide,.int .i64 0,.int .i64 0]):=below_row (K3.alloc (by rw[z3];omega) _) (by omega) _
 have HW:Hid (Below w.heap.size w (((((w.alloc (.cells #[.int .i64 0,.slice none 0 0,.string ⟨#[]⟩,.int .i64 0,.string ⟨#[]⟩,.int .u8 0,.int .u8 0,.int .u8 0,.int .u8 0,.int .u8 0,.int .u8 0,.int .u8 0,.int .u8 0,.int .u8 0,.int .u8 0,.int .u8 0,.int .u8 0,.int .u8 0,.int .u8 0,.int .u8 0,.int .u8 0] 29)).alloc (.cells #[.int .i64 0] 3)).alloc (.cells #[.int .i64 0,.int .i64 0] 32)).alloc (.cells #[.string ⟨#[]⟩,.int .i64 0,.bool false,.int .i64 0,.int .i64 0] 59)).setRow (w.heap.size+3) #[.string s,.int .i64 0,.bool wide,.int .i64 0,.int .i64 0])):=K4
 have HL4:Hid (Lies (((((w.alloc (.cells #[.int .i64 0,.slice none 0 0,.string ⟨#[]⟩,.int .i64 0,.string ⟨#[]⟩,.int .u8 0,.int .u8 0,.int .u8 0,.int .u8 0,.int .u8 0,.int .u8 0,.int .u8 0,.int .u8 0,.int .u8 0,.int .u8 0,.int .u8 0,.int .u8 0,.int .u8 0,.int .u8 0,.int .u8 0,.int .u8 0] 29)).alloc (.cells #[.int .i64 0] 3)).alloc (.cells #[.int .i64 0,.int .i64 0] 32)).alloc (.cells #[.string ⟨#[]⟩,.int .i64 0,.bool false,.int .i64 0,.int .i64 0] 59)).setRow (w.heap.size+3) #[.string s,.int .i64 0,.bool wide,.int .i64 0,.int .i64 0]) w.heap.size #[.int .i64 0,.slice none 0 0,.string ⟨#[]⟩,.int .i64 0,.string ⟨#[]⟩,.int .u8 0,.int .u8 0,.int .u8 0,.int .u8 0,.int .u8 0,.int .u8 0,.int .u8 0,.int .u8 0,.int .u8 0,.int .u8 0,.int .u8 0,.int .u8 0,.int .u8 0,.int .u8 0,.int .u8 0,.int .u8 0] 29):=((((Lies.new w _ _).alloc _).alloc _).alloc _).row_other (by omega) _
 have HL5:Hid (Lies (((((w.alloc (.cells #[.int .i64 0,.slice none 0 0,.string ⟨#[]⟩,.int .i64 0,.string ⟨#[]⟩,.int .u8 0,.int .u8 0,.int .u8 0,.int .u8 0,.int .u8 0,.int .u8 0,.int .u8 0,.int .u8 0,.int .u8 0,.int .u8 0,.int .u8 0,.int .u8 0,.int .u8 0,.int .u8 0,.int .u8 0,.int .u8 0] 29)).alloc (.cells #[.int .i64 0] 3)).alloc (.cells #[.int .i64 0,.int .i64 0] 32)).alloc (.cells #[.string ⟨#[]⟩,.int .i64 0,.bool false,.int .i64 0,.int .i64 0] 59)).setRow (w.heap.size+3) #[.string s,.int .i64 0,.bool wide,.int .i64 0,.int .i64 0]) (w.heap.size+1) #[.int .i64 0] 3):=((Lies.alloc (Lies.alloc (new_one w _ _ _) _) _)).row_other (by omega) _
 have HL6:Hid (Lies (((((w.alloc (.cells #[.int .i64 0,.slice none 0 0,.string ⟨#[]⟩,.int .i64 0,.string ⟨#[]⟩,.int .u8 0,.int .u8 0,.int .u8 0,.int .u8 0,.int .u8 0,.int .u8 0,.int .u8 0,.int .u8 0,.int .u8 0,.int .u8 0,.int .u8 0,.int .u8 0,.int .u8 0,.int .u8 0,.int .u8 0,.int .u8 0] 29)).alloc (.cells #[.int .i64 0] 3)).alloc (.cells #[.int .i64 0,.int .i64 0] 32)).alloc (.cells #[.string ⟨#[]⟩,.int .i64 0,.bool false,.int .i64 0,.int .i64 0] 59)).setRow (w.heap.size+3) #[.string s,.int .i64 0,.bool wide,.int .i64 0,.int .i64 0]) (w.heap.size+2) #[.int .i64 0,.int .i64 0] 32):=by
  have e:((w.alloc (.cells #[.int .i64 0,.slice none 0 0,.string ⟨#[]⟩,.int .i64 0,.string ⟨#[]⟩,.int .u8 0,.int .u8 0,.int .u8 0,.int .u8 0,.int .u8 0,.int .u8 0,.int .u8 0,.int .u8 0,.int .u8 0,.int .u8 0,.int .u8 0,.int .u8 0,.int .u8 0,.int .u8 0,.int .u8 0,.int .u8 0] 29)).alloc (.cells #[.int .i64 0] 3)).heap.size=w.heap.size+2:=by simp
  have:=(Lies.new ((w.alloc (.cells #[.int .i64 0,.slice none 0 0,.string ⟨#[]⟩,.int .i64 0,.string ⟨#[]⟩,.int .u8 0,.int .u8 0,.int .u8 0,.int .u8 0,.int .u8 0,.int .u8 0,.int .u8 0,.int .u8 0,.int .u8 0,.int .u8 0,.int .u8 0,.int .u8 0,.int .u8 0,.int .u8 0,.int .u8 0,.int .u8 0] 29)).alloc (.cells #[.int .i64 0] 3)) #[.int .i64 0,.int .i64 0] 32).alloc (.cells #[.string ⟨#[]⟩,.int .i64 0,.bool false,.int .i64 0,.int .i64 0] 59)
  rw[e]at this
  exact this.row_other (by omega) _
 have HR:Hid (RdAt (((((w.alloc (.cells #[.int .i64 0,.slice none 0 0,.string ⟨#[]⟩,.int .i64 0,.string ⟨#[]⟩,.int .u8 0,.int .u8 0,.int .u8 0,.int .u8 0,.int .u8 0,.int .u8 0,.int .u8 0,.int .u8 0,.int .u8 0,.int .u8 0,.int .u8 0,.int .u8 0,.int .u8 0,.int .u8 0,.int .u8 0,.int .u8 0] 29)).alloc (.cells #[.int .i64 0] 3)).alloc (.cells #[.int .i64 0,.int .i64 0] 32)).alloc (.cells #[.string ⟨#[]⟩,.int .i64 0,.bool false,.int .i64 0,.int .i64 0] 59)).setRow (w.heap.size+3) #[.string s,.int .i64 0,.bool wide,.int .i64 0,.int .i64 0]) (w.heap.size+3) s 0 wide 0 0):=⟨HLR0.out.row _⟩
 have HTd:Hid (Td (((((w.alloc (.cells #[.int .i64 0,.slice none 0 0,.string ⟨#[]⟩,.int .i64 0,.string ⟨#[]⟩,.int .u8 0,.int .u8 0,.int .u8 0,.int .u8 0,.int .u8 0,.int .u8 0,.int .u8 0,.int .u8 0,.int .u8 0,.int .u8 0,.int .u8 0,.int .u8 0,.int .u8 0,.int .u8 0,.int .u8 0,.int .u8 0] 29)).alloc (.cells #[.int .i64 0] 3)).alloc (.cells #[.int .i64 0,.int .i64 0] 32)).alloc (.cells #[.string ⟨#[]⟩,.int .i64 0,.bool false,.int .i64 0,.int .i64 0] 59)).setRow (w.heap.size+3) #[.string s,.int .i64 0,.bool wide,.int .i64 0,.int .i64 0])):=hT.below K4
 clear K3 K4 hT
 obtain⟨X,hX⟩:∃X,X=pth wide true s.data.toList:=⟨_,rfl⟩
 rw[←hX]
 have hlem:=pth_rev wide s
 rw[←hX]at hlem
 have HX:Hid (X=_):=hlem
 have HXE:Hid (X=pth wide true s.data.toList):=hX
 clear hX hlem
 go_enter_defers Tryz.func14,Tryz.ntmps14
 go_upto_region 2 with(refine wpList_store_row rfl 59 _ _ rfl (w.heap.size+3) rfl #[.string ⟨#[]⟩,.int .i64 0,.bool false,.int .i64 0,.int .i64 0] #[.string s,.int .i64 0,.bool wide,.int .i64 0,.int .i64 0] rfl 59 HLR0.out infoRd rfl (by simp[Value.oneCell']) rfl ?_)
 generalize ((((w.alloc (.cells #[.int .i64 0,.slice none 0 0,.string ⟨#[]⟩,.int .i64 0,.string ⟨#[]⟩,.int .u8 0,.int .u8 0,.int .u8 0,.int .u8 0,.int .u8 0,.int .u8 0,.int .u8 0,.int .u8 0,.int .u8 0,.int .u8 0,.int .u8 0,.int .u8 0,.int .u8 0,.int .u8 0,.int .u8 0,.int .u8 0] 29)).alloc (.cells #[.int .i64 0] 3)).alloc (.cells #[.int .i64 0,.int .i64 0] 32)).alloc (.cells #[.string ⟨#[]⟩,.int .i64 0,.bool false,.int .i64 0,.int .i64 0] 59)).setRow (w.heap.size+3) #[.string s,.int .i64 0,.bool wide,.int .i64 0,.int .i64 0]=W at HW HL4 HL5 HL6 HR HTd ⊢
 clear HLR0 z3
 have HPA:=path_any (w.heap.size+3) (by omega) s hs wide ⟨#[60,62]⟩ (by decide) 1 W HTd.out HR.out
 have HPB:Hid (Calls Tryz.prog 37 #[.pointer (some ⟨w.heap.size+3,0,none⟩),.string ⟨#[60,62]⟩,.int .i64 1] W (ComeP (w.heap.size+3) s wide W X)):=by
  have e:=HX.out
  rw[e]
  exact HPA
 clear HPA HX
 go_wp2_with fail
 refine HPB.out.mono ?_
 rintro e w5 hc
 clear HPB
 rcases X with⟨er,p⟩|⟨p,n⟩
 ·obtain⟨q1,rfl,a',q2⟩:=hc
  have l4:Lies w5 w.heap.size #[.int .i64 0,.slice none 0 0,.string ⟨#[]⟩,.int .i64 0,.string ⟨#[]⟩,.int .u8 0,.int .u8 0,.int .u8 0,.int .u8 0,.int .u8 0,.int .u8 0,.int .u8 0,.int .u8 0,.int .u8 0,.int .u8 0,.int .u8 0,.int .u8 0,.int .u8 0,.int .u8 0,.int .u8 0,.int .u8 0] 29:=q1.lies HL4.out (by omega)
  have l5:Lies w5 (w.heap.size+1) #[.int .i64 0] 3:=q1.lies HL5.out (by omega)
  have l6:Lies w5 (w.heap.size+2) #[.int .i64 0,.int .i64 0] 32:=q1.lies HL6.out (by omega)
  obtain⟨_,_,_,c3,c4⟩:=q2.cells
  have kb:Below w.heap.size w w5:=HW.out.trans (q1.below (by omega) HW.out.size)
  refine leaves_cons (f:=36) (args:=#[.pointer (some ⟨w.heap.size+3,0,none⟩),.pointer (some ⟨w.heap.size,0,none⟩),.pointer (some ⟨w.heap.size+1,0,none⟩),.pointer (some ⟨w.heap.size+2,0,none⟩)]) (by simp) (by simp[go_sem]) ?_
  refine(rev_catch (w.heap.size+3) w.heap.size (w.heap.size+1) (w.heap.size+2) _ er p _ 0 0 0 w5 c3 c4 l4 rfl l5 l6 (by omega) (by omega) (by omega)).mono ?_
  rintro e u' w6 ⟨rfl,rfl,rfl⟩
  have m4:Lies (((w5.setRow w.heap.size #[.int .i64 0,.slice none 0 0,.string ⟨#[]⟩,.int .i64 0,.string ⟨#[]⟩,.int .u8 0,.int .u8 0,.int .u8 0,.int .u8 0,.int .u8 0,.int .u8 0,.int .u8 0,.int .u8 0,.int .u8 0,.int .u8 0,.int .u8 0,.int .u8 0,.int .u8 0,.int .u8 0,.int .u8 0,.int .u8 0]).setCell ⟨w.heap.size+1,0,none⟩ (.int .i64 0)).setRow (w.heap.size+2) #[.int .i64 (er:Int),.int .i64 (p:Int)]) w.heap.size #[.int .i64 0,.slice none 0 0,.string ⟨#[]⟩,.int .i64 0,.string ⟨#[]⟩,.int .u8 0,.int .u8 0,.int .u8 0,.int .u8 0,.int .u8 0,.int .u8 0,.int .u8 0,.int .u8 0,.int .u8 0,.int .u8 0,.int .u8 0,.int .u8 0,.int .u8 0,.int .u8 0,.int .u8 0,.int .u8 0] 29:=((l4.row _).set_other (a:=⟨w.heap.size+1,0,none⟩) (by show w.heap.size≠w.heap.size+1;omega) _).row_other (by omega) _
  have m5:(((w5.setRow w.heap.size #[.int .i64 0,.slice none 0 0,.string ⟨#[]⟩,.int .i64 0,.string ⟨#[]⟩,.int .u8 0,.int .u8 0,.int .u8 0,.int .u8 0,.int .u8 0,.int .u8 0,.int .u8 0,.int .u8 0,.int .u8 0,.int .u8 0,.int .u8 0,.int .u8 0,.int .u8 0,.int .u8 0,.int .u8 0,.int .u8 0]).setCell ⟨w.heap.size+1,0,none⟩ (.int .i64 0)).setRow (w.heap.size+2) #[.int .i64 (er:Int),.int .i64 (p:Int)]).cell? ⟨w.heap.size+1,0,none⟩=some (.int .i64 0):=(((l5.row_other (by omega) _).set 0 (.int .i64 0)).row_other (by omega) _).cell 0
  have m6:Lies (((w5.setRow w.heap.size #[.int .i64 0,.slice none 0 0,.string ⟨#[]⟩,.int .i64 0,.string ⟨#[]⟩,.int .u8 0,.int .u8 0,.int .u8 0,.int .u8 0,.int .u8 0,.int .u8 0,.int .u8 0,.int .u8 0,.int .u8 0,.int .u8 0,.int .u8 0,.int .u8 0,.int .u8 0,.int .u8 0,.int .u8 0,.int .u8 0]).setCell ⟨w.heap.size+1,0,none⟩ (.int .i64 0)).setRow (w.heap.size+2) #[.int .i64 (er:Int),.int .i64 (p:Int)]) (w.heap.size+2) #[.int .i64 (er:Int),.int .i64 (p:Int)] 32:=((l6.row_other (by omega) _).set_other (a:=⟨w.heap.size+1,0,none⟩) (by show w.heap.size+2≠w.heap.size+1;omega) _).row _
  refine⟨_,results_ccc (p:=4) (q:=5) (r:=6) (by kernel_rfl) _ _ w.heap.size (w.heap.size+1) (w.heap.size+2) _ _ _ _ _ rfl rfl rfl m4 m6 (load_int _ _ _ m5) Tryz.underlying29 rfl infoPt Tryz.underlying32 rfl infoSp,_,rfl,rfl,?_⟩
  exact below_row ((below_row kb (Nat.le_refl _) _).setCell (p:=⟨w.heap.size+1,0,none⟩) (by show w.heap.size≤w.heap.size+1;omega) _) (by omega) _
 ·obtain⟨q1,sl,rfl,q2,q3⟩:=hc
  have hal:=pth_hlen HXE.out.symm
  obtain⟨P,hP⟩:∃P,P=pthC p.k sl p.l p.h:=⟨_,rfl⟩
  rw[←hP]
  have HPZ:Hid (P.size=21):=by show _=_;rw[hP];exact pthC_size _ _ _ _ hal
  have HPP:Hid (P=pthC p.k sl p.l p.h):=hP
  obtain⟨sa,sc,hsl⟩:=ownH_len q3
  have HPO:Hid (P.all (·.oneCell')=true):=by
   show _=_
   rw[hP,pth_box,Array.all_append,boxC_one,hsl]
   simp[Value.oneCell']
  have l4:Lies w5 w.heap.size #[.int .i64 0,.slice none 0 0,.string ⟨#[]⟩,.int .i64 0,.string ⟨#[]⟩,.int .u8 0,.int .u8 0,.int .u8 0,.int .u8 0,.int .u8 0,.int .u8 0,.int .u8 0,.int .u8 0,.int .u8 0,.int .u8 0,.int .u8 0,.int .u8 0,.int .u8 0,.int .u8 0,.int .u8 0,.int .u8 0] 29:=q1.lies HL4.out (by omega)
  have H4:Hid (Lies w5 w.heap.size #[.int .i64 0,.slice none 0 0,.string ⟨#[]⟩,.int .i64 0,.string ⟨#[]⟩,.int .u8 0,.int .u8 0,.int .u8 0,.int .u8 0,.int .u8 0,.int .u8 0,.int .u8 0,.int .u8 0,.int .u8 0,.int .u8 0,.int .u8 0,.int .u8 0,.int .u8 0,.int .u8 0,.int .u8 0,.int .u8 0] 29):=l4
  have HLP:Hid (Lies (w5.setRow w.heap.size P) w.heap.size P 29):=l4.row P
  have HLI:Hid (Lies (w5.setRow w.heap.size P) (w.heap.size+1) #[.int .i64 0] 3):=(q1.lies HL5.out (by omega)).row_other (by omega) P
  have HLS:Hid (Lies (w5.setRow w.heap.size P) (w.heap.size+2) #[.int .i64 0,.int .i64 0] 32):=(q1.lies HL6.out (by omega)).row_other (by omega) P
  have HRP:Hid (RdAt (w5.setRow w.heap.size P) (w.heap.size+3) s n wide 0 0):=⟨q2.lies.row_other (by omega) P⟩
  have hWs:=HW.out.size
  have HOW:Hid ((w5.setRow w.heap.size P).ownsRow w.heap.size 25 18 sl p.r.length (cellsH p.r)):=ownH_keep (ownH_base q3 hWs) (fun j hj=>setRow_other _ _ _ _ (own_ne q3 l4 (by decide) j hj))
  have HKB:Hid (Below w.heap.size w (w5.setRow w.heap.size P)):=below_row (HW.out.trans (q1.below (by omega) HW.out.size)) (Nat.le_refl _) P
  have c1:(w5.setRow w.heap.size P).drew.cell? ⟨w.heap.size+3,1,none⟩=some (.int .i64 (n:Int)):=HRP.out.drew.cells.2.1
  clear q1 q2 q3 hP hal l4 hsl HXE HL4 HL5 HL6 HR HTd HW
  go_upto_region 4 with(refine wpList_store_row rfl 29 _ _ rfl w.heap.size rfl #[.int .i64 0,.slice none 0 0,.string ⟨#[]⟩,.int .i64 0,.string ⟨#[]⟩,.int .u8 0,.int .u8 0,.int .u8 0,.int .u8 0,.int .u8 0,.int .u8 0,.int .u8 0,.int .u8 0,.int .u8 0,.int .u8 0,.int .u8 0,.int .u8 0,.int .u8 0,.int .u8 0,.int .u8 0,.int .u8 0] P rfl 29 H4.out (by rw[HPZ.out];exact infoPt) (by rw[HPZ.out];rfl) HPO.out rfl ?_)
  generalize w5.setRow w.heap.size P=w6 at HLP HLI HLS HRP HOW HKB c1 ⊢
  clear H4
  refine wp_noP9 ?_
  refine wp_region_late (fun wx=>Lies wx w.heap.size P 29∧wx.cell? ⟨w.heap.size+3,1,none⟩=some (.int .i64 (n:Int))) 7 (by kernel_rfl) ⟨HLP.out.drew,c1⟩ (fun hHeld=>?_)
  refine tk9 0 (some 13) (.agg P) ?_ (hy:=?hy)
  case hy=>(intro w' hSw;exact exec_load_row 29 _ rfl w.heap.size rfl P 29 _ hSw.1 Tryz.underlying29 rfl (by rw[HPZ.out];exact infoPt))
  simp only[Act.put,pA,pB,pC]
  refine tk9 1 (some 14) (.pointer (some ⟨w.heap.size+3,1,none⟩)) ?_
  simp only[Act.put,pA,pB,pC]
  refine tk9 2 (some 15) (.int .i64 (n:Int)) ?_
  simp only[Act.put,pA,pB,pC]
  refine tk9 3 (some 16) (.agg #[.int .i64 0,.int .i64 0]) ?_
  simp only[Act.put,pA,pB,pC]
  refine on9 4 ?_
  refine oper_store_row 29 _ _ rfl w.heap.size rfl P P rfl 29 HLP.out.drew (by rw[HPZ.out];exact infoPt) rfl HPO.out rfl ?_
  have s4:Lies (w6.drew.setRow w.heap.size P) w.heap.size P 29∧(w6.drew.setRow w.heap.size P).cell? ⟨w.heap.size+3,1,none⟩=some (.int .i64 (n:Int)):=⟨HLP.out.drew.row P,(HRP.out.drew.lies.row_other (show w.heap.size+3≠w.heap.size by omega) P).cell 1⟩
  refine⟨Or.inr s4,?_⟩
  have l5:Lies (w6.drew.setRow w.heap.size P) (w.heap.size+1) #[.int .i64 0] 3:=HLI.out.drew.row_other (by omega) P
  have i5:(w6.drew.setRow w.heap.size P).cell? ⟨w.heap.size+1,0,none⟩=some (.int .i64 0):=l5.cell 0
  have z5:=l5.frozen 0
  refine on9 5 ?_
  refine oper_skip (w':=(w6.drew.setRow w.heap.size P).setCell ⟨w.heap.size+1,0,none⟩ (.int .i64 (n:Int))) (by go_simp<;>(first|with_reducible rfl|omega|skip)) rfl ?_
  have s5:Lies ((w6.drew.setRow w.heap.size P).setCell ⟨w.heap.size+1,0,none⟩ (.int .i64 (n:Int))) w.heap.size P 29∧((w6.drew.setRow w.heap.size P).setCell ⟨w.heap.size+1,0,none⟩ (.int .i64 (n:Int))).cell? ⟨w.heap.size+3,1,none⟩=some (.int .i64 (n:Int)):=⟨s4.1.set_other (a:=⟨w.heap.size+1,0,none⟩) (by show w.heap.size≠w.heap.size+1;omega) _,((HRP.out.drew.lies.row_other (show w.heap.size+3≠w.heap.size by omega) P).set_other (a:=⟨w.heap.size+1,0,none⟩) (by show w.heap.size+3≠w.heap.size+1;omega) _).cell 1⟩
  refine⟨Or.inr s5,?_⟩
  have l6:Lies ((w6.drew.setRow w.heap.size P).setCell ⟨w.heap.size+1,0,none⟩ (.int .i64 (n:Int))) (w.heap.size+2) #[.int .i64 0,.int .i64 0] 32:=(HLS.out.drew.row_other (by omega) P).set_other (a:=⟨w.heap.size+1,0,none⟩) (by show w.heap.size+2≠w.heap.size+1;omega) _
  refine on9 6 ?_
  refine oper_store_row 32 _ _ rfl (w.heap.size+2) rfl #[.int .i64 0,.int .i64 0] #[.int .i64 0,.int .i64 0] rfl 32 l6 infoSp rfl (by simp[Value.oneCell']) rfl ?_
  refine⟨Or.inr ⟨s5.1.row_other (by omega) _,(((HRP.out.drew.lies.row_other (show w.heap.size+3≠w.heap.size by omega) P).set_other (a:=⟨w.heap.size+1,0,none⟩) (by show w.heap.size+3≠w.heap.size+1;omega) _).row_other (by omega) _).cell 1⟩,?_⟩
  refine wpAnyE_done (by kernel_rfl) ?_ _
  clear hHeld
  simp only[OnlyN9]
  go_wp2_with fail
  refine leaves_cons (f:=36) (args:=#[.pointer (some ⟨w.heap.size+3,0,none⟩),.pointer (some ⟨w.heap.size,0,none⟩),.pointer (some ⟨w.heap.size+1,0,none⟩),.pointer (some ⟨w.heap.size+2,0,none⟩)]) (by simp) (by simp[go_sem]) ?_
  refine(rev_idle _ _ _ _ _).mono ?_
  rintro e u' w7 ⟨rfl,rfl,rfl⟩
  refine⟨_,results_ccc (p:=4) (q:=5) (r:=6) (by kernel_rfl) _ _ w.heap.size (w.heap.size+1) (w.heap.size+2) P #[.int .i64 0,.int .i64 0] _ _ (.int .i64 (n:Int)) rfl rfl rfl (s5.1.row_other (by omega) _) (l6.row _) (load_int _ _ _ (((l5.set 0 (.int .i64 (n:Int))).row_other (by omega) _).cell 0)) Tryz.underlying29 rfl (by rw[HPZ.out];exact infoPt) Tryz.underlying32 rfl infoSp,_,rfl,⟨sl,by rw[HPP.out],?_⟩,?_⟩
  ·have e1:=ownH_keep HOW.out.drew (w':=w6.drew.setRow w.heap.size P) (fun j hj=>setRow_other _ _ _ _ (own_ne HOW.out HLP.out (by decide) j hj))
   have e2:=ownH_keep e1 (w':=(w6.drew.setRow w.heap.size P).setCell ⟨w.heap.size+1,0,none⟩ (.int .i64 (n:Int))) (fun j hj=>Below.heap_setCell _ _ _ _ (own_ne e1 l5 (by decide) j hj))
   exact ownH_keep e2 (fun j hj=>setRow_other _ _ _ _ (own_ne e2 l6 (by decide) j hj))
  ·exact below_row ((below_row HKB.out.drew (Nat.le_refl _) P).setCell (p:=⟨w.heap.size+1,0,none⟩) (by show w.heap.size≤w.heap.size+1;omega) _) (by omega) _
end Go.Proofs.YtfjpkfhbmldmfaaGreatDoor
