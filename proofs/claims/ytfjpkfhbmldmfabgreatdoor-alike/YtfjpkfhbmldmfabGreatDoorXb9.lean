/-
  A reader of paths: its cells; fail, next, need.
-/
import Derived.Test.YtfjpkfhbmldmfabGreatDoorXa9
import Derived.Test.YtfjpkfhbmldmfabGreatDoorWd8
import Derived.WalkSmall
import Derived.Test.YtfjpkfhbmldmfabGreatDoorLate5
import Derived.Deep.DeepCutAuto
namespace Go.Proofs.YtfjpkfhbmldmfabGreatDoor
open Go.RowKit
def rdC (s:ByteArray) (a:Nat) (wide:Bool) (er p:Nat):Array Value:=#[.string s,.int .i64 (a:Int),.bool wide,.int .i64 (er:Int),.int .i64 (p:Int)]
structure RdAt (w:World) (b:Nat) (s:ByteArray) (a:Nat) (wide:Bool) (er p:Nat):Prop where
 lies:Lies w b (rdC s a wide er p) 58
theorem RdAt.lt {w:World} {b:Nat} {s:ByteArray} {a:Nat} {wide:Bool} {er p:Nat} (h:RdAt w b s a wide er p):b<w.heap.size:=h.lies.lt
theorem RdAt.cells {w:World} {b:Nat} {s:ByteArray} {a:Nat} {wide:Bool} {er p:Nat} (h:RdAt w b s a wide er p):w.cell? ⟨b,0,none⟩=some (.string s)∧w.cell? ⟨b,1,none⟩=some (.int .i64 (a:Int))∧w.cell? ⟨b,2,none⟩=some (.bool wide)∧w.cell? ⟨b,3,none⟩=some (.int .i64 (er:Int))∧w.cell? ⟨b,4,none⟩=some (.int .i64 (p:Int)):=
 ⟨h.lies.cell 0,h.lies.cell 1,h.lies.cell 2,h.lies.cell 3,h.lies.cell 4⟩
theorem RdAt.below {w w':World} {b:Nat} {s:ByteArray} {a:Nat} {wide:Bool} {er p:Nat} (h:RdAt w b s a wide er p) (hb:Below w.heap.size w w'):RdAt w' b s a wide er p:=⟨h.lies.below hb h.lies.lt⟩
theorem RdAt.go {w:World} {b:Nat} {s:ByteArray} {a:Nat} {wide:Bool} {er p:Nat} (h:RdAt w b s a wide er p) (n:Nat):RdAt (w.setCell ⟨b,1,none⟩ (.int .i64 (n:Int))) b s n wide er p:=⟨h.lies.set 1 (.int .i64 (n:Int))⟩
theorem RdAt.fault {w:World} {b:Nat} {s:ByteArray} {a:Nat} {wide:Bool} {er p:Nat} (h:RdAt w b s a wide er p) (e q:Nat):RdAt ((w.setCell ⟨b,3,none⟩ (.int .i64 (e:Int))).setCell ⟨b,4,none⟩ (.int .i64 (q:Int))) b s a wide e q:=⟨(h.lies.set 3 (.int .i64 (e:Int))).set 4 (.int .i64 (q:Int))⟩
theorem RdAt.drew {w:World} {b:Nat} {s:ByteArray} {a:Nat} {wide:Bool} {er p:Nat} (h:RdAt w b s a wide er p):RdAt w.drew b s a wide er p:=⟨h.lies.drew⟩
theorem But.thenBelow {g:Nat} {a b c:World} (h:But g a b) (k:Below b.heap.size b c):But g a c:=
 ⟨k.os.trans h.os,k.tape.trans h.tape,k.output.trans h.output,Nat.le_trans h.size k.size,fun j hj hne=>(k.block j (Nat.lt_of_lt_of_le hj h.size)).trans (h.block j hj hne)⟩
theorem But.drew {g:Nat} {a b:World} (h:But g a b):But g a b.drew:=⟨h.os,h.tape,h.output,h.size,h.block⟩
def gaveUp (er:Nat):Ending:=.panicked [{v:=.iface 33 (.int .i64 (er:Int)),recovered:=false}]
def Come (b:Nat) (s:ByteArray) (wide:Bool) (w:World) (X:Except (Nat×Nat) (Value×Nat)) (e:Ending) (w':World):Prop:=
 But b w w'∧match X with
  | .ok (v,n)=>e=.returned v∧RdAt w' b s n wide 0 0
  | .error (er,p)=>e=gaveUp er∧∃a,RdAt w' b s a wide er p
set_option maxHeartbeats 2000000 in
theorem fail_any (b:Nat) (s:ByteArray) (a:Nat) (wide:Bool) (er p:Nat) (w:World) (h:RdAt w b s a wide 0 0):Calls Tryz.prog 31 #[.pointer (some ⟨b,0,none⟩),.int .i64 (er:Nat),.int .i64 (p:Nat)] w fun e w'=>e=gaveUp er∧RdAt w' b s a wide er p∧But b w w':=by
 obtain⟨c0,c1,c2,c3,c4⟩:=h.cells
 have f3:=h.lies.frozen 3
 have f4:=h.lies.frozen 4
 have HL:Hid (RdAt ((w.setCell ⟨b,3,none⟩ (.int .i64 (er:Int))).setCell ⟨b,4,none⟩ (.int .i64 (p:Int))) b s a wide er p):=h.fault er p
 have HB:Hid (But b w ((w.setCell ⟨b,3,none⟩ (.int .i64 (er:Int))).setCell ⟨b,4,none⟩ (.int .i64 (p:Int)))):=((But.refl b w).set _ _).set _ _
 clear h
 go_enter Tryz.func31,Tryz.ntmps31
 go_wp2
 exact⟨rfl,rfl,HL.out,HB.out⟩
def nxB (s:ByteArray) (a:Nat) (c:UInt8):Bool:=decide ((s.data.toList.drop a).head?=some c)
theorem nx_at (s:ByteArray) (a:Nat) (c:UInt8) (h:a<s.size):nxB s a c=decide (s[a]=c):=by
 unfold nxB
 rw[drop_at s a h,List.head?_cons]
 simp
theorem nx_past (s:ByteArray) (a:Nat) (c:UInt8) (h:s.size≤a):nxB s a c=false:=by
 unfold nxB
 rw[drop_past s a h]
 rfl
set_option maxHeartbeats 4000000 in
set_option maxRecDepth 20000 in
theorem next_any (b:Nat) (s:ByteArray) (a:Nat) (ha:a≤s.size) (_hs:s.size≤140737488355328) (wide:Bool) (er p:Nat) (c:UInt8) (w:World) (h:RdAt w b s a wide er p):Calls Tryz.prog 36 #[.pointer (some ⟨b,0,none⟩),.int .u8 (c.toNat:Int)] w fun e w'=>e=.returned (.bool (nxB s a c))∧w'=w.drew:=by
 obtain⟨c0,c1,c2,c3,c4⟩:=h.cells
 clear h
 by_cases hl:a<s.size
 ·have hl':(a:Int)<(s.size:Int):=by omega
  have hb:=(b_eq s[a] c (c.toNat:Int) rfl).1
  rw[nx_at s a c hl,←hb]
  clear hb
  go_enter Tryz.func36,Tryz.ntmps36
  go_upto_region 1 with fail
  refine wp_region_late (fun wx=>wx.cell? ⟨b,0,none⟩=some (.string s)∧wx.cell? ⟨b,1,none⟩=some (.int .i64 (a:Int))) 24 (by kernel_rfl) ⟨c0,c1⟩ (fun hHeld=>?_)
  refine tk9 0 (some 5) _ ?_
  simp only[Act.put,pA,pB,pC]
  refine tk9 1 (some 6) _ ?_
  simp only[Act.put,pA,pB,pC]
  refine tk9 2 (some 7) _ ?_
  simp only[Act.put,pA,pB,pC]
  refine tk9 3 (some 8) _ ?_
  simp only[Act.put,pA,pB,pC]
  refine tk9 4 (some 9) _ ?_
  simp only[Act.put,pA,pB,pC]
  refine tk9 5 (some 10) _ ?_
  simp only[Act.put,pA,pB,pC]
  refine tk9 6 (some 11) _ ?_
  simp only[Act.put,pA,pB,pC]
  refine tk9 7 (some 12) _ ?_
  simp only[Act.put,pA,pB,pC]
  refine tk9 8 (some 13) _ ?_
  simp only[Act.put,pA,pB,pC]
  refine tk9 9 (some 14) (.bool true) ?_
  simp only[Act.put,pA,pB,pC]
  refine tk9 10 (some 15) _ ?_
  simp only[Act.put,pA,pB,pC]
  refine tk9 11 (some 16) _ ?_
  simp only[Act.put,pA,pB,pC]
  refine tk9 12 (some 17) _ ?_
  simp only[Act.put,pA,pB,pC]
  refine tk9 13 (some 18) _ ?_
  simp only[Act.put,pA,pB,pC]
  refine tk9 14 (some 19) _ ?_
  simp only[Act.put,pA,pB,pC]
  refine tk9 15 (some 20) _ ?_
  simp only[Act.put,pA,pB,pC]
  refine tk9 16 (some 21) _ ?_
  simp only[Act.put,pA,pB,pC]
  refine tk9 17 (some 22) _ ?_
  simp only[Act.put,pA,pB,pC]
  refine tk9 18 (some 23) _ ?_
  simp only[Act.put,pA,pB,pC]
  refine tk9 19 (some 24) _ ?_
  simp only[Act.put,pA,pB,pC]
  refine tk9 20 (some 25) _ ?_
  simp only[Act.put,pA,pB,pC]
  refine tk9 21 (some 26) _ ?_
  simp only[Act.put,pA,pB,pC]
  refine tk9 22 (some 27) _ ?_
  simp only[Act.put,pA,pB,pC]
  refine tk9 23 (some 4) _ ?_
  simp only[Act.put,pA,pB,pC]
  refine wpAnyE_done (by kernel_rfl) ?_ _
  clear hHeld
  go_wp2_with fail
  go_ret
  exact⟨rfl,rfl⟩
 ·have hl':¬(a:Int)<(s.size:Int):=by omega
  rw[nx_past s a c (by omega)]
  go_enter Tryz.func36,Tryz.ntmps36
  go_upto_region 1 with fail
  refine wp_region_late (fun wx=>wx.cell? ⟨b,0,none⟩=some (.string s)∧wx.cell? ⟨b,1,none⟩=some (.int .i64 (a:Int))) 24 (by kernel_rfl) ⟨c0,c1⟩ (fun hHeld=>?_)
  refine tk9 0 (some 5) _ ?_
  simp only[Act.put,pA,pB,pC]
  refine tk9 1 (some 6) _ ?_
  simp only[Act.put,pA,pB,pC]
  refine tk9 2 (some 7) _ ?_
  simp only[Act.put,pA,pB,pC]
  refine tk9 3 (some 8) _ ?_
  simp only[Act.put,pA,pB,pC]
  refine tk9 4 (some 9) _ ?_
  simp only[Act.put,pA,pB,pC]
  refine tk9 5 (some 10) _ ?_
  simp only[Act.put,pA,pB,pC]
  refine tk9 6 (some 11) _ ?_
  simp only[Act.put,pA,pB,pC]
  refine tk9 7 (some 12) _ ?_
  simp only[Act.put,pA,pB,pC]
  refine tk9 8 (some 13) _ ?_
  simp only[Act.put,pA,pB,pC]
  refine tk9 9 (some 14) (.bool false) ?_
  simp only[Act.put,pA,pB,pC]
  refine tk9 10 (some 15) _ ?_
  simp only[Act.put,pA,pB,pC]
  refine wpAnyE_sk (i:=11) (d:=some 16) rfl (by kernel_rfl) (by kernel_rfl) (by kernel_rfl) rfl (fun _ _ _ h=>h) rfl rfl (by assumption) ?_
  simp only[Act.put,pA,pB,pC]
  refine wpAnyE_sk (i:=12) (d:=some 17) rfl (by kernel_rfl) (by kernel_rfl) (by kernel_rfl) rfl (fun _ _ _ h=>h) rfl rfl (by assumption) ?_
  simp only[Act.put,pA,pB,pC]
  refine wpAnyE_sk (i:=13) (d:=some 18) rfl (by kernel_rfl) (by kernel_rfl) (by kernel_rfl) rfl (fun _ _ _ h=>h) rfl rfl (by assumption) ?_
  simp only[Act.put,pA,pB,pC]
  refine wpAnyE_sk (i:=14) (d:=some 19) rfl (by kernel_rfl) (by kernel_rfl) (by kernel_rfl) rfl (fun _ _ _ h=>h) rfl rfl (by assumption) ?_
  simp only[Act.put,pA,pB,pC]
  refine wpAnyE_sk (i:=15) (d:=some 20) rfl (by kernel_rfl) (by kernel_rfl) (by kernel_rfl) rfl (fun _ _ _ h=>h) rfl rfl (by assumption) ?_
  simp only[Act.put,pA,pB,pC]
  refine wpAnyE_sk (i:=16) (d:=some 21) rfl (by kernel_rfl) (by kernel_rfl) (by kernel_rfl) rfl (fun _ _ _ h=>h) rfl rfl (by assumption) ?_
  simp only[Act.put,pA,pB,pC]
  refine wpAnyE_sk (i:=17) (d:=some 22) rfl (by kernel_rfl) (by kernel_rfl) (by kernel_rfl) rfl (fun _ _ _ h=>h) rfl rfl (by assumption) ?_
  simp only[Act.put,pA,pB,pC]
  refine wpAnyE_sk (i:=18) (d:=some 23) rfl (by kernel_rfl) (by kernel_rfl) (by kernel_rfl) rfl (fun _ _ _ h=>h) rfl rfl (by assumption) ?_
  simp only[Act.put,pA,pB,pC]
  refine wpAnyE_sk (i:=19) (d:=some 24) rfl (by kernel_rfl) (by kernel_rfl) (by kernel_rfl) rfl (fun _ _ _ h=>h) rfl rfl (by assumption) ?_
  simp only[Act.put,pA,pB,pC]
  refine wpAnyE_sk (i:=20) (d:=some 25) rfl (by kernel_rfl) (by kernel_rfl) (by kernel_rfl) rfl (fun _ _ _ h=>h) rfl rfl (by assumption) ?_
  simp only[Act.put,pA,pB,pC]
  refine wpAnyE_sk (i:=21) (d:=some 26) rfl (by kernel_rfl) (by kernel_rfl) (by kernel_rfl) rfl (fun _ _ _ h=>h) rfl rfl (by assumption) ?_
  simp only[Act.put,pA,pB,pC]
  refine tk9 22 (some 27) _ ?_
  simp only[Act.put,pA,pB,pC]
  refine tk9 23 (some 4) _ ?_
  simp only[Act.put,pA,pB,pC]
  refine wpAnyE_done (by kernel_rfl) ?_ _
  clear hHeld
  go_wp2_with fail
  go_ret
  exact⟨rfl,rfl⟩
set_option maxHeartbeats 4000000 in
set_option maxRecDepth 20000 in
theorem need_any (b:Nat) (s:ByteArray) (a:Nat) (ha:a≤s.size) (hs:s.size≤140737488355328) (wide:Bool) (c:UInt8) (w:World) (h:RdAt w b s a wide 0 0):Calls Tryz.prog 35 #[.pointer (some ⟨b,0,none⟩),.int .u8 (c.toNat:Int)] w (Come b s wide w (if nxB s a c=true then .ok (.tuple #[],a+1) else .error (93,a))):=by
 have HN:Hid (Calls Tryz.prog 36 #[.pointer (some ⟨b,0,none⟩),.int .u8 (c.toNat:Int)] w fun e w'=>e=.returned (.bool (nxB s a c))∧w'=w.drew):=next_any b s a ha hs wide 0 0 c w h
 have hlt:nxB s a c=true→a<s.size:=fun hx=>by
  rcases Nat.lt_or_ge a s.size with hl|hl
  ·exact hl
  ·rw[nx_past s a c hl]at hx
   cases hx
 generalize nxB s a c=x at HN hlt ⊢
 obtain⟨c0,c1,c2,c3,c4⟩:=h.drew.cells
 have f1:=h.drew.lies.frozen 1
 cases x
 ·have HF:Hid (Calls Tryz.prog 31 #[.pointer (some ⟨b,0,none⟩),.int .i64 93,.int .i64 (a:Nat)] w.drew fun e w'=>e=gaveUp 93∧RdAt w' b s a wide 93 a∧But b w.drew w'):=fail_any b s a wide 93 a w.drew h.drew
  clear h hlt
  go_enter Tryz.func35,Tryz.ntmps35
  go_wp2_with fail
  refine HN.out.mono ?_
  rintro e w1 ⟨rfl,rfl⟩
  clear HN
  go_wp2_with fail
  refine HF.out.mono ?_
  rintro e w1 ⟨rfl,h1,h2⟩
  exact⟨rfl,⟨h2.os,h2.tape,h2.output,h2.size,h2.block⟩,rfl,a,h1⟩
 ·have hl:=hlt rfl
  have HG:Hid (RdAt (w.drew.setCell ⟨b,1,none⟩ (.int .i64 ((a+1:Nat):Int))) b s (a+1) wide 0 0):=h.drew.go (a+1)
  have HB:Hid (But b w (w.drew.setCell ⟨b,1,none⟩ (.int .i64 ((a+1:Nat):Int)))):=(But.refl b w).drew.set _ _
  clear h hlt
  go_enter Tryz.func35,Tryz.ntmps35
  go_wp2_with fail
  refine HN.out.mono ?_
  rintro e w1 ⟨rfl,rfl⟩
  clear HN
  go_wp2_with fail
  go_end0
  exact⟨HB.out,rfl,HG.out⟩
end Go.Proofs.YtfjpkfhbmldmfabGreatDoor
