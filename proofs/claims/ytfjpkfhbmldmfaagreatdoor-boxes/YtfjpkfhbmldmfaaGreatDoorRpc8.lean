/-
  The document's Parse: addresses of the fourth kind.
-/
import Derived.Test.YtfjpkfhbmldmfaaGreatDoorRpa8
namespace Go.Proofs.YtfjpkfhbmldmfaaGreatDoor
open Go.RowKit
set_option maxHeartbeats 8000000 in
set_option maxRecDepth 100000 in
theorem rpa_four_no (s t:ByteArray) (wide:Bool) (w:World) (hem:s.toList.isEmpty=false) (h0n:0<s.size) (n91:((s[0].toNat:Int) != 91)=false) (h255':¬(255:Int)<(s.size:Int)) (hln:s.size - 1<s.size) (hn1:(s.size:Int) - 1<(s.size:Int)) (n93:((s[s.size - 1].toNat:Int) != 93)=false) (hn2:(1:Int)≤(s.size:Int) - 1) (htx:s.extract 1 (s.size - 1)=t) (V:Array Value) (er p:Nat) (hVz:V.size=4) (hVo:V.all (·.oneCell')=true) (h1:((er:Int) != 0)=true) (hp:p≤1000) (HS:Hid (∀wx,Below w.heap.size w wx→Calls Tryz.prog 98 #[.string t] wx fun e w'=>e=.returned (.bool false)∧Below wx.heap.size wx w')) (HC:Hid (∀wx,Below w.heap.size w wx→Calls Tryz.prog 125 #[.string t,.string ⟨#[58]⟩] wx fun e w'=>e=.returned (.bool false)∧Below wx.heap.size wx w')) (HV:Hid (∀wx,Below w.heap.size w wx→Calls Tryz.prog 126 #[.string t] wx fun e w'=>e=.returned (.tuple #[.agg V,.agg #[.int .i64 (er:Int),.int .i64 (p:Int)]])∧Below wx.heap.size wx w')):
  Calls Tryz.prog 92 #[.string s,.bool wide] w fun e w'=>e=.returned (.tuple #[hostV ho0,.agg (spotV (er,p+1))])∧Below w.heap.size w w':=by
 have L1:Hid (Lies ((w.alloc (.cells #[.int .i64 0,.string ⟨#[]⟩,.int .u8 0,.int .u8 0,.int .u8 0,.int .u8 0,.int .u8 0,.int .u8 0,.int .u8 0,.int .u8 0,.int .u8 0,.int .u8 0,.int .u8 0,.int .u8 0,.int .u8 0,.int .u8 0,.int .u8 0,.int .u8 0] 25)).alloc (.cells #[.int .i64 0,.int .i64 0] 32)) w.heap.size #[.int .i64 0,.string ⟨#[]⟩,.int .u8 0,.int .u8 0,.int .u8 0,.int .u8 0,.int .u8 0,.int .u8 0,.int .u8 0,.int .u8 0,.int .u8 0,.int .u8 0,.int .u8 0,.int .u8 0,.int .u8 0,.int .u8 0,.int .u8 0,.int .u8 0] 25):=(Lies.new w _ _).alloc _
 have L2:Hid (Lies ((w.alloc (.cells #[.int .i64 0,.string ⟨#[]⟩,.int .u8 0,.int .u8 0,.int .u8 0,.int .u8 0,.int .u8 0,.int .u8 0,.int .u8 0,.int .u8 0,.int .u8 0,.int .u8 0,.int .u8 0,.int .u8 0,.int .u8 0,.int .u8 0,.int .u8 0,.int .u8 0] 25)).alloc (.cells #[.int .i64 0,.int .i64 0] 32)) (w.heap.size+1) #[.int .i64 0,.int .i64 0] 32):=new_one w _ _ _
 have KB:Hid (Below w.heap.size w ((w.alloc (.cells #[.int .i64 0,.string ⟨#[]⟩,.int .u8 0,.int .u8 0,.int .u8 0,.int .u8 0,.int .u8 0,.int .u8 0,.int .u8 0,.int .u8 0,.int .u8 0,.int .u8 0,.int .u8 0,.int .u8 0,.int .u8 0,.int .u8 0,.int .u8 0,.int .u8 0] 25)).alloc (.cells #[.int .i64 0,.int .i64 0] 32))):=((Below.refl _ _).alloc (Nat.le_refl _) _).alloc (by simp) _
 go_enter Tryz.func92,Tryz.ntmps92
 go_upto_region 1 with fail
 generalize (w.alloc (.cells #[.int .i64 0,.string ⟨#[]⟩,.int .u8 0,.int .u8 0,.int .u8 0,.int .u8 0,.int .u8 0,.int .u8 0,.int .u8 0,.int .u8 0,.int .u8 0,.int .u8 0,.int .u8 0,.int .u8 0,.int .u8 0,.int .u8 0,.int .u8 0,.int .u8 0] 25)).alloc (.cells #[.int .i64 0,.int .i64 0] 32)=wA at L1 L2 KB ⊢
 have hzA:=L2.out.lt
 go_upto_region 11 with fail
 clear hem n91 h255' n93 hn2 htx
 go_wp2_with fail
 refine Calls.mono (HS.out _ KB.out) ?_
 rintro e y1 ⟨rfl,hc⟩
 have KB1:Hid (Below w.heap.size w y1):=KB.out.trans ((hc).mono KB.out.size)
 have L1n:Hid (Lies y1 w.heap.size #[.int .i64 0,.string ⟨#[]⟩,.int .u8 0,.int .u8 0,.int .u8 0,.int .u8 0,.int .u8 0,.int .u8 0,.int .u8 0,.int .u8 0,.int .u8 0,.int .u8 0,.int .u8 0,.int .u8 0,.int .u8 0,.int .u8 0,.int .u8 0,.int .u8 0] 25):=L1.out.below (hc) L1.out.lt
 clear L1
 have L1:=L1n
 clear L1n
 have L2n:Hid (Lies y1 (w.heap.size+1) #[.int .i64 0,.int .i64 0] 32):=L2.out.below (hc) L2.out.lt
 clear L2
 have L2:=L2n
 clear L2n
 clear KB
 clear hc
 go_wp2_with fail
 refine Calls.mono (HC.out _ KB1.out) ?_
 rintro e y2 ⟨rfl,hc⟩
 have KB2:Hid (Below w.heap.size w y2):=KB1.out.trans ((hc).mono KB1.out.size)
 have L1n:Hid (Lies y2 w.heap.size #[.int .i64 0,.string ⟨#[]⟩,.int .u8 0,.int .u8 0,.int .u8 0,.int .u8 0,.int .u8 0,.int .u8 0,.int .u8 0,.int .u8 0,.int .u8 0,.int .u8 0,.int .u8 0,.int .u8 0,.int .u8 0,.int .u8 0,.int .u8 0,.int .u8 0] 25):=L1.out.below (hc) L1.out.lt
 clear L1
 have L1:=L1n
 clear L1n
 have L2n:Hid (Lies y2 (w.heap.size+1) #[.int .i64 0,.int .i64 0] 32):=L2.out.below (hc) L2.out.lt
 clear L2
 have L2:=L2n
 clear L2n
 clear KB1
 clear hc
 go_wp2_with fail
 refine Calls.mono (HV.out _ KB2.out) ?_
 rintro e y3 ⟨rfl,hc⟩
 have KB3:Hid (Below w.heap.size w y3):=KB2.out.trans ((hc).mono KB2.out.size)
 have L1n:Hid (Lies y3 w.heap.size #[.int .i64 0,.string ⟨#[]⟩,.int .u8 0,.int .u8 0,.int .u8 0,.int .u8 0,.int .u8 0,.int .u8 0,.int .u8 0,.int .u8 0,.int .u8 0,.int .u8 0,.int .u8 0,.int .u8 0,.int .u8 0,.int .u8 0,.int .u8 0,.int .u8 0] 25):=L1.out.below (hc) L1.out.lt
 clear L1
 have L1:=L1n
 clear L1n
 have L2n:Hid (Lies y3 (w.heap.size+1) #[.int .i64 0,.int .i64 0] 32):=L2.out.below (hc) L2.out.lt
 clear L2
 have L2:=L2n
 clear L2n
 clear KB2
 clear hc
 have hgt:w.heap.size+1<y3.heap.size:=L2.out.lt
 have A:Hid (Lies ((y3.alloc (.cells #[.int .u8 0,.int .u8 0,.int .u8 0,.int .u8 0] 108)).alloc (.cells #[.int .i64 0,.int .i64 0] 32)) y3.heap.size #[.int .u8 0,.int .u8 0,.int .u8 0,.int .u8 0] 108):=(Lies.new y3 _ _).alloc _
 have B:Hid (Lies ((y3.alloc (.cells #[.int .u8 0,.int .u8 0,.int .u8 0,.int .u8 0] 108)).alloc (.cells #[.int .i64 0,.int .i64 0] 32)) (y3.heap.size+1) #[.int .i64 0,.int .i64 0] 32):=new_one y3 _ _ _
 have M1:Hid (Lies ((((y3.alloc (.cells #[.int .u8 0,.int .u8 0,.int .u8 0,.int .u8 0] 108)).alloc (.cells #[.int .i64 0,.int .i64 0] 32)).setRow y3.heap.size V).setRow (y3.heap.size+1) #[.int .i64 (er:Int),.int .i64 (p:Int)]) y3.heap.size V 108):=(A.out.row _).row_other (by omega) _
 have N1:Hid (Lies ((((y3.alloc (.cells #[.int .u8 0,.int .u8 0,.int .u8 0,.int .u8 0] 108)).alloc (.cells #[.int .i64 0,.int .i64 0] 32)).setRow y3.heap.size V).setRow (y3.heap.size+1) #[.int .i64 (er:Int),.int .i64 (p:Int)]) (y3.heap.size+1) #[.int .i64 (er:Int),.int .i64 (p:Int)] 32):=(B.out.row_other (by omega) _).row _
 have BB:Hid (Below y3.heap.size y3 ((((y3.alloc (.cells #[.int .u8 0,.int .u8 0,.int .u8 0,.int .u8 0] 108)).alloc (.cells #[.int .i64 0,.int .i64 0] 32)).setRow y3.heap.size V).setRow (y3.heap.size+1) #[.int .i64 (er:Int),.int .i64 (p:Int)])):=below_row (below_row (((Below.refl _ _).alloc (Nat.le_refl _) _).alloc (by simp) _) (Nat.le_refl _) _) (by omega) _
 have KB4:Hid (Below w.heap.size w ((((y3.alloc (.cells #[.int .u8 0,.int .u8 0,.int .u8 0,.int .u8 0] 108)).alloc (.cells #[.int .i64 0,.int .i64 0] 32)).setRow y3.heap.size V).setRow (y3.heap.size+1) #[.int .i64 (er:Int),.int .i64 (p:Int)])):=KB3.out.trans ((BB.out).mono KB3.out.size)
 have L1n:Hid (Lies ((((y3.alloc (.cells #[.int .u8 0,.int .u8 0,.int .u8 0,.int .u8 0] 108)).alloc (.cells #[.int .i64 0,.int .i64 0] 32)).setRow y3.heap.size V).setRow (y3.heap.size+1) #[.int .i64 (er:Int),.int .i64 (p:Int)]) w.heap.size #[.int .i64 0,.string ⟨#[]⟩,.int .u8 0,.int .u8 0,.int .u8 0,.int .u8 0,.int .u8 0,.int .u8 0,.int .u8 0,.int .u8 0,.int .u8 0,.int .u8 0,.int .u8 0,.int .u8 0,.int .u8 0,.int .u8 0,.int .u8 0,.int .u8 0] 25):=L1.out.below (BB.out) L1.out.lt
 clear L1
 have L1:=L1n
 clear L1n
 have L2n:Hid (Lies ((((y3.alloc (.cells #[.int .u8 0,.int .u8 0,.int .u8 0,.int .u8 0] 108)).alloc (.cells #[.int .i64 0,.int .i64 0] 32)).setRow y3.heap.size V).setRow (y3.heap.size+1) #[.int .i64 (er:Int),.int .i64 (p:Int)]) (w.heap.size+1) #[.int .i64 0,.int .i64 0] 32):=L2.out.below (BB.out) L2.out.lt
 clear L2
 have L2:=L2n
 clear L2n
 clear KB3
 go_upto_region 22 with(first|(refine wpList_store_row rfl 108 _ _ rfl y3.heap.size rfl _ V rfl 108 A.out (by rw[hVz];exact info4) (by rw[hVz];rfl) hVo rfl ?_)|(refine wpList_store_row rfl 32 _ _ rfl (y3.heap.size+1) rfl _ #[.int .i64 (er:Int),.int .i64 (p:Int)] rfl 32 (B.out.row_other (by omega) _) infoSp rfl (by simp[Value.oneCell']) rfl ?_))
 generalize hv:(((y3.alloc (.cells #[.int .u8 0,.int .u8 0,.int .u8 0,.int .u8 0] 108)).alloc (.cells #[.int .i64 0,.int .i64 0] 32)).setRow y3.heap.size V).setRow (y3.heap.size+1) #[.int .i64 (er:Int),.int .i64 (p:Int)]=v1 at M1 N1 KB4 L1 L2 ⊢
 clear hv A B BB
 generalize y3.heap.size=g at hgt M1 N1 ⊢
 have c0:=N1.out.cell 0
 simp at c0
 have c1:=N1.out.cell 1
 simp at c1
 clear HS HV HC
 go_upto_region 23 with fail
 have hS0:v1.drew.cell? ⟨g+1,0,none⟩=some (.int .i64 (er:Int))∧v1.drew.cell? ⟨g+1,1,none⟩=some (.int .i64 (p:Int)):=⟨c0,c1⟩
 refine wp_region_late (fun wx=>wx.cell? ⟨g+1,0,none⟩=some (.int .i64 (er:Int))∧wx.cell? ⟨g+1,1,none⟩=some (.int .i64 (p:Int))) 9 (by kernel_rfl) hS0 (fun hHeld=>?_)
 refine tk9 0 (some 93) (.agg #[.int .i64 0,.string ⟨#[]⟩,.int .u8 0,.int .u8 0,.int .u8 0,.int .u8 0,.int .u8 0,.int .u8 0,.int .u8 0,.int .u8 0,.int .u8 0,.int .u8 0,.int .u8 0,.int .u8 0,.int .u8 0,.int .u8 0,.int .u8 0,.int .u8 0]) ?_
 simp only[Act.put,pA,pB,pC]
 refine tk9 1 (some 94) (.pointer (some ⟨g+1,0,none⟩)) ?_
 simp only[Act.put,pA,pB,pC]
 refine tk9 2 (some 95) (.int .i64 (er:Int)) ?_
 simp only[Act.put,pA,pB,pC]
 refine tk9 3 (some 96) (.pointer (some ⟨g+1,1,none⟩)) ?_
 simp only[Act.put,pA,pB,pC]
 refine tk9 4 (some 97) (.int .i64 (p:Int)) ?_
 simp only[Act.put,pA,pB,pC]
 refine tk9 5 (some 98) (.int .i64 (p+1:Nat)) ?_ (hy:=?hy)
 case hy=>(intro w' hSw;(try dsimp only at hSw);go_simp<;>(first|with_reducible rfl|omega|(rw[IntKind.wrap_i64];omega)|skip))
 simp only[Act.put,pA,pB,pC]
 refine tk9 6 (some 99) (.agg #[.int .i64 (er:Int),.int .i64 (p+1:Nat)]) ?_
 simp only[Act.put,pA,pB,pC]
 have J1:Lies v1.drew w.heap.size #[.int .i64 0,.string ⟨#[]⟩,.int .u8 0,.int .u8 0,.int .u8 0,.int .u8 0,.int .u8 0,.int .u8 0,.int .u8 0,.int .u8 0,.int .u8 0,.int .u8 0,.int .u8 0,.int .u8 0,.int .u8 0,.int .u8 0,.int .u8 0,.int .u8 0] 25:=L1.out.drew
 have J2:Lies v1.drew (w.heap.size+1) #[.int .i64 0,.int .i64 0] 32:=L2.out.drew
 refine on9 7 ?_
 refine oper_store_row 25 _ _ rfl w.heap.size rfl #[.int .i64 0,.string ⟨#[]⟩,.int .u8 0,.int .u8 0,.int .u8 0,.int .u8 0,.int .u8 0,.int .u8 0,.int .u8 0,.int .u8 0,.int .u8 0,.int .u8 0,.int .u8 0,.int .u8 0,.int .u8 0,.int .u8 0,.int .u8 0,.int .u8 0] #[.int .i64 0,.string ⟨#[]⟩,.int .u8 0,.int .u8 0,.int .u8 0,.int .u8 0,.int .u8 0,.int .u8 0,.int .u8 0,.int .u8 0,.int .u8 0,.int .u8 0,.int .u8 0,.int .u8 0,.int .u8 0,.int .u8 0,.int .u8 0,.int .u8 0] rfl 25 J1 infoHo rfl (by simp[Value.oneCell']) rfl ?_
 refine⟨Or.inr ⟨(N1.out.drew.row_other (show g+1≠w.heap.size by omega) _).cell 0,(N1.out.drew.row_other (show g+1≠w.heap.size by omega) _).cell 1⟩,?_⟩
 refine on9 8 ?_
 refine oper_store_row 32 _ _ rfl (w.heap.size+1) rfl #[.int .i64 0,.int .i64 0] #[.int .i64 (er:Int),.int .i64 (p+1:Nat)] rfl 32 (J2.row_other (by omega) _) infoSp rfl (by simp[Value.oneCell']) rfl ?_
 refine⟨Or.inr ⟨((N1.out.drew.row_other (show g+1≠w.heap.size by omega) _).row_other (show g+1≠w.heap.size+1 by omega) _).cell 0,((N1.out.drew.row_other (show g+1≠w.heap.size by omega) _).row_other (show g+1≠w.heap.size+1 by omega) _).cell 1⟩,?_⟩
 refine wpAnyE_done (by kernel_rfl) ?_ _
 clear hHeld hS0
 go_wp2
 exact re_ret ho0 rfl (er,p+1) _ _ J1 J2 rfl rfl ⟨rfl,below_row (below_row KB4.out.drew (Nat.le_refl _) _) (by omega) _⟩
set_option maxHeartbeats 8000000 in
set_option maxRecDepth 100000 in
theorem rpa_four_ok (s t:ByteArray) (wide:Bool) (w:World) (hem:s.toList.isEmpty=false) (h0n:0<s.size) (n91:((s[0].toNat:Int) != 91)=false) (h255':¬(255:Int)<(s.size:Int)) (hln:s.size - 1<s.size) (hn1:(s.size:Int) - 1<(s.size:Int)) (n93:((s[s.size - 1].toNat:Int) != 93)=false) (hn2:(1:Int)≤(s.size:Int) - 1) (htx:s.extract 1 (s.size - 1)=t) (V:Array Value) (q0 q1 q2 q3:Nat) (HVV:Hid (V=#[.int .u8 (q0:Nat),.int .u8 (q1:Nat),.int .u8 (q2:Nat),.int .u8 (q3:Nat)])) (HS:Hid (∀wx,Below w.heap.size w wx→Calls Tryz.prog 98 #[.string t] wx fun e w'=>e=.returned (.bool false)∧Below wx.heap.size wx w')) (HC:Hid (∀wx,Below w.heap.size w wx→Calls Tryz.prog 125 #[.string t,.string ⟨#[58]⟩] wx fun e w'=>e=.returned (.bool false)∧Below wx.heap.size wx w')) (HV:Hid (∀wx,Below w.heap.size w wx→Calls Tryz.prog 126 #[.string t] wx fun e w'=>e=.returned (.tuple #[.agg V,.agg #[.int .i64 0,.int .i64 0]])∧Below wx.heap.size wx w')):
  Calls Tryz.prog 92 #[.string s,.bool wide] w fun e w'=>e=.returned (.tuple #[hostV (fourH [q0,q1,q2,q3]),.agg (spotV (0,0))])∧Below w.heap.size w w':=by
 have L1:Hid (Lies ((w.alloc (.cells #[.int .i64 0,.string ⟨#[]⟩,.int .u8 0,.int .u8 0,.int .u8 0,.int .u8 0,.int .u8 0,.int .u8 0,.int .u8 0,.int .u8 0,.int .u8 0,.int .u8 0,.int .u8 0,.int .u8 0,.int .u8 0,.int .u8 0,.int .u8 0,.int .u8 0] 25)).alloc (.cells #[.int .i64 0,.int .i64 0] 32)) w.heap.size #[.int .i64 0,.string ⟨#[]⟩,.int .u8 0,.int .u8 0,.int .u8 0,.int .u8 0,.int .u8 0,.int .u8 0,.int .u8 0,.int .u8 0,.int .u8 0,.int .u8 0,.int .u8 0,.int .u8 0,.int .u8 0,.int .u8 0,.int .u8 0,.int .u8 0] 25):=(Lies.new w _ _).alloc _
 have L2:Hid (Lies ((w.alloc (.cells #[.int .i64 0,.string ⟨#[]⟩,.int .u8 0,.int .u8 0,.int .u8 0,.int .u8 0,.int .u8 0,.int .u8 0,.int .u8 0,.int .u8 0,.int .u8 0,.int .u8 0,.int .u8 0,.int .u8 0,.int .u8 0,.int .u8 0,.int .u8 0,.int .u8 0] 25)).alloc (.cells #[.int .i64 0,.int .i64 0] 32)) (w.heap.size+1) #[.int .i64 0,.int .i64 0] 32):=new_one w _ _ _
 have KB:Hid (Below w.heap.size w ((w.alloc (.cells #[.int .i64 0,.string ⟨#[]⟩,.int .u8 0,.int .u8 0,.int .u8 0,.int .u8 0,.int .u8 0,.int .u8 0,.int .u8 0,.int .u8 0,.int .u8 0,.int .u8 0,.int .u8 0,.int .u8 0,.int .u8 0,.int .u8 0,.int .u8 0,.int .u8 0] 25)).alloc (.cells #[.int .i64 0,.int .i64 0] 32))):=((Below.refl _ _).alloc (Nat.le_refl _) _).alloc (by simp) _
 go_enter Tryz.func92,Tryz.ntmps92
 go_upto_region 1 with fail
 generalize (w.alloc (.cells #[.int .i64 0,.string ⟨#[]⟩,.int .u8 0,.int .u8 0,.int .u8 0,.int .u8 0,.int .u8 0,.int .u8 0,.int .u8 0,.int .u8 0,.int .u8 0,.int .u8 0,.int .u8 0,.int .u8 0,.int .u8 0,.int .u8 0,.int .u8 0,.int .u8 0] 25)).alloc (.cells #[.int .i64 0,.int .i64 0] 32)=wA at L1 L2 KB ⊢
 have hzA:=L2.out.lt
 go_upto_region 11 with fail
 clear hem n91 h255' n93 hn2 htx
 have hVz:V.size=4:=by rw[HVV.out];rfl
 have hVo:V.all (·.oneCell')=true:=by rw[HVV.out];simp[Value.oneCell']
 go_wp2_with fail
 refine Calls.mono (HS.out _ KB.out) ?_
 rintro e y1 ⟨rfl,hc⟩
 have KB1:Hid (Below w.heap.size w y1):=KB.out.trans ((hc).mono KB.out.size)
 have L1n:Hid (Lies y1 w.heap.size #[.int .i64 0,.string ⟨#[]⟩,.int .u8 0,.int .u8 0,.int .u8 0,.int .u8 0,.int .u8 0,.int .u8 0,.int .u8 0,.int .u8 0,.int .u8 0,.int .u8 0,.int .u8 0,.int .u8 0,.int .u8 0,.int .u8 0,.int .u8 0,.int .u8 0] 25):=L1.out.below (hc) L1.out.lt
 clear L1
 have L1:=L1n
 clear L1n
 have L2n:Hid (Lies y1 (w.heap.size+1) #[.int .i64 0,.int .i64 0] 32):=L2.out.below (hc) L2.out.lt
 clear L2
 have L2:=L2n
 clear L2n
 clear KB
 clear hc
 go_wp2_with fail
 refine Calls.mono (HC.out _ KB1.out) ?_
 rintro e y2 ⟨rfl,hc⟩
 have KB2:Hid (Below w.heap.size w y2):=KB1.out.trans ((hc).mono KB1.out.size)
 have L1n:Hid (Lies y2 w.heap.size #[.int .i64 0,.string ⟨#[]⟩,.int .u8 0,.int .u8 0,.int .u8 0,.int .u8 0,.int .u8 0,.int .u8 0,.int .u8 0,.int .u8 0,.int .u8 0,.int .u8 0,.int .u8 0,.int .u8 0,.int .u8 0,.int .u8 0,.int .u8 0,.int .u8 0] 25):=L1.out.below (hc) L1.out.lt
 clear L1
 have L1:=L1n
 clear L1n
 have L2n:Hid (Lies y2 (w.heap.size+1) #[.int .i64 0,.int .i64 0] 32):=L2.out.below (hc) L2.out.lt
 clear L2
 have L2:=L2n
 clear L2n
 clear KB1
 clear hc
 go_wp2_with fail
 refine Calls.mono (HV.out _ KB2.out) ?_
 rintro e y3 ⟨rfl,hc⟩
 have KB3:Hid (Below w.heap.size w y3):=KB2.out.trans ((hc).mono KB2.out.size)
 have L1n:Hid (Lies y3 w.heap.size #[.int .i64 0,.string ⟨#[]⟩,.int .u8 0,.int .u8 0,.int .u8 0,.int .u8 0,.int .u8 0,.int .u8 0,.int .u8 0,.int .u8 0,.int .u8 0,.int .u8 0,.int .u8 0,.int .u8 0,.int .u8 0,.int .u8 0,.int .u8 0,.int .u8 0] 25):=L1.out.below (hc) L1.out.lt
 clear L1
 have L1:=L1n
 clear L1n
 have L2n:Hid (Lies y3 (w.heap.size+1) #[.int .i64 0,.int .i64 0] 32):=L2.out.below (hc) L2.out.lt
 clear L2
 have L2:=L2n
 clear L2n
 clear KB2
 clear hc
 have hgt:w.heap.size+1<y3.heap.size:=L2.out.lt
 have A:Hid (Lies ((y3.alloc (.cells #[.int .u8 0,.int .u8 0,.int .u8 0,.int .u8 0] 108)).alloc (.cells #[.int .i64 0,.int .i64 0] 32)) y3.heap.size #[.int .u8 0,.int .u8 0,.int .u8 0,.int .u8 0] 108):=(Lies.new y3 _ _).alloc _
 have B:Hid (Lies ((y3.alloc (.cells #[.int .u8 0,.int .u8 0,.int .u8 0,.int .u8 0] 108)).alloc (.cells #[.int .i64 0,.int .i64 0] 32)) (y3.heap.size+1) #[.int .i64 0,.int .i64 0] 32):=new_one y3 _ _ _
 have M1:Hid (Lies ((((y3.alloc (.cells #[.int .u8 0,.int .u8 0,.int .u8 0,.int .u8 0] 108)).alloc (.cells #[.int .i64 0,.int .i64 0] 32)).setRow y3.heap.size V).setRow (y3.heap.size+1) #[.int .i64 0,.int .i64 0]) y3.heap.size V 108):=(A.out.row _).row_other (by omega) _
 have N1:Hid (Lies ((((y3.alloc (.cells #[.int .u8 0,.int .u8 0,.int .u8 0,.int .u8 0] 108)).alloc (.cells #[.int .i64 0,.int .i64 0] 32)).setRow y3.heap.size V).setRow (y3.heap.size+1) #[.int .i64 0,.int .i64 0]) (y3.heap.size+1) #[.int .i64 0,.int .i64 0] 32):=(B.out.row_other (by omega) _).row _
 have BB:Hid (Below y3.heap.size y3 ((((y3.alloc (.cells #[.int .u8 0,.int .u8 0,.int .u8 0,.int .u8 0] 108)).alloc (.cells #[.int .i64 0,.int .i64 0] 32)).setRow y3.heap.size V).setRow (y3.heap.size+1) #[.int .i64 0,.int .i64 0])):=below_row (below_row (((Below.refl _ _).alloc (Nat.le_refl _) _).alloc (by simp) _) (Nat.le_refl _) _) (by omega) _
 have KB4:Hid (Below w.heap.size w ((((y3.alloc (.cells #[.int .u8 0,.int .u8 0,.int .u8 0,.int .u8 0] 108)).alloc (.cells #[.int .i64 0,.int .i64 0] 32)).setRow y3.heap.size V).setRow (y3.heap.size+1) #[.int .i64 0,.int .i64 0])):=KB3.out.trans ((BB.out).mono KB3.out.size)
 have L1n:Hid (Lies ((((y3.alloc (.cells #[.int .u8 0,.int .u8 0,.int .u8 0,.int .u8 0] 108)).alloc (.cells #[.int .i64 0,.int .i64 0] 32)).setRow y3.heap.size V).setRow (y3.heap.size+1) #[.int .i64 0,.int .i64 0]) w.heap.size #[.int .i64 0,.string ⟨#[]⟩,.int .u8 0,.int .u8 0,.int .u8 0,.int .u8 0,.int .u8 0,.int .u8 0,.int .u8 0,.int .u8 0,.int .u8 0,.int .u8 0,.int .u8 0,.int .u8 0,.int .u8 0,.int .u8 0,.int .u8 0,.int .u8 0] 25):=L1.out.below (BB.out) L1.out.lt
 clear L1
 have L1:=L1n
 clear L1n
 have L2n:Hid (Lies ((((y3.alloc (.cells #[.int .u8 0,.int .u8 0,.int .u8 0,.int .u8 0] 108)).alloc (.cells #[.int .i64 0,.int .i64 0] 32)).setRow y3.heap.size V).setRow (y3.heap.size+1) #[.int .i64 0,.int .i64 0]) (w.heap.size+1) #[.int .i64 0,.int .i64 0] 32):=L2.out.below (BB.out) L2.out.lt
 clear L2
 have L2:=L2n
 clear L2n
 clear KB3
 go_upto_region 22 with(first|(refine wpList_store_row rfl 108 _ _ rfl y3.heap.size rfl _ V rfl 108 A.out (by rw[hVz];exact info4) (by rw[hVz];rfl) hVo rfl ?_)|(refine wpList_store_row rfl 32 _ _ rfl (y3.heap.size+1) rfl _ #[.int .i64 0,.int .i64 0] rfl 32 (B.out.row_other (by omega) _) infoSp rfl (by simp[Value.oneCell']) rfl ?_))
 generalize hv:(((y3.alloc (.cells #[.int .u8 0,.int .u8 0,.int .u8 0,.int .u8 0] 108)).alloc (.cells #[.int .i64 0,.int .i64 0] 32)).setRow y3.heap.size V).setRow (y3.heap.size+1) #[.int .i64 0,.int .i64 0]=v1 at M1 N1 KB4 L1 L2 ⊢
 clear hv A B BB
 generalize y3.heap.size=g at hgt M1 N1 ⊢
 have c0:=N1.out.cell 0
 simp at c0
 clear HS HV HC
 go_upto_region 24 with fail
 have hS0:Lies v1.drew g V 108∧Lies v1.drew (g+1) #[.int .i64 0,.int .i64 0] 32:=⟨M1.out.drew,N1.out.drew⟩
 refine wp_region_late (fun wx=>Lies wx g V 108∧Lies wx (g+1) #[.int .i64 0,.int .i64 0] 32) 13 (by kernel_rfl) hS0 (fun hHeld=>?_)
 refine tk9 0 (some 100) (.pointer (some ⟨g,0,none⟩)) ?_
 simp only[Act.put,pA,pB,pC]
 refine tk9 1 (some 101) (.int .u8 (q0:Nat)) ?_ (hy:=?hy)
 case hy=>(intro w' hSw;have ck:=(hSw.1.cell 0).trans (show V[0]?=some (.int .u8 (q0:Nat)) by rw[HVV.out];rfl);clear hSw;go_simp<;>(first|with_reducible rfl|omega|skip))
 simp only[Act.put,pA,pB,pC]
 refine tk9 2 (some 102) (.pointer (some ⟨g,1,none⟩)) ?_
 simp only[Act.put,pA,pB,pC]
 refine tk9 3 (some 103) (.int .u8 (q1:Nat)) ?_ (hy:=?hy)
 case hy=>(intro w' hSw;have ck:=(hSw.1.cell 1).trans (show V[1]?=some (.int .u8 (q1:Nat)) by rw[HVV.out];rfl);clear hSw;go_simp<;>(first|with_reducible rfl|omega|skip))
 simp only[Act.put,pA,pB,pC]
 refine tk9 4 (some 104) (.pointer (some ⟨g,2,none⟩)) ?_
 simp only[Act.put,pA,pB,pC]
 refine tk9 5 (some 105) (.int .u8 (q2:Nat)) ?_ (hy:=?hy)
 case hy=>(intro w' hSw;have ck:=(hSw.1.cell 2).trans (show V[2]?=some (.int .u8 (q2:Nat)) by rw[HVV.out];rfl);clear hSw;go_simp<;>(first|with_reducible rfl|omega|skip))
 simp only[Act.put,pA,pB,pC]
 refine tk9 6 (some 106) (.pointer (some ⟨g,3,none⟩)) ?_
 simp only[Act.put,pA,pB,pC]
 refine tk9 7 (some 107) (.int .u8 (q3:Nat)) ?_ (hy:=?hy)
 case hy=>(intro w' hSw;have ck:=(hSw.1.cell 3).trans (show V[3]?=some (.int .u8 (q3:Nat)) by rw[HVV.out];rfl);clear hSw;go_simp<;>(first|with_reducible rfl|omega|skip))
 simp only[Act.put,pA,pB,pC]
 refine tk9 8 (some 108) (.agg #[.int .u8 (q0:Nat),.int .u8 (q1:Nat),.int .u8 (q2:Nat),.int .u8 (q3:Nat),.int .u8 0,.int .u8 0,.int .u8 0,.int .u8 0,.int .u8 0,.int .u8 0,.int .u8 0,.int .u8 0,.int .u8 0,.int .u8 0,.int .u8 0,.int .u8 0]) ?_
 simp only[Act.put,pA,pB,pC]
 refine tk9 9 (some 109) (.agg #[.int .i64 2,.string ⟨#[]⟩,.int .u8 (q0:Nat),.int .u8 (q1:Nat),.int .u8 (q2:Nat),.int .u8 (q3:Nat),.int .u8 0,.int .u8 0,.int .u8 0,.int .u8 0,.int .u8 0,.int .u8 0,.int .u8 0,.int .u8 0,.int .u8 0,.int .u8 0,.int .u8 0,.int .u8 0]) ?_
 simp only[Act.put,pA,pB,pC]
 refine tk9 10 (some 110) (.agg #[.int .i64 0,.int .i64 0]) ?_ (hy:=?hy)
 case hy=>exact fun w' hSw=>exec_load_row 32 _ rfl (g+1) rfl #[.int .i64 0,.int .i64 0] 32 _ hSw.2 Tryz.underlying32 rfl infoSp
 simp only[Act.put,pA,pB,pC]
 have J1:Lies v1.drew w.heap.size #[.int .i64 0,.string ⟨#[]⟩,.int .u8 0,.int .u8 0,.int .u8 0,.int .u8 0,.int .u8 0,.int .u8 0,.int .u8 0,.int .u8 0,.int .u8 0,.int .u8 0,.int .u8 0,.int .u8 0,.int .u8 0,.int .u8 0,.int .u8 0,.int .u8 0] 25:=L1.out.drew
 have J2:Lies v1.drew (w.heap.size+1) #[.int .i64 0,.int .i64 0] 32:=L2.out.drew
 refine on9 11 ?_
 refine oper_store_row 25 _ _ rfl w.heap.size rfl #[.int .i64 0,.string ⟨#[]⟩,.int .u8 0,.int .u8 0,.int .u8 0,.int .u8 0,.int .u8 0,.int .u8 0,.int .u8 0,.int .u8 0,.int .u8 0,.int .u8 0,.int .u8 0,.int .u8 0,.int .u8 0,.int .u8 0,.int .u8 0,.int .u8 0] #[.int .i64 2,.string ⟨#[]⟩,.int .u8 (q0:Nat),.int .u8 (q1:Nat),.int .u8 (q2:Nat),.int .u8 (q3:Nat),.int .u8 0,.int .u8 0,.int .u8 0,.int .u8 0,.int .u8 0,.int .u8 0,.int .u8 0,.int .u8 0,.int .u8 0,.int .u8 0,.int .u8 0,.int .u8 0] rfl 25 J1 infoHo rfl (by simp[Value.oneCell']) rfl ?_
 refine⟨Or.inr ⟨(M1.out.drew.row_other (show g≠w.heap.size by omega) _),(N1.out.drew.row_other (show g+1≠w.heap.size by omega) _)⟩,?_⟩
 refine on9 12 ?_
 refine oper_store_row 32 _ _ rfl (w.heap.size+1) rfl #[.int .i64 0,.int .i64 0] #[.int .i64 0,.int .i64 0] rfl 32 (J2.row_other (by omega) _) infoSp rfl (by simp[Value.oneCell']) rfl ?_
 refine⟨Or.inr ⟨((M1.out.drew.row_other (show g≠w.heap.size by omega) _).row_other (show g≠w.heap.size+1 by omega) _),((N1.out.drew.row_other (show g+1≠w.heap.size by omega) _).row_other (show g+1≠w.heap.size+1 by omega) _)⟩,?_⟩
 refine wpAnyE_done (by kernel_rfl) ?_ _
 clear hHeld hS0
 go_wp2
 exact re_ret (fourH [q0,q1,q2,q3]) rfl (0,0) _ _ J1 J2 rfl rfl ⟨rfl,below_row (below_row KB4.out.drew (Nat.le_refl _) _) (by omega) _⟩
end Go.Proofs.YtfjpkfhbmldmfaaGreatDoor
