/-
  The document's Parse: domains, and literals that do not end.
-/
import Derived.Test.YtfjpkfhbmldmfaaGreatDoorRva8
import Derived.Test.YtfjpkfhbmldmfaaGreatDoorPa8
import Derived.Test.YtfjpkfhbmldmfaaGreatDoorRc8
namespace Go.Proofs.YtfjpkfhbmldmfaaGreatDoor
open Go.RowKit
theorem re_ret {w wr:World} (x:Ho) (hx:x.a.length=16) (e:Nat×Nat) (R:Ending→World→Prop) (tmps:Array Value) (h1:Lies wr w.heap.size #[.int .i64 0,.string ⟨#[]⟩,.int .u8 0,.int .u8 0,.int .u8 0,.int .u8 0,.int .u8 0,.int .u8 0,.int .u8 0,.int .u8 0,.int .u8 0,.int .u8 0,.int .u8 0,.int .u8 0,.int .u8 0,.int .u8 0,.int .u8 0,.int .u8 0] 25) (h2:Lies wr (w.heap.size+1) #[.int .i64 0,.int .i64 0] 32) (hp:tmps.getD 4 undef=.pointer (some ⟨w.heap.size,0,none⟩)) (hq:tmps.getD 5 undef=.pointer (some ⟨w.heap.size+1,0,none⟩))
  (hR:R (.returned (.tuple #[hostV x,.agg (spotV e)])) ((wr.setRow w.heap.size (hostC x)).setRow (w.heap.size+1) (spotV e))):bodyPost Tryz.prog Tryz.f92 R .ret {tmps:=tmps,defers:=[]} ((wr.setRow w.heap.size (hostC x)).setRow (w.heap.size+1) (spotV e)):=
 bodyPost_ret (ret_host (x:=x) (e:=e) (p:=4) (q:=5) (by kernel_rfl) rfl rfl rfl rfl tmps _ w.heap.size (w.heap.size+1) hx hp hq ((h1.row _).row_other (by omega) _) ((h2.row_other (by omega) _).row _)) rfl hR
set_option maxHeartbeats 8000000 in
set_option maxRecDepth 100000 in
theorem rpa_nil_no (s:ByteArray) (wide:Bool) (er p:Nat) (w:World) (hem:s.toList.isEmpty=true) (h1:((er:Int) != 0)=true)
  (HN:Hid (∀wx,Below w.heap.size w wx→Calls Tryz.prog 96 #[.string s,.bool wide] wx fun e w'=>e=.returned (.agg #[.int .i64 (er:Nat),.int .i64 (p:Nat)])∧Below wx.heap.size wx w')):
  Calls Tryz.prog 92 #[.string s,.bool wide] w fun e w'=>e=.returned (.tuple #[hostV ho0,.agg (spotV (er,p))])∧Below w.heap.size w w':=by
 have L1:Hid (Lies ((w.alloc (.cells #[.int .i64 0,.string ⟨#[]⟩,.int .u8 0,.int .u8 0,.int .u8 0,.int .u8 0,.int .u8 0,.int .u8 0,.int .u8 0,.int .u8 0,.int .u8 0,.int .u8 0,.int .u8 0,.int .u8 0,.int .u8 0,.int .u8 0,.int .u8 0,.int .u8 0] 25)).alloc (.cells #[.int .i64 0,.int .i64 0] 32)) w.heap.size #[.int .i64 0,.string ⟨#[]⟩,.int .u8 0,.int .u8 0,.int .u8 0,.int .u8 0,.int .u8 0,.int .u8 0,.int .u8 0,.int .u8 0,.int .u8 0,.int .u8 0,.int .u8 0,.int .u8 0,.int .u8 0,.int .u8 0,.int .u8 0,.int .u8 0] 25):=(Lies.new w _ _).alloc _
 have L2:Hid (Lies ((w.alloc (.cells #[.int .i64 0,.string ⟨#[]⟩,.int .u8 0,.int .u8 0,.int .u8 0,.int .u8 0,.int .u8 0,.int .u8 0,.int .u8 0,.int .u8 0,.int .u8 0,.int .u8 0,.int .u8 0,.int .u8 0,.int .u8 0,.int .u8 0,.int .u8 0,.int .u8 0] 25)).alloc (.cells #[.int .i64 0,.int .i64 0] 32)) (w.heap.size+1) #[.int .i64 0,.int .i64 0] 32):=new_one w _ _ _
 have KB:Hid (Below w.heap.size w ((w.alloc (.cells #[.int .i64 0,.string ⟨#[]⟩,.int .u8 0,.int .u8 0,.int .u8 0,.int .u8 0,.int .u8 0,.int .u8 0,.int .u8 0,.int .u8 0,.int .u8 0,.int .u8 0,.int .u8 0,.int .u8 0,.int .u8 0,.int .u8 0,.int .u8 0,.int .u8 0] 25)).alloc (.cells #[.int .i64 0,.int .i64 0] 32))):=((Below.refl _ _).alloc (Nat.le_refl _) _).alloc (by simp) _
 go_enter Tryz.func92,Tryz.ntmps92
 go_upto_region 1 with fail
 generalize (w.alloc (.cells #[.int .i64 0,.string ⟨#[]⟩,.int .u8 0,.int .u8 0,.int .u8 0,.int .u8 0,.int .u8 0,.int .u8 0,.int .u8 0,.int .u8 0,.int .u8 0,.int .u8 0,.int .u8 0,.int .u8 0,.int .u8 0,.int .u8 0,.int .u8 0,.int .u8 0] 25)).alloc (.cells #[.int .i64 0,.int .i64 0] 32)=wA at L1 L2 KB ⊢
 have hzA:=L2.out.lt
 go_wp2_with fail
 refine Calls.mono (HN.out _ KB.out) ?_
 rintro e w2 ⟨rfl,hc⟩
 have KB1:Hid (Below w.heap.size w w2):=KB.out.trans ((hc).mono KB.out.size)
 have L1n:Hid (Lies w2 w.heap.size #[.int .i64 0,.string ⟨#[]⟩,.int .u8 0,.int .u8 0,.int .u8 0,.int .u8 0,.int .u8 0,.int .u8 0,.int .u8 0,.int .u8 0,.int .u8 0,.int .u8 0,.int .u8 0,.int .u8 0,.int .u8 0,.int .u8 0,.int .u8 0,.int .u8 0] 25):=L1.out.below (hc) L1.out.lt
 clear L1
 have L1:=L1n
 clear L1n
 have L2n:Hid (Lies w2 (w.heap.size+1) #[.int .i64 0,.int .i64 0] 32):=L2.out.below (hc) L2.out.lt
 clear L2
 have L2:=L2n
 clear L2n
 clear KB
 clear hc
 have HZ2:Hid (w.heap.size+1<w2.heap.size):=L2.out.lt
 have KB9:Hid (Below w.heap.size w (w2.alloc (.cells #[.int .i64 (er:Nat),.int .i64 (p:Nat)] 32))):=KB1.out.alloc KB1.out.size _
 have L1n:Hid (Lies (w2.alloc (.cells #[.int .i64 (er:Nat),.int .i64 (p:Nat)] 32)) w.heap.size #[.int .i64 0,.string ⟨#[]⟩,.int .u8 0,.int .u8 0,.int .u8 0,.int .u8 0,.int .u8 0,.int .u8 0,.int .u8 0,.int .u8 0,.int .u8 0,.int .u8 0,.int .u8 0,.int .u8 0,.int .u8 0,.int .u8 0,.int .u8 0,.int .u8 0] 25):=L1.out.alloc _
 have L2n:Hid (Lies (w2.alloc (.cells #[.int .i64 (er:Nat),.int .i64 (p:Nat)] 32)) (w.heap.size+1) #[.int .i64 0,.int .i64 0] 32):=L2.out.alloc _
 have K3:Hid (Lies (w2.alloc (.cells #[.int .i64 (er:Nat),.int .i64 (p:Nat)] 32)) w2.heap.size #[.int .i64 (er:Nat),.int .i64 (p:Nat)] 32):=Lies.new w2 _ _
 clear L1 L2 KB1 HN
 have L1:=L1n
 have L2:=L2n
 clear L1n L2n
 go_upto_region 3 with fail
 generalize w2.alloc (.cells #[.int .i64 (er:Nat),.int .i64 (p:Nat)] 32)=w3 at L1 L2 K3 KB9 ⊢
 have hz2:=HZ2.out
 generalize w2.heap.size=g at hz2 K3 ⊢
 have hc1:=K3.out.cell 0
 have hc2:=K3.out.cell 1
 simp at hc1 hc2
 go_upto_region 4 with fail
 have hS0:w3.drew.cell? ⟨g,0,none⟩=some (.int .i64 (er:Int))∧w3.drew.cell? ⟨g,1,none⟩=some (.int .i64 (p:Int)):=⟨hc1,hc2⟩
 refine wp_region_late (fun wx=>wx.cell? ⟨g,0,none⟩=some (.int .i64 (er:Int))∧wx.cell? ⟨g,1,none⟩=some (.int .i64 (p:Int))) 4 (by kernel_rfl) hS0 (fun hHeld=>?_)
 refine tk9 0 (some 26) (.agg #[.int .i64 0,.string ⟨#[]⟩,.int .u8 0,.int .u8 0,.int .u8 0,.int .u8 0,.int .u8 0,.int .u8 0,.int .u8 0,.int .u8 0,.int .u8 0,.int .u8 0,.int .u8 0,.int .u8 0,.int .u8 0,.int .u8 0,.int .u8 0,.int .u8 0]) ?_
 simp only[Act.put,pA,pB,pC]
 refine tk9 1 (some 27) (.agg #[.int .i64 (er:Int),.int .i64 (p:Int)]) ?_
 simp only[Act.put,pA,pB,pC]
 have J1:Lies w3.drew w.heap.size #[.int .i64 0,.string ⟨#[]⟩,.int .u8 0,.int .u8 0,.int .u8 0,.int .u8 0,.int .u8 0,.int .u8 0,.int .u8 0,.int .u8 0,.int .u8 0,.int .u8 0,.int .u8 0,.int .u8 0,.int .u8 0,.int .u8 0,.int .u8 0,.int .u8 0] 25:=L1.out.drew
 have J2:Lies w3.drew (w.heap.size+1) #[.int .i64 0,.int .i64 0] 32:=L2.out.drew
 refine on9 2 ?_
 refine oper_store_row 25 _ _ rfl w.heap.size rfl #[.int .i64 0,.string ⟨#[]⟩,.int .u8 0,.int .u8 0,.int .u8 0,.int .u8 0,.int .u8 0,.int .u8 0,.int .u8 0,.int .u8 0,.int .u8 0,.int .u8 0,.int .u8 0,.int .u8 0,.int .u8 0,.int .u8 0,.int .u8 0,.int .u8 0] #[.int .i64 0,.string ⟨#[]⟩,.int .u8 0,.int .u8 0,.int .u8 0,.int .u8 0,.int .u8 0,.int .u8 0,.int .u8 0,.int .u8 0,.int .u8 0,.int .u8 0,.int .u8 0,.int .u8 0,.int .u8 0,.int .u8 0,.int .u8 0,.int .u8 0] rfl 25 J1 infoHo rfl (by simp[Value.oneCell']) rfl ?_
 refine⟨Or.inr ⟨(K3.out.drew.row_other (show g≠w.heap.size by omega) _).cell 0,(K3.out.drew.row_other (show g≠w.heap.size by omega) _).cell 1⟩,?_⟩
 refine on9 3 ?_
 refine oper_store_row 32 _ _ rfl (w.heap.size+1) rfl #[.int .i64 0,.int .i64 0] #[.int .i64 (er:Int),.int .i64 (p:Int)] rfl 32 (J2.row_other (by omega) _) infoSp rfl (by simp[Value.oneCell']) rfl ?_
 refine⟨Or.inr ⟨((K3.out.drew.row_other (show g≠w.heap.size by omega) _).row_other (show g≠w.heap.size+1 by omega) _).cell 0,((K3.out.drew.row_other (show g≠w.heap.size by omega) _).row_other (show g≠w.heap.size+1 by omega) _).cell 1⟩,?_⟩
 refine wpAnyE_done (by kernel_rfl) ?_ _
 clear hHeld hS0
 go_wp2
 exact re_ret ho0 rfl (er,p) _ _ J1 J2 rfl rfl ⟨rfl,below_row (below_row KB9.out.drew (Nat.le_refl _) _) (by omega) _⟩
set_option maxHeartbeats 8000000 in
set_option maxRecDepth 100000 in
theorem rpa_name_no (s:ByteArray) (wide:Bool) (er p:Nat) (w:World) (hem:s.toList.isEmpty=false) (h0n:0<s.size) (n91:((s[0].toNat:Int) != 91)=true) (h1:((er:Int) != 0)=true)
  (HN:Hid (∀wx,Below w.heap.size w wx→Calls Tryz.prog 96 #[.string s,.bool wide] wx fun e w'=>e=.returned (.agg #[.int .i64 (er:Nat),.int .i64 (p:Nat)])∧Below wx.heap.size wx w')):
  Calls Tryz.prog 92 #[.string s,.bool wide] w fun e w'=>e=.returned (.tuple #[hostV ho0,.agg (spotV (er,p))])∧Below w.heap.size w w':=by
 have L1:Hid (Lies ((w.alloc (.cells #[.int .i64 0,.string ⟨#[]⟩,.int .u8 0,.int .u8 0,.int .u8 0,.int .u8 0,.int .u8 0,.int .u8 0,.int .u8 0,.int .u8 0,.int .u8 0,.int .u8 0,.int .u8 0,.int .u8 0,.int .u8 0,.int .u8 0,.int .u8 0,.int .u8 0] 25)).alloc (.cells #[.int .i64 0,.int .i64 0] 32)) w.heap.size #[.int .i64 0,.string ⟨#[]⟩,.int .u8 0,.int .u8 0,.int .u8 0,.int .u8 0,.int .u8 0,.int .u8 0,.int .u8 0,.int .u8 0,.int .u8 0,.int .u8 0,.int .u8 0,.int .u8 0,.int .u8 0,.int .u8 0,.int .u8 0,.int .u8 0] 25):=(Lies.new w _ _).alloc _
 have L2:Hid (Lies ((w.alloc (.cells #[.int .i64 0,.string ⟨#[]⟩,.int .u8 0,.int .u8 0,.int .u8 0,.int .u8 0,.int .u8 0,.int .u8 0,.int .u8 0,.int .u8 0,.int .u8 0,.int .u8 0,.int .u8 0,.int .u8 0,.int .u8 0,.int .u8 0,.int .u8 0,.int .u8 0] 25)).alloc (.cells #[.int .i64 0,.int .i64 0] 32)) (w.heap.size+1) #[.int .i64 0,.int .i64 0] 32):=new_one w _ _ _
 have KB:Hid (Below w.heap.size w ((w.alloc (.cells #[.int .i64 0,.string ⟨#[]⟩,.int .u8 0,.int .u8 0,.int .u8 0,.int .u8 0,.int .u8 0,.int .u8 0,.int .u8 0,.int .u8 0,.int .u8 0,.int .u8 0,.int .u8 0,.int .u8 0,.int .u8 0,.int .u8 0,.int .u8 0,.int .u8 0] 25)).alloc (.cells #[.int .i64 0,.int .i64 0] 32))):=((Below.refl _ _).alloc (Nat.le_refl _) _).alloc (by simp) _
 go_enter Tryz.func92,Tryz.ntmps92
 go_upto_region 1 with fail
 generalize (w.alloc (.cells #[.int .i64 0,.string ⟨#[]⟩,.int .u8 0,.int .u8 0,.int .u8 0,.int .u8 0,.int .u8 0,.int .u8 0,.int .u8 0,.int .u8 0,.int .u8 0,.int .u8 0,.int .u8 0,.int .u8 0,.int .u8 0,.int .u8 0,.int .u8 0,.int .u8 0] 25)).alloc (.cells #[.int .i64 0,.int .i64 0] 32)=wA at L1 L2 KB ⊢
 have hzA:=L2.out.lt
 go_wp2_with fail
 refine Calls.mono (HN.out _ KB.out) ?_
 rintro e w2 ⟨rfl,hc⟩
 have KB1:Hid (Below w.heap.size w w2):=KB.out.trans ((hc).mono KB.out.size)
 have L1n:Hid (Lies w2 w.heap.size #[.int .i64 0,.string ⟨#[]⟩,.int .u8 0,.int .u8 0,.int .u8 0,.int .u8 0,.int .u8 0,.int .u8 0,.int .u8 0,.int .u8 0,.int .u8 0,.int .u8 0,.int .u8 0,.int .u8 0,.int .u8 0,.int .u8 0,.int .u8 0,.int .u8 0] 25):=L1.out.below (hc) L1.out.lt
 clear L1
 have L1:=L1n
 clear L1n
 have L2n:Hid (Lies w2 (w.heap.size+1) #[.int .i64 0,.int .i64 0] 32):=L2.out.below (hc) L2.out.lt
 clear L2
 have L2:=L2n
 clear L2n
 clear KB
 clear hc
 have HZ2:Hid (w.heap.size+1<w2.heap.size):=L2.out.lt
 have KB9:Hid (Below w.heap.size w (w2.alloc (.cells #[.int .i64 (er:Nat),.int .i64 (p:Nat)] 32))):=KB1.out.alloc KB1.out.size _
 have L1n:Hid (Lies (w2.alloc (.cells #[.int .i64 (er:Nat),.int .i64 (p:Nat)] 32)) w.heap.size #[.int .i64 0,.string ⟨#[]⟩,.int .u8 0,.int .u8 0,.int .u8 0,.int .u8 0,.int .u8 0,.int .u8 0,.int .u8 0,.int .u8 0,.int .u8 0,.int .u8 0,.int .u8 0,.int .u8 0,.int .u8 0,.int .u8 0,.int .u8 0,.int .u8 0] 25):=L1.out.alloc _
 have L2n:Hid (Lies (w2.alloc (.cells #[.int .i64 (er:Nat),.int .i64 (p:Nat)] 32)) (w.heap.size+1) #[.int .i64 0,.int .i64 0] 32):=L2.out.alloc _
 have K3:Hid (Lies (w2.alloc (.cells #[.int .i64 (er:Nat),.int .i64 (p:Nat)] 32)) w2.heap.size #[.int .i64 (er:Nat),.int .i64 (p:Nat)] 32):=Lies.new w2 _ _
 clear L1 L2 KB1 HN
 have L1:=L1n
 have L2:=L2n
 clear L1n L2n
 go_upto_region 3 with fail
 generalize w2.alloc (.cells #[.int .i64 (er:Nat),.int .i64 (p:Nat)] 32)=w3 at L1 L2 K3 KB9 ⊢
 have hz2:=HZ2.out
 generalize w2.heap.size=g at hz2 K3 ⊢
 have hc1:=K3.out.cell 0
 have hc2:=K3.out.cell 1
 simp at hc1 hc2
 go_upto_region 4 with fail
 have hS0:w3.drew.cell? ⟨g,0,none⟩=some (.int .i64 (er:Int))∧w3.drew.cell? ⟨g,1,none⟩=some (.int .i64 (p:Int)):=⟨hc1,hc2⟩
 refine wp_region_late (fun wx=>wx.cell? ⟨g,0,none⟩=some (.int .i64 (er:Int))∧wx.cell? ⟨g,1,none⟩=some (.int .i64 (p:Int))) 4 (by kernel_rfl) hS0 (fun hHeld=>?_)
 refine tk9 0 (some 26) (.agg #[.int .i64 0,.string ⟨#[]⟩,.int .u8 0,.int .u8 0,.int .u8 0,.int .u8 0,.int .u8 0,.int .u8 0,.int .u8 0,.int .u8 0,.int .u8 0,.int .u8 0,.int .u8 0,.int .u8 0,.int .u8 0,.int .u8 0,.int .u8 0,.int .u8 0]) ?_
 simp only[Act.put,pA,pB,pC]
 refine tk9 1 (some 27) (.agg #[.int .i64 (er:Int),.int .i64 (p:Int)]) ?_
 simp only[Act.put,pA,pB,pC]
 have J1:Lies w3.drew w.heap.size #[.int .i64 0,.string ⟨#[]⟩,.int .u8 0,.int .u8 0,.int .u8 0,.int .u8 0,.int .u8 0,.int .u8 0,.int .u8 0,.int .u8 0,.int .u8 0,.int .u8 0,.int .u8 0,.int .u8 0,.int .u8 0,.int .u8 0,.int .u8 0,.int .u8 0] 25:=L1.out.drew
 have J2:Lies w3.drew (w.heap.size+1) #[.int .i64 0,.int .i64 0] 32:=L2.out.drew
 refine on9 2 ?_
 refine oper_store_row 25 _ _ rfl w.heap.size rfl #[.int .i64 0,.string ⟨#[]⟩,.int .u8 0,.int .u8 0,.int .u8 0,.int .u8 0,.int .u8 0,.int .u8 0,.int .u8 0,.int .u8 0,.int .u8 0,.int .u8 0,.int .u8 0,.int .u8 0,.int .u8 0,.int .u8 0,.int .u8 0,.int .u8 0] #[.int .i64 0,.string ⟨#[]⟩,.int .u8 0,.int .u8 0,.int .u8 0,.int .u8 0,.int .u8 0,.int .u8 0,.int .u8 0,.int .u8 0,.int .u8 0,.int .u8 0,.int .u8 0,.int .u8 0,.int .u8 0,.int .u8 0,.int .u8 0,.int .u8 0] rfl 25 J1 infoHo rfl (by simp[Value.oneCell']) rfl ?_
 refine⟨Or.inr ⟨(K3.out.drew.row_other (show g≠w.heap.size by omega) _).cell 0,(K3.out.drew.row_other (show g≠w.heap.size by omega) _).cell 1⟩,?_⟩
 refine on9 3 ?_
 refine oper_store_row 32 _ _ rfl (w.heap.size+1) rfl #[.int .i64 0,.int .i64 0] #[.int .i64 (er:Int),.int .i64 (p:Int)] rfl 32 (J2.row_other (by omega) _) infoSp rfl (by simp[Value.oneCell']) rfl ?_
 refine⟨Or.inr ⟨((K3.out.drew.row_other (show g≠w.heap.size by omega) _).row_other (show g≠w.heap.size+1 by omega) _).cell 0,((K3.out.drew.row_other (show g≠w.heap.size by omega) _).row_other (show g≠w.heap.size+1 by omega) _).cell 1⟩,?_⟩
 refine wpAnyE_done (by kernel_rfl) ?_ _
 clear hHeld hS0
 go_wp2
 exact re_ret ho0 rfl (er,p) _ _ J1 J2 rfl rfl ⟨rfl,below_row (below_row KB9.out.drew (Nat.le_refl _) _) (by omega) _⟩
set_option maxHeartbeats 8000000 in
set_option maxRecDepth 100000 in
theorem rpa_name_ok (s:ByteArray) (wide:Bool) (er p:Nat) (w:World) (hem:s.toList.isEmpty=false) (h0n:0<s.size) (n91:((s[0].toNat:Int) != 91)=true) (h1:((er:Int) != 0)=false) (hep:Hid (er=0∧p=0))
  (HN:Hid (∀wx,Below w.heap.size w wx→Calls Tryz.prog 96 #[.string s,.bool wide] wx fun e w'=>e=.returned (.agg #[.int .i64 (er:Nat),.int .i64 (p:Nat)])∧Below wx.heap.size wx w')):
  Calls Tryz.prog 92 #[.string s,.bool wide] w fun e w'=>e=.returned (.tuple #[hostV ⟨1,s.data.toList,z16⟩,.agg (spotV (0,0))])∧Below w.heap.size w w':=by
 have L1:Hid (Lies ((w.alloc (.cells #[.int .i64 0,.string ⟨#[]⟩,.int .u8 0,.int .u8 0,.int .u8 0,.int .u8 0,.int .u8 0,.int .u8 0,.int .u8 0,.int .u8 0,.int .u8 0,.int .u8 0,.int .u8 0,.int .u8 0,.int .u8 0,.int .u8 0,.int .u8 0,.int .u8 0] 25)).alloc (.cells #[.int .i64 0,.int .i64 0] 32)) w.heap.size #[.int .i64 0,.string ⟨#[]⟩,.int .u8 0,.int .u8 0,.int .u8 0,.int .u8 0,.int .u8 0,.int .u8 0,.int .u8 0,.int .u8 0,.int .u8 0,.int .u8 0,.int .u8 0,.int .u8 0,.int .u8 0,.int .u8 0,.int .u8 0,.int .u8 0] 25):=(Lies.new w _ _).alloc _
 have L2:Hid (Lies ((w.alloc (.cells #[.int .i64 0,.string ⟨#[]⟩,.int .u8 0,.int .u8 0,.int .u8 0,.int .u8 0,.int .u8 0,.int .u8 0,.int .u8 0,.int .u8 0,.int .u8 0,.int .u8 0,.int .u8 0,.int .u8 0,.int .u8 0,.int .u8 0,.int .u8 0,.int .u8 0] 25)).alloc (.cells #[.int .i64 0,.int .i64 0] 32)) (w.heap.size+1) #[.int .i64 0,.int .i64 0] 32):=new_one w _ _ _
 have KB:Hid (Below w.heap.size w ((w.alloc (.cells #[.int .i64 0,.string ⟨#[]⟩,.int .u8 0,.int .u8 0,.int .u8 0,.int .u8 0,.int .u8 0,.int .u8 0,.int .u8 0,.int .u8 0,.int .u8 0,.int .u8 0,.int .u8 0,.int .u8 0,.int .u8 0,.int .u8 0,.int .u8 0,.int .u8 0] 25)).alloc (.cells #[.int .i64 0,.int .i64 0] 32))):=((Below.refl _ _).alloc (Nat.le_refl _) _).alloc (by simp) _
 go_enter Tryz.func92,Tryz.ntmps92
 go_upto_region 1 with fail
 generalize (w.alloc (.cells #[.int .i64 0,.string ⟨#[]⟩,.int .u8 0,.int .u8 0,.int .u8 0,.int .u8 0,.int .u8 0,.int .u8 0,.int .u8 0,.int .u8 0,.int .u8 0,.int .u8 0,.int .u8 0,.int .u8 0,.int .u8 0,.int .u8 0,.int .u8 0,.int .u8 0] 25)).alloc (.cells #[.int .i64 0,.int .i64 0] 32)=wA at L1 L2 KB ⊢
 have hzA:=L2.out.lt
 go_wp2_with fail
 refine Calls.mono (HN.out _ KB.out) ?_
 rintro e w2 ⟨rfl,hc⟩
 have KB1:Hid (Below w.heap.size w w2):=KB.out.trans ((hc).mono KB.out.size)
 have L1n:Hid (Lies w2 w.heap.size #[.int .i64 0,.string ⟨#[]⟩,.int .u8 0,.int .u8 0,.int .u8 0,.int .u8 0,.int .u8 0,.int .u8 0,.int .u8 0,.int .u8 0,.int .u8 0,.int .u8 0,.int .u8 0,.int .u8 0,.int .u8 0,.int .u8 0,.int .u8 0,.int .u8 0] 25):=L1.out.below (hc) L1.out.lt
 clear L1
 have L1:=L1n
 clear L1n
 have L2n:Hid (Lies w2 (w.heap.size+1) #[.int .i64 0,.int .i64 0] 32):=L2.out.below (hc) L2.out.lt
 clear L2
 have L2:=L2n
 clear L2n
 clear KB
 clear hc
 have HZ2:Hid (w.heap.size+1<w2.heap.size):=L2.out.lt
 have KB9:Hid (Below w.heap.size w (w2.alloc (.cells #[.int .i64 (er:Nat),.int .i64 (p:Nat)] 32))):=KB1.out.alloc KB1.out.size _
 have L1n:Hid (Lies (w2.alloc (.cells #[.int .i64 (er:Nat),.int .i64 (p:Nat)] 32)) w.heap.size #[.int .i64 0,.string ⟨#[]⟩,.int .u8 0,.int .u8 0,.int .u8 0,.int .u8 0,.int .u8 0,.int .u8 0,.int .u8 0,.int .u8 0,.int .u8 0,.int .u8 0,.int .u8 0,.int .u8 0,.int .u8 0,.int .u8 0,.int .u8 0,.int .u8 0] 25):=L1.out.alloc _
 have L2n:Hid (Lies (w2.alloc (.cells #[.int .i64 (er:Nat),.int .i64 (p:Nat)] 32)) (w.heap.size+1) #[.int .i64 0,.int .i64 0] 32):=L2.out.alloc _
 have K3:Hid (Lies (w2.alloc (.cells #[.int .i64 (er:Nat),.int .i64 (p:Nat)] 32)) w2.heap.size #[.int .i64 (er:Nat),.int .i64 (p:Nat)] 32):=Lies.new w2 _ _
 clear L1 L2 KB1 HN
 have L1:=L1n
 have L2:=L2n
 clear L1n L2n
 go_upto_region 3 with fail
 generalize w2.alloc (.cells #[.int .i64 (er:Nat),.int .i64 (p:Nat)] 32)=w3 at L1 L2 K3 KB9 ⊢
 have hz2:=HZ2.out
 generalize w2.heap.size=g at hz2 K3 ⊢
 have hc1:=K3.out.cell 0
 have hc2:=K3.out.cell 1
 simp at hc1 hc2
 go_upto_region 5 with fail
 have hS0:w3.drew.cell? ⟨g,0,none⟩=some (.int .i64 (er:Int))∧w3.drew.cell? ⟨g,1,none⟩=some (.int .i64 (p:Int)):=⟨hc1,hc2⟩
 refine wp_region_late (fun wx=>wx.cell? ⟨g,0,none⟩=some (.int .i64 (er:Int))∧wx.cell? ⟨g,1,none⟩=some (.int .i64 (p:Int))) 5 (by kernel_rfl) hS0 (fun hHeld=>?_)
 refine tk9 0 (some 28) (.string s) ?_
 simp only[Act.put,pA,pB,pC]
 refine tk9 1 (some 29) (.agg #[.int .i64 1,.string s,.int .u8 0,.int .u8 0,.int .u8 0,.int .u8 0,.int .u8 0,.int .u8 0,.int .u8 0,.int .u8 0,.int .u8 0,.int .u8 0,.int .u8 0,.int .u8 0,.int .u8 0,.int .u8 0,.int .u8 0,.int .u8 0]) ?_
 simp only[Act.put,pA,pB,pC]
 refine tk9 2 (some 30) (.agg #[.int .i64 (er:Int),.int .i64 (p:Int)]) ?_
 simp only[Act.put,pA,pB,pC]
 have J1:Lies w3.drew w.heap.size #[.int .i64 0,.string ⟨#[]⟩,.int .u8 0,.int .u8 0,.int .u8 0,.int .u8 0,.int .u8 0,.int .u8 0,.int .u8 0,.int .u8 0,.int .u8 0,.int .u8 0,.int .u8 0,.int .u8 0,.int .u8 0,.int .u8 0,.int .u8 0,.int .u8 0] 25:=L1.out.drew
 have J2:Lies w3.drew (w.heap.size+1) #[.int .i64 0,.int .i64 0] 32:=L2.out.drew
 refine on9 3 ?_
 refine oper_store_row 25 _ _ rfl w.heap.size rfl #[.int .i64 0,.string ⟨#[]⟩,.int .u8 0,.int .u8 0,.int .u8 0,.int .u8 0,.int .u8 0,.int .u8 0,.int .u8 0,.int .u8 0,.int .u8 0,.int .u8 0,.int .u8 0,.int .u8 0,.int .u8 0,.int .u8 0,.int .u8 0,.int .u8 0] #[.int .i64 1,.string s,.int .u8 0,.int .u8 0,.int .u8 0,.int .u8 0,.int .u8 0,.int .u8 0,.int .u8 0,.int .u8 0,.int .u8 0,.int .u8 0,.int .u8 0,.int .u8 0,.int .u8 0,.int .u8 0,.int .u8 0,.int .u8 0] rfl 25 J1 infoHo rfl (by simp[Value.oneCell']) rfl ?_
 refine⟨Or.inr ⟨(K3.out.drew.row_other (show g≠w.heap.size by omega) _).cell 0,(K3.out.drew.row_other (show g≠w.heap.size by omega) _).cell 1⟩,?_⟩
 refine on9 4 ?_
 refine oper_store_row 32 _ _ rfl (w.heap.size+1) rfl #[.int .i64 0,.int .i64 0] #[.int .i64 (er:Int),.int .i64 (p:Int)] rfl 32 (J2.row_other (by omega) _) infoSp rfl (by simp[Value.oneCell']) rfl ?_
 refine⟨Or.inr ⟨((K3.out.drew.row_other (show g≠w.heap.size by omega) _).row_other (show g≠w.heap.size+1 by omega) _).cell 0,((K3.out.drew.row_other (show g≠w.heap.size by omega) _).row_other (show g≠w.heap.size+1 by omega) _).cell 1⟩,?_⟩
 refine wpAnyE_done (by kernel_rfl) ?_ _
 clear hHeld hS0
 go_wp2
 obtain⟨rfl,rfl⟩:=hep.out
 have he:hostC ⟨1,s.data.toList,z16⟩=#[.int .i64 1,.string s,.int .u8 0,.int .u8 0,.int .u8 0,.int .u8 0,.int .u8 0,.int .u8 0,.int .u8 0,.int .u8 0,.int .u8 0,.int .u8 0,.int .u8 0,.int .u8 0,.int .u8 0,.int .u8 0,.int .u8 0,.int .u8 0]:=by
  have:=host_name s
  injection this
 rw[←he]
 exact re_ret ⟨1,s.data.toList,z16⟩ rfl (0,0) _ _ J1 J2 rfl rfl ⟨rfl,below_row (below_row KB9.out.drew (Nat.le_refl _) _) (by omega) _⟩
set_option maxHeartbeats 8000000 in
set_option maxRecDepth 100000 in
theorem rpa_long (s:ByteArray) (wide:Bool) (w:World) (hem:s.toList.isEmpty=false) (h0n:0<s.size) (n91:((s[0].toNat:Int) != 91)=false) (h255':(255:Int)<(s.size:Int)):
  Calls Tryz.prog 92 #[.string s,.bool wide] w fun e w'=>e=.returned (.tuple #[hostV ho0,.agg (spotV (82,255))])∧Below w.heap.size w w':=by
 have L1:Hid (Lies ((w.alloc (.cells #[.int .i64 0,.string ⟨#[]⟩,.int .u8 0,.int .u8 0,.int .u8 0,.int .u8 0,.int .u8 0,.int .u8 0,.int .u8 0,.int .u8 0,.int .u8 0,.int .u8 0,.int .u8 0,.int .u8 0,.int .u8 0,.int .u8 0,.int .u8 0,.int .u8 0] 25)).alloc (.cells #[.int .i64 0,.int .i64 0] 32)) w.heap.size #[.int .i64 0,.string ⟨#[]⟩,.int .u8 0,.int .u8 0,.int .u8 0,.int .u8 0,.int .u8 0,.int .u8 0,.int .u8 0,.int .u8 0,.int .u8 0,.int .u8 0,.int .u8 0,.int .u8 0,.int .u8 0,.int .u8 0,.int .u8 0,.int .u8 0] 25):=(Lies.new w _ _).alloc _
 have L2:Hid (Lies ((w.alloc (.cells #[.int .i64 0,.string ⟨#[]⟩,.int .u8 0,.int .u8 0,.int .u8 0,.int .u8 0,.int .u8 0,.int .u8 0,.int .u8 0,.int .u8 0,.int .u8 0,.int .u8 0,.int .u8 0,.int .u8 0,.int .u8 0,.int .u8 0,.int .u8 0,.int .u8 0] 25)).alloc (.cells #[.int .i64 0,.int .i64 0] 32)) (w.heap.size+1) #[.int .i64 0,.int .i64 0] 32):=new_one w _ _ _
 have KB:Hid (Below w.heap.size w ((w.alloc (.cells #[.int .i64 0,.string ⟨#[]⟩,.int .u8 0,.int .u8 0,.int .u8 0,.int .u8 0,.int .u8 0,.int .u8 0,.int .u8 0,.int .u8 0,.int .u8 0,.int .u8 0,.int .u8 0,.int .u8 0,.int .u8 0,.int .u8 0,.int .u8 0,.int .u8 0] 25)).alloc (.cells #[.int .i64 0,.int .i64 0] 32))):=((Below.refl _ _).alloc (Nat.le_refl _) _).alloc (by simp) _
 go_enter Tryz.func92,Tryz.ntmps92
 go_upto_region 1 with fail
 generalize (w.alloc (.cells #[.int .i64 0,.string ⟨#[]⟩,.int .u8 0,.int .u8 0,.int .u8 0,.int .u8 0,.int .u8 0,.int .u8 0,.int .u8 0,.int .u8 0,.int .u8 0,.int .u8 0,.int .u8 0,.int .u8 0,.int .u8 0,.int .u8 0,.int .u8 0,.int .u8 0] 25)).alloc (.cells #[.int .i64 0,.int .i64 0] 32)=wA at L1 L2 KB ⊢
 have hzA:=L2.out.lt
 go_wp2_with (first|(refine wpList_store_row rfl 25 _ _ rfl w.heap.size rfl _ #[.int .i64 0,.string ⟨#[]⟩,.int .u8 0,.int .u8 0,.int .u8 0,.int .u8 0,.int .u8 0,.int .u8 0,.int .u8 0,.int .u8 0,.int .u8 0,.int .u8 0,.int .u8 0,.int .u8 0,.int .u8 0,.int .u8 0,.int .u8 0,.int .u8 0] rfl 25 L1.out infoHo rfl (by simp[Value.oneCell']) rfl ?_)|(refine wpList_store_row rfl 32 _ _ rfl (w.heap.size+1) rfl _ #[.int .i64 82,.int .i64 255] rfl 32 (L2.out.row_other (by omega) _) infoSp rfl (by simp[Value.oneCell']) rfl ?_))
 exact re_ret ho0 rfl (82,255) _ _ L1.out L2.out rfl rfl ⟨rfl,below_row (below_row KB.out (Nat.le_refl _) _) (by omega) _⟩
set_option maxHeartbeats 8000000 in
set_option maxRecDepth 100000 in
theorem rpa_open (s:ByteArray) (wide:Bool) (w:World) (hem:s.toList.isEmpty=false) (h0n:0<s.size) (n91:((s[0].toNat:Int) != 91)=false) (h255':¬(255:Int)<(s.size:Int)) (hln:s.size - 1<s.size) (hn1:(s.size:Int) - 1<(s.size:Int)) (n93:((s[s.size - 1].toNat:Int) != 93)=true):
  Calls Tryz.prog 92 #[.string s,.bool wide] w fun e w'=>e=.returned (.tuple #[hostV ho0,.agg (spotV (82,s.size))])∧Below w.heap.size w w':=by
 have L1:Hid (Lies ((w.alloc (.cells #[.int .i64 0,.string ⟨#[]⟩,.int .u8 0,.int .u8 0,.int .u8 0,.int .u8 0,.int .u8 0,.int .u8 0,.int .u8 0,.int .u8 0,.int .u8 0,.int .u8 0,.int .u8 0,.int .u8 0,.int .u8 0,.int .u8 0,.int .u8 0,.int .u8 0] 25)).alloc (.cells #[.int .i64 0,.int .i64 0] 32)) w.heap.size #[.int .i64 0,.string ⟨#[]⟩,.int .u8 0,.int .u8 0,.int .u8 0,.int .u8 0,.int .u8 0,.int .u8 0,.int .u8 0,.int .u8 0,.int .u8 0,.int .u8 0,.int .u8 0,.int .u8 0,.int .u8 0,.int .u8 0,.int .u8 0,.int .u8 0] 25):=(Lies.new w _ _).alloc _
 have L2:Hid (Lies ((w.alloc (.cells #[.int .i64 0,.string ⟨#[]⟩,.int .u8 0,.int .u8 0,.int .u8 0,.int .u8 0,.int .u8 0,.int .u8 0,.int .u8 0,.int .u8 0,.int .u8 0,.int .u8 0,.int .u8 0,.int .u8 0,.int .u8 0,.int .u8 0,.int .u8 0,.int .u8 0] 25)).alloc (.cells #[.int .i64 0,.int .i64 0] 32)) (w.heap.size+1) #[.int .i64 0,.int .i64 0] 32):=new_one w _ _ _
 have KB:Hid (Below w.heap.size w ((w.alloc (.cells #[.int .i64 0,.string ⟨#[]⟩,.int .u8 0,.int .u8 0,.int .u8 0,.int .u8 0,.int .u8 0,.int .u8 0,.int .u8 0,.int .u8 0,.int .u8 0,.int .u8 0,.int .u8 0,.int .u8 0,.int .u8 0,.int .u8 0,.int .u8 0,.int .u8 0] 25)).alloc (.cells #[.int .i64 0,.int .i64 0] 32))):=((Below.refl _ _).alloc (Nat.le_refl _) _).alloc (by simp) _
 go_enter Tryz.func92,Tryz.ntmps92
 go_upto_region 1 with fail
 generalize (w.alloc (.cells #[.int .i64 0,.string ⟨#[]⟩,.int .u8 0,.int .u8 0,.int .u8 0,.int .u8 0,.int .u8 0,.int .u8 0,.int .u8 0,.int .u8 0,.int .u8 0,.int .u8 0,.int .u8 0,.int .u8 0,.int .u8 0,.int .u8 0,.int .u8 0,.int .u8 0] 25)).alloc (.cells #[.int .i64 0,.int .i64 0] 32)=wA at L1 L2 KB ⊢
 have hzA:=L2.out.lt
 go_wp2_with (first|(refine wpList_store_row rfl 25 _ _ rfl w.heap.size rfl _ #[.int .i64 0,.string ⟨#[]⟩,.int .u8 0,.int .u8 0,.int .u8 0,.int .u8 0,.int .u8 0,.int .u8 0,.int .u8 0,.int .u8 0,.int .u8 0,.int .u8 0,.int .u8 0,.int .u8 0,.int .u8 0,.int .u8 0,.int .u8 0,.int .u8 0] rfl 25 L1.out infoHo rfl (by simp[Value.oneCell']) rfl ?_)|(refine wpList_store_row rfl 32 _ _ rfl (w.heap.size+1) rfl _ #[.int .i64 82,.int .i64 (s.size:Int)] rfl 32 (L2.out.row_other (by omega) _) infoSp rfl (by simp[Value.oneCell']) rfl ?_))
 exact re_ret ho0 rfl (82,s.size) _ _ L1.out L2.out rfl rfl ⟨rfl,below_row (below_row KB.out (Nat.le_refl _) _) (by omega) _⟩
end Go.Proofs.YtfjpkfhbmldmfaaGreatDoor
