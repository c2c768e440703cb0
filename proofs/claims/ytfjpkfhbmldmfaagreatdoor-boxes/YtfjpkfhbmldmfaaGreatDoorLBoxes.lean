/-
  For every text and every width the statement PathBoxes returns true.
-/
import Derived.Test.YtfjpkfhbmldmfaaGreatDoorRcP
import Derived.Test.YtfjpkfhbmldmfaaGreatDoorPtB
import Derived.Test.YtfjpkfhbmldmfaaGreatDoorRDec
import Derived.Test.YtfjpkfhbmldmfaaGreatDoorXf9
import Derived.Test.YtfjpkfhbmldmfaaGreatDoorCard9
import Derived.ProofKit
import Derived.ChangeMaps5
import Derived.OpenShut
import Derived.ShutString
import Derived.ChangeOld
import Derived.SizedLaws
namespace Go.Proofs.YtfjpkfhbmldmfaaGreatDoor.pathBoxes
open Go.ChangeShapes Go.WideShapes Go.ChangeAt Go.RowKit
open Go.ChangeMaps (open_string shut_string)
set_option maxHeartbeats 16000000 in
set_option maxRecDepth 100000 in
theorem walkW (s:ByteArray) (wide:Bool) (VH:Array Value) (l:List UInt8) (h:Ho) (hVH:VH=boxC l h) (hlh:h.a.length=16) (er at':Nat) (w:World)
  (HE:Hid (∀wx,Below w.heap.size w wx→Calls Tryz.prog 17 #[.string s,.bool wide] wx fun e w'=>e=.returned (.tuple #[.agg VH,.agg #[.int .i64 (er:Int),.int .i64 (at':Int)]])∧Below wx.heap.size wx w'))
  (HX:Hid (∀wx,Below w.heap.size w wx→Calls Tryz.prog 18 #[.string s,.bool wide] wx fun e w'=>e=.returned (.tuple #[.agg VH,.agg #[.int .i64 (er:Int),.int .i64 (at':Int)]])∧Below wx.heap.size wx w'))
  (HW:Hid (∀wx,Below w.heap.size w wx→Calls Tryz.prog 11 #[] wx fun e w'=>e=.returned (.bool true)∧Below wx.heap.size wx w')):
  Calls Tryz.prog 4 #[.string s,.bool wide] w fun e w'=>e=.returned (.bool true)∧Below w.heap.size w w':=by
 have zh:VH.size=19:=by rw[hVH];exact boxC_size l h hlh
 have oh:Hid (VH.all (·.oneCell')=true∧(#[.string ⟨#[]⟩,.int .i64 0,.string ⟨#[]⟩,.int .u8 0,.int .u8 0,.int .u8 0,.int .u8 0,.int .u8 0,.int .u8 0,.int .u8 0,.int .u8 0,.int .u8 0,.int .u8 0,.int .u8 0,.int .u8 0,.int .u8 0,.int .u8 0,.int .u8 0,.int .u8 0]:Array Value).size=VH.size):=⟨by rw[hVH];exact boxC_one l h,by rw[zh];rfl⟩
 have EH:Hid (VH=boxC l h):=hVH
 have KB:Hid (Below w.heap.size w w):=Below.refl _ _
 clear hVH
 go_enter Tryz.func4,Tryz.ntmps4
 go_upto_region 1 with fail
 go_wp2_with fail
 refine Calls.mono (HE.out _ KB.out) ?_
 rintro e y1 ⟨rfl,hc⟩
 have KB1:Hid (Below w.heap.size w y1):=KB.out.trans ((hc).mono KB.out.size)
 clear KB
 clear hc
 have A:Hid (Lies ((y1.alloc (.cells #[.string ⟨#[]⟩,.int .i64 0,.string ⟨#[]⟩,.int .u8 0,.int .u8 0,.int .u8 0,.int .u8 0,.int .u8 0,.int .u8 0,.int .u8 0,.int .u8 0,.int .u8 0,.int .u8 0,.int .u8 0,.int .u8 0,.int .u8 0,.int .u8 0,.int .u8 0,.int .u8 0] 27)).alloc (.cells #[.int .i64 0,.int .i64 0] 32)) y1.heap.size #[.string ⟨#[]⟩,.int .i64 0,.string ⟨#[]⟩,.int .u8 0,.int .u8 0,.int .u8 0,.int .u8 0,.int .u8 0,.int .u8 0,.int .u8 0,.int .u8 0,.int .u8 0,.int .u8 0,.int .u8 0,.int .u8 0,.int .u8 0,.int .u8 0,.int .u8 0,.int .u8 0] 27):=(Lies.new y1 _ _).alloc _
 have B:Hid (Lies ((y1.alloc (.cells #[.string ⟨#[]⟩,.int .i64 0,.string ⟨#[]⟩,.int .u8 0,.int .u8 0,.int .u8 0,.int .u8 0,.int .u8 0,.int .u8 0,.int .u8 0,.int .u8 0,.int .u8 0,.int .u8 0,.int .u8 0,.int .u8 0,.int .u8 0,.int .u8 0,.int .u8 0,.int .u8 0] 27)).alloc (.cells #[.int .i64 0,.int .i64 0] 32)) (y1.heap.size+1) #[.int .i64 0,.int .i64 0] 32):=new_one y1 _ _ _
 have M1:Hid (Lies ((((y1.alloc (.cells #[.string ⟨#[]⟩,.int .i64 0,.string ⟨#[]⟩,.int .u8 0,.int .u8 0,.int .u8 0,.int .u8 0,.int .u8 0,.int .u8 0,.int .u8 0,.int .u8 0,.int .u8 0,.int .u8 0,.int .u8 0,.int .u8 0,.int .u8 0,.int .u8 0,.int .u8 0,.int .u8 0] 27)).alloc (.cells #[.int .i64 0,.int .i64 0] 32)).setRow y1.heap.size VH).setRow (y1.heap.size+1) #[.int .i64 (er:Int),.int .i64 (at':Int)]) y1.heap.size VH 27):=(A.out.row _).row_other (by omega) _
 have N1:Hid (Lies ((((y1.alloc (.cells #[.string ⟨#[]⟩,.int .i64 0,.string ⟨#[]⟩,.int .u8 0,.int .u8 0,.int .u8 0,.int .u8 0,.int .u8 0,.int .u8 0,.int .u8 0,.int .u8 0,.int .u8 0,.int .u8 0,.int .u8 0,.int .u8 0,.int .u8 0,.int .u8 0,.int .u8 0,.int .u8 0] 27)).alloc (.cells #[.int .i64 0,.int .i64 0] 32)).setRow y1.heap.size VH).setRow (y1.heap.size+1) #[.int .i64 (er:Int),.int .i64 (at':Int)]) (y1.heap.size+1) #[.int .i64 (er:Int),.int .i64 (at':Int)] 32):=(B.out.row_other (by omega) _).row _
 have BB:Hid (Below y1.heap.size y1 ((((y1.alloc (.cells #[.string ⟨#[]⟩,.int .i64 0,.string ⟨#[]⟩,.int .u8 0,.int .u8 0,.int .u8 0,.int .u8 0,.int .u8 0,.int .u8 0,.int .u8 0,.int .u8 0,.int .u8 0,.int .u8 0,.int .u8 0,.int .u8 0,.int .u8 0,.int .u8 0,.int .u8 0,.int .u8 0] 27)).alloc (.cells #[.int .i64 0,.int .i64 0] 32)).setRow y1.heap.size VH).setRow (y1.heap.size+1) #[.int .i64 (er:Int),.int .i64 (at':Int)])):=below_row (below_row (((Below.refl _ _).alloc (Nat.le_refl _) _).alloc (by simp) _) (Nat.le_refl _) _) (by omega) _
 have KB2:Hid (Below w.heap.size w ((((y1.alloc (.cells #[.string ⟨#[]⟩,.int .i64 0,.string ⟨#[]⟩,.int .u8 0,.int .u8 0,.int .u8 0,.int .u8 0,.int .u8 0,.int .u8 0,.int .u8 0,.int .u8 0,.int .u8 0,.int .u8 0,.int .u8 0,.int .u8 0,.int .u8 0,.int .u8 0,.int .u8 0,.int .u8 0] 27)).alloc (.cells #[.int .i64 0,.int .i64 0] 32)).setRow y1.heap.size VH).setRow (y1.heap.size+1) #[.int .i64 (er:Int),.int .i64 (at':Int)])):=KB1.out.trans ((BB.out).mono KB1.out.size)
 clear KB1
 go_upto_region 2 with(first|(refine wpList_store_row rfl 27 _ _ rfl y1.heap.size rfl _ VH rfl 27 A.out (by rw[zh];exact infoBx) oh.out.2 oh.out.1 rfl ?_)|(refine wpList_store_row rfl 32 _ _ rfl (y1.heap.size+1) rfl _ #[.int .i64 (er:Int),.int .i64 (at':Int)] rfl 32 (B.out.row_other (by omega) _) infoSp rfl (by simp[Value.oneCell']) rfl ?_))
 generalize hv1:(((y1.alloc (.cells #[.string ⟨#[]⟩,.int .i64 0,.string ⟨#[]⟩,.int .u8 0,.int .u8 0,.int .u8 0,.int .u8 0,.int .u8 0,.int .u8 0,.int .u8 0,.int .u8 0,.int .u8 0,.int .u8 0,.int .u8 0,.int .u8 0,.int .u8 0,.int .u8 0,.int .u8 0,.int .u8 0] 27)).alloc (.cells #[.int .i64 0,.int .i64 0] 32)).setRow y1.heap.size VH).setRow (y1.heap.size+1) #[.int .i64 (er:Int),.int .i64 (at':Int)]=v1 at M1 N1 KB2 ⊢
 clear hv1 A B BB
 go_wp2_with fail
 refine Calls.mono (HX.out _ KB2.out) ?_
 rintro e y2 ⟨rfl,hc⟩
 have KB3:Hid (Below w.heap.size w y2):=KB2.out.trans ((hc).mono KB2.out.size)
 have M1n:Hid (Lies y2 (y1.heap.size) VH 27):=M1.out.below (hc) M1.out.lt
 clear M1
 have M1:=M1n
 clear M1n
 have N1n:Hid (Lies y2 (y1.heap.size+1) #[.int .i64 (er:Int),.int .i64 (at':Int)] 32):=N1.out.below (hc) N1.out.lt
 clear N1
 have N1:=N1n
 clear N1n
 clear KB2
 clear hc
 have A:Hid (Lies ((y2.alloc (.cells #[.string ⟨#[]⟩,.int .i64 0,.string ⟨#[]⟩,.int .u8 0,.int .u8 0,.int .u8 0,.int .u8 0,.int .u8 0,.int .u8 0,.int .u8 0,.int .u8 0,.int .u8 0,.int .u8 0,.int .u8 0,.int .u8 0,.int .u8 0,.int .u8 0,.int .u8 0,.int .u8 0] 27)).alloc (.cells #[.int .i64 0,.int .i64 0] 32)) y2.heap.size #[.string ⟨#[]⟩,.int .i64 0,.string ⟨#[]⟩,.int .u8 0,.int .u8 0,.int .u8 0,.int .u8 0,.int .u8 0,.int .u8 0,.int .u8 0,.int .u8 0,.int .u8 0,.int .u8 0,.int .u8 0,.int .u8 0,.int .u8 0,.int .u8 0,.int .u8 0,.int .u8 0] 27):=(Lies.new y2 _ _).alloc _
 have B:Hid (Lies ((y2.alloc (.cells #[.string ⟨#[]⟩,.int .i64 0,.string ⟨#[]⟩,.int .u8 0,.int .u8 0,.int .u8 0,.int .u8 0,.int .u8 0,.int .u8 0,.int .u8 0,.int .u8 0,.int .u8 0,.int .u8 0,.int .u8 0,.int .u8 0,.int .u8 0,.int .u8 0,.int .u8 0,.int .u8 0] 27)).alloc (.cells #[.int .i64 0,.int .i64 0] 32)) (y2.heap.size+1) #[.int .i64 0,.int .i64 0] 32):=new_one y2 _ _ _
 have M2:Hid (Lies ((((y2.alloc (.cells #[.string ⟨#[]⟩,.int .i64 0,.string ⟨#[]⟩,.int .u8 0,.int .u8 0,.int .u8 0,.int .u8 0,.int .u8 0,.int .u8 0,.int .u8 0,.int .u8 0,.int .u8 0,.int .u8 0,.int .u8 0,.int .u8 0,.int .u8 0,.int .u8 0,.int .u8 0,.int .u8 0] 27)).alloc (.cells #[.int .i64 0,.int .i64 0] 32)).setRow y2.heap.size VH).setRow (y2.heap.size+1) #[.int .i64 (er:Int),.int .i64 (at':Int)]) y2.heap.size VH 27):=(A.out.row _).row_other (by omega) _
 have N2:Hid (Lies ((((y2.alloc (.cells #[.string ⟨#[]⟩,.int .i64 0,.string ⟨#[]⟩,.int .u8 0,.int .u8 0,.int .u8 0,.int .u8 0,.int .u8 0,.int .u8 0,.int .u8 0,.int .u8 0,.int .u8 0,.int .u8 0,.int .u8 0,.int .u8 0,.int .u8 0,.int .u8 0,.int .u8 0,.int .u8 0] 27)).alloc (.cells #[.int .i64 0,.int .i64 0] 32)).setRow y2.heap.size VH).setRow (y2.heap.size+1) #[.int .i64 (er:Int),.int .i64 (at':Int)]) (y2.heap.size+1) #[.int .i64 (er:Int),.int .i64 (at':Int)] 32):=(B.out.row_other (by omega) _).row _
 have BB:Hid (Below y2.heap.size y2 ((((y2.alloc (.cells #[.string ⟨#[]⟩,.int .i64 0,.string ⟨#[]⟩,.int .u8 0,.int .u8 0,.int .u8 0,.int .u8 0,.int .u8 0,.int .u8 0,.int .u8 0,.int .u8 0,.int .u8 0,.int .u8 0,.int .u8 0,.int .u8 0,.int .u8 0,.int .u8 0,.int .u8 0,.int .u8 0] 27)).alloc (.cells #[.int .i64 0,.int .i64 0] 32)).setRow y2.heap.size VH).setRow (y2.heap.size+1) #[.int .i64 (er:Int),.int .i64 (at':Int)])):=below_row (below_row (((Below.refl _ _).alloc (Nat.le_refl _) _).alloc (by simp) _) (Nat.le_refl _) _) (by omega) _
 have KB4:Hid (Below w.heap.size w ((((y2.alloc (.cells #[.string ⟨#[]⟩,.int .i64 0,.string ⟨#[]⟩,.int .u8 0,.int .u8 0,.int .u8 0,.int .u8 0,.int .u8 0,.int .u8 0,.int .u8 0,.int .u8 0,.int .u8 0,.int .u8 0,.int .u8 0,.int .u8 0,.int .u8 0,.int .u8 0,.int .u8 0,.int .u8 0] 27)).alloc (.cells #[.int .i64 0,.int .i64 0] 32)).setRow y2.heap.size VH).setRow (y2.heap.size+1) #[.int .i64 (er:Int),.int .i64 (at':Int)])):=KB3.out.trans ((BB.out).mono KB3.out.size)
 have M1n:Hid (Lies ((((y2.alloc (.cells #[.string ⟨#[]⟩,.int .i64 0,.string ⟨#[]⟩,.int .u8 0,.int .u8 0,.int .u8 0,.int .u8 0,.int .u8 0,.int .u8 0,.int .u8 0,.int .u8 0,.int .u8 0,.int .u8 0,.int .u8 0,.int .u8 0,.int .u8 0,.int .u8 0,.int .u8 0,.int .u8 0] 27)).alloc (.cells #[.int .i64 0,.int .i64 0] 32)).setRow y2.heap.size VH).setRow (y2.heap.size+1) #[.int .i64 (er:Int),.int .i64 (at':Int)]) (y1.heap.size) VH 27):=M1.out.below (BB.out) M1.out.lt
 clear M1
 have M1:=M1n
 clear M1n
 have N1n:Hid (Lies ((((y2.alloc (.cells #[.string ⟨#[]⟩,.int .i64 0,.string ⟨#[]⟩,.int .u8 0,.int .u8 0,.int .u8 0,.int .u8 0,.int .u8 0,.int .u8 0,.int .u8 0,.int .u8 0,.int .u8 0,.int .u8 0,.int .u8 0,.int .u8 0,.int .u8 0,.int .u8 0,.int .u8 0,.int .u8 0] 27)).alloc (.cells #[.int .i64 0,.int .i64 0] 32)).setRow y2.heap.size VH).setRow (y2.heap.size+1) #[.int .i64 (er:Int),.int .i64 (at':Int)]) (y1.heap.size+1) #[.int .i64 (er:Int),.int .i64 (at':Int)] 32):=N1.out.below (BB.out) N1.out.lt
 clear N1
 have N1:=N1n
 clear N1n
 clear KB3
 go_upto_region 3 with(first|(refine wpList_store_row rfl 27 _ _ rfl y2.heap.size rfl _ VH rfl 27 A.out (by rw[zh];exact infoBx) oh.out.2 oh.out.1 rfl ?_)|(refine wpList_store_row rfl 32 _ _ rfl (y2.heap.size+1) rfl _ #[.int .i64 (er:Int),.int .i64 (at':Int)] rfl 32 (B.out.row_other (by omega) _) infoSp rfl (by simp[Value.oneCell']) rfl ?_))
 generalize hv2:(((y2.alloc (.cells #[.string ⟨#[]⟩,.int .i64 0,.string ⟨#[]⟩,.int .u8 0,.int .u8 0,.int .u8 0,.int .u8 0,.int .u8 0,.int .u8 0,.int .u8 0,.int .u8 0,.int .u8 0,.int .u8 0,.int .u8 0,.int .u8 0,.int .u8 0,.int .u8 0,.int .u8 0,.int .u8 0] 27)).alloc (.cells #[.int .i64 0,.int .i64 0] 32)).setRow y2.heap.size VH).setRow (y2.heap.size+1) #[.int .i64 (er:Int),.int .i64 (at':Int)]=v2 at M2 N2 KB4 M1 N1 ⊢
 clear hv2 A B BB
 refine wp_region_lit ?_
 refine wpList_load_row9 (by rfl) 27 _ rfl (y2.heap.size) rfl VH 27 _ M2.out Tryz.underlying27 rfl (by rw[zh];exact infoBx) ?_
 simp only[Act.put,pA,pB,pC]
 refine wpList_load_row9 (by rfl) 27 _ rfl (y1.heap.size) rfl VH 27 _ M1.out Tryz.underlying27 rfl (by rw[zh];exact infoBx) ?_
 simp only[Act.put,pA,pB,pC]
 refine wpList_yieldG (.bool true) (by rfl) ?hy ?_
 case hy=>
  refine Eq.trans (exec_eql_box _ _ _ rfl l l h h ?_ ?_ hlh hlh) (by rw[decide_eq_true rfl,decide_eq_true rfl];rfl)
  ·(show Value.agg VH=_;rw[EH.out])
  ·(show Value.agg VH=_;rw[EH.out])
 simp only[Act.put,pA,pB,pC]
 refine wpList_yieldG (.bool true) (by rfl) ?hy ?_
 case hy=>(go_simp<;>(first|with_reducible rfl|omega|skip))
 simp only[Act.put,pA,pB,pC]
 refine wpList_load_row9 (by rfl) 32 _ rfl (y2.heap.size+1) rfl #[.int .i64 (er:Int),.int .i64 (at':Int)] 32 _ N2.out Tryz.underlying32 rfl infoSp ?_
 simp only[Act.put,pA,pB,pC]
 refine wpList_load_row9 (by rfl) 32 _ rfl (y1.heap.size+1) rfl #[.int .i64 (er:Int),.int .i64 (at':Int)] 32 _ N1.out Tryz.underlying32 rfl infoSp ?_
 simp only[Act.put,pA,pB,pC]
 refine wpList_yieldG (.bool true) (by rfl) ?hy ?_
 case hy=>(go_simp<;>(first|with_reducible rfl|omega|skip))
 simp only[Act.put,pA,pB,pC]
 refine wpList_yieldG (.bool true) (by rfl) ?hy ?_
 case hy=>(go_simp<;>(first|with_reducible rfl|omega|skip))
 simp only[Act.put,pA,pB,pC]
 refine wpList_yieldG (.bool true) (by rfl) ?hy ?_
 case hy=>(go_simp<;>(first|with_reducible rfl|omega|skip))
 simp only[Act.put,pA,pB,pC]
 refine wpList_onG (by rfl) ?_
 go_simp
 refine Calls.mono (HW.out _ KB4.out) ?_
 rintro e y101 ⟨rfl,hc101⟩
 have hb101:Hid (Below v2.heap.size v2 y101):=hc101
 have KB101:Hid (Below w.heap.size w y101):=KB4.out.trans ((hc101).mono KB4.out.size)
 have M1n:Hid (Lies y101 (y1.heap.size) VH 27):=M1.out.below (hc101) M1.out.lt
 clear M1
 have M1:=M1n
 clear M1n
 have N1n:Hid (Lies y101 (y1.heap.size+1) #[.int .i64 (er:Int),.int .i64 (at':Int)] 32):=N1.out.below (hc101) N1.out.lt
 clear N1
 have N1:=N1n
 clear N1n
 have M2n:Hid (Lies y101 (y2.heap.size) VH 27):=M2.out.below (hc101) M2.out.lt
 clear M2
 have M2:=M2n
 clear M2n
 have N2n:Hid (Lies y101 (y2.heap.size+1) #[.int .i64 (er:Int),.int .i64 (at':Int)] 32):=N2.out.below (hc101) N2.out.lt
 clear N2
 have N2:=N2n
 clear N2n
 clear KB4
 clear hc101
 refine wpList_yieldG (.bool true) (by rfl) ?hy ?_
 case hy=>(go_simp<;>(first|with_reducible rfl|omega|skip))
 simp only[Act.put,pA,pB,pC]
 refine wpList_yieldG (.bool true) (by rfl) ?hy ?_
 case hy=>(go_simp<;>(first|with_reducible rfl|omega|skip))
 simp only[Act.put,pA,pB,pC]
 refine wpList_nil ?_
 go_wp2
 go_ret
 exact⟨rfl,KB101.out⟩
theorem boxC_zero:boxC [] ho0=#[.string ⟨#[]⟩,.int .i64 0,.string ⟨#[]⟩,.int .u8 0,.int .u8 0,.int .u8 0,.int .u8 0,.int .u8 0,.int .u8 0,.int .u8 0,.int .u8 0,.int .u8 0,.int .u8 0,.int .u8 0,.int .u8 0,.int .u8 0,.int .u8 0,.int .u8 0,.int .u8 0]:=by kernel_rfl
theorem box_len {wide:Bool} {s l:List UInt8} {h:Ho} (hb:box wide s=.ok (l,h)):h.a.length=16:=by
 unfold box at hb
 split at hb
 ·cases hb
 ·rename_i m n hm
  split at hb
  ·cases hb
  ·injection hb with hb
   subst hb
   obtain⟨_,_,_,_,_,_,hh⟩:=bx_is hm
   exact hst_len hh
theorem walk (s:ByteArray) (ss:s.size≤140737488351232) (wide:Bool) (w:World) (ht:Td w∧10≤w.heap.size):
  Calls Tryz.prog 4 #[.string s,.bool wide] w fun e w'=>e=.returned (.bool true)∧Below w.heap.size w w':=by
 have HT:Hid (∀wx,Below w.heap.size w wx→Td wx∧10≤wx.heap.size):=fun wx hb=>⟨ht.1.below hb,Nat.le_trans ht.2 hb.size⟩
 have HP:RParseOk w:=fun t wide wx hx=>rparse_any t wide wx (HT.out wx hx).1.ml
 have HX:∀wx,Below w.heap.size w wx→Calls Tryz.prog 18 #[.string s,.bool wide] wx fun e w'=>e=.returned (boxV (box wide s.data.toList))∧Below wx.heap.size wx w':=fun wx hx=>pbx_any s ss wide wx (HT.out wx hx).1 (HT.out wx hx).2
 have HE:∀wx,Below w.heap.size w wx→Calls Tryz.prog 17 #[.string s,.bool wide] wx fun e w'=>e=.returned (bbV (box wide s.data.toList))∧Below wx.heap.size wx w':=fun wx hx=>qbx_any dbad_any s ss wide wx (HP.later hx)
 have HW:Hid (∀wx,Below w.heap.size w wx→Calls Tryz.prog 11 #[] wx fun e w'=>e=.returned (.bool true)∧Below wx.heap.size wx w'):=fun wx hx=>head_any wx (HT.out wx hx).1 (HT.out wx hx).2
 rcases hq:box wide s.data.toList with⟨er,p⟩|⟨l,h⟩
 ·rw[hq]at HX HE
  unfold boxV at HX
  unfold bbV at HE
  dsimp only at HX HE
  rw[←boxC_zero]at HX HE
  exact walkW s wide (boxC [] ho0) [] ho0 rfl rfl er p w HE HX HW
 ·rw[hq]at HX HE
  exact walkW s wide (boxC l h) l h rfl (box_len hq) 0 0 w HE HX HW
set_option maxRecDepth 100000 in
theorem contract (H:Type) (enc:TypeId×Value→H) (W:World) (base:Nat) (args:Array Value) (ds gs:List (DataW H)) (before:List MemPlace)
  (hval:∀(j:Nat) t v,Tryz.f4.params[j]?=some t→args[j]?=some v→Value.okWide Tryz.prog W .any base t v)
  (hW:DataW.Whole enc Tryz.prog Tryz.f4.params.toList Rows.pathBoxesSpec.vars false W args.toList ds gs before)
  (hsz:(DataW.weightsEach Tryz.prog (Tryz.f4.params.toList++(OpenSpec.ofChange Rows.pathBoxesSpec).bare.plain.varTypes Tryz.prog) (ds++gs)).all (· ≤reachBytes)=true)
  (hL:laidMetH Tryz.prog Rows.pathBoxesRow.laid W) (hsh:W.ShapedOpen Tryz.prog):
  Calls Tryz.prog 4 args W fun e W'=>∃v,e=.returned v∧Rows.pathBoxesSpec.post enc Tryz.prog Tryz.f4 false true false false W args v W':=by
 have hW':=hW
 obtain⟨p,q,hA0,hV,rfl,hfz,hnd⟩:=hW
 have hA:DataW.TrodAll enc Tryz.prog W 0 (fun _=>true) true Tryz.f4.params.toList args.toList ds p:=hA0
 rw[Tryz.params4]at hA hval hsz
 obtain⟨v0,vs0,d0,ds0,p0,q0,hargs,rfl,rfl,h0,r0⟩:=trodAll_cons hA
 obtain⟨v1,vs1,d1,ds1,p1,q1,rfl,rfl,rfl,h1,r1⟩:=trodAll_cons r0
 obtain⟨rfl,rfl,rfl⟩:=trodAll_nil r1
 obtain rfl:args=#[v0,v1]:=by cases args;simp_all
 obtain⟨rfl,rfl⟩:=trodVars_none hV
 obtain⟨a0,rfl,rfl,rfl,w0⟩:=open_string Tryz.underlying9 (hval 0 9 v0 rfl rfl) h0
 obtain⟨a1,rfl,rfl,rfl⟩:=open_bool Tryz.underlying4 (hval 1 4 v1 rfl rfl) h1
 clear hA0
 have s0:=sized_string hsz (j:=0) (t:=9) rfl rfl
 simp only[reachBytes,Array.length_toList]at s0
 simp only[List.append_nil]at hW'
 refine(walk a0 s0 a1 W (tabs9_of hL hsh)).mono fun e W' ⟨he,bel⟩=>?_
 subst he
 exact⟨_,rfl,_,_,_,[],[],[],hW',trodAll_mk1 (shut_bool Tryz.underlying4 _),trodAll_cons_mk (shut_string Tryz.underlying9 w0) (trodAll_cons_mk (shut_bool Tryz.underlying4 _) trodAll_mk0),rfl,bel.frame _,fun h=>by cases h⟩
set_option maxRecDepth 100000 in
theorem laid_met (os:Os):laidMet Tryz.prog Rows.pathBoxesRow.laid ((laidWorld9 os).forCall (fun _ _=>0) ⟨#[],#[.string ByteArray.empty,.bool false],[]⟩).memory:=
 laidMet_of_run' 8 (by kernel_rfl) (by kernel_rfl)
set_option maxRecDepth 100000 in
theorem reads (os:Os) {H:Type} (enc:TypeId×Value→H):∃places,DataW.whole enc Tryz.prog ((laidWorld9 os).forCall (fun _ _=>0) ⟨#[],#[.string ByteArray.empty,.bool false],[]⟩).memory Tryz.f4.params.toList Rows.pathBoxesSpec.vars false #[Value.string ByteArray.empty,Value.bool false].toList 8=some ([.lit (.string []),.lit (.bool false)],[],places):=
 ⟨[],by kernel_rfl⟩
set_option maxRecDepth 100000 in
theorem lifted (os:Os) (started:os.Started) (H:Type) (enc:TypeId×Value→H) (F:Stop.Interp):
  ReturnsInHanded {} Tryz.checked os 4 .any ((OpenSpec.ofChange Rows.pathBoxesSpec).preRow enc Tryz.prog Tryz.f4 Rows.pathBoxesRow.domain false Rows.pathBoxesRow.laid) (((OpenSpec.ofChange Rows.pathBoxesSpec).at F).post enc Tryz.prog Tryz.f4 false true false false):=by
 obtain⟨places,hx⟩:=reads os enc
 refine returnsInHanded_of_row (C:=Tryz.checked) (s:=OpenSpec.ofChange Rows.pathBoxesSpec) own started (by kernel_rfl) Tryz.func4
  (witness_row_at (enc:=enc) (C:=Tryz.checked) false (laidWorld9 os) #[.string ByteArray.empty,.bool false] rfl (by kernel_rfl) (by kernel_rfl) (by kernel_rfl)
   (OpenSpec.preRow_of_cond 8 hx (by kernel_rfl) (fun k hk=>by cases hk) (by kernel_rfl) (laid_met os))) ?_
 intro W base args ds gs before hval hW _ _ hsz hL hsh _
 exact contract H enc W base args ds gs before hval hW hsz hL hsh
theorem said:Rows.PathBoxesSaid:=
 OpenClaim.holds_of_cond 4 Tryz.f4 rfl rfl rfl rfl rfl rfl rfl ⟨rfl,rfl,rfl,rfl,rfl⟩ rfl rfl rfl rfl rfl (by kernel_rfl) Tryz.func4 (by kernel_rfl)
  (of_decide_eq_true (by kernel_rfl)) (by unfold Func.isWrapper;first|(rw[if_pos (by decide+kernel)];kernel_rfl)|(rw[if_neg (by decide+kernel)];exact⟨rfl,rfl⟩))
  (fun os started H enc _ F=>by rw[OpenClaim.pre_eq_preRow];exact lifted os started H enc F)
theorem plain (f:FuncId) (fn:Func) (hf:Tryz.pinned.checked.prog.funcNamed "posthorn/posthornlaw09.PathBoxes"=some f) (hfn:Tryz.pinned.checked.prog.funcs[f]?=some fn):
  true=Tryz.pinned.checked.prog.looks []∧∀(j:Nat) t,fn.params[j]?=some t→Tryz.pinned.checked.prog.wantsStandIn t=false:=by
 obtain rfl:f=4:=Option.some.inj ((show Tryz.prog.funcNamed "posthorn/posthornlaw09.PathBoxes"=some 4 by kernel_rfl).symm.trans hf) |>.symm
 obtain rfl:fn=Tryz.f4:=(Option.some.inj (Tryz.func4.symm.trans hfn)).symm
 refine⟨by kernel_rfl,fun j t ht=>?_⟩
 rw[Tryz.params4]at ht
 have hm:t∈[9,4]:=by simpa using Array.mem_of_getElem? ht
 have hall:([9,4].all fun u=>!Tryz.prog.wantsStandIn u)=true:=by kernel_rfl
 exact(show Tryz.prog.wantsStandIn t=false by simpa using List.all_eq_true.1 hall t hm)
theorem card:Rows.PathBoxesCardSaid:=
 Claim7.holds_tied_plain_at .later [] _ _ _ _ said (fun _ h=>by cases h) (by kernel_rfl) (fun _ h=>by cases h) pathBoxes_row_tie rfl ⟨rfl,rfl⟩ (by kernel_rfl) rfl plain (by kernel_rfl)
end Go.Proofs.YtfjpkfhbmldmfaaGreatDoor.pathBoxes
namespace Go.Proofs.YtfjpkfhbmldmfaaGreatDoor
theorem pathBoxes_card:Rows.PathBoxesCardSaid:=pathBoxes.card
#print axioms pathBoxes_card
end Go.Proofs.YtfjpkfhbmldmfaaGreatDoor
