/-
  The document's Box, and named.
-/
import Derived.Test.YtfjpkfhbmldmfaaGreatDoorQf9
import Derived.Test.YtfjpkfhbmldmfaaGreatDoorPtA
import Derived.Test.YtfjpkfhbmldmfaaGreatDoorQc9
import Derived.Shelf.Strings.IndexAny
import Derived.Shelf.Strings.AsciiSet
import Derived.Shelf.Strings.Runes
import Derived.Shelf.Small.Utf8
import Derived.Shelf.Strings.Prefix
import Derived.Shelf.Strings.Search1
import Derived.Test.YtfjpkfhbmldmfaaGreatDoorProg
import Derived.Test.YtfjpkfhbmldmfaaGreatDoorLate5
import Derived.Test.YtfjpkfhbmldmfaaGreatDoorPg8
import Derived.Test.YtfjpkfhbmldmfaaGreatDoorLt8
import Derived.Laws.RangeAny
import Derived.Lib.OthersKept
import Derived.Deep.DeepCutAuto
namespace Go.Proofs.YtfjpkfhbmldmfaaGreatDoor
open Go.RowKit
def bbV:Except (Nat×Nat) (List UInt8×Ho)→Value
 | .ok (l,h)=>.tuple #[.agg (boxC l h),.agg #[.int .i64 0,.int .i64 0]]
 | .error (e,p)=>.tuple #[.agg #[.string ⟨#[]⟩,.int .i64 0,.string ⟨#[]⟩,.int .u8 0,.int .u8 0,.int .u8 0,.int .u8 0,.int .u8 0,.int .u8 0,.int .u8 0,.int .u8 0,.int .u8 0,.int .u8 0,.int .u8 0,.int .u8 0,.int .u8 0,.int .u8 0,.int .u8 0,.int .u8 0],.agg #[.int .i64 (e:Nat),.int .i64 (p:Nat)]]
set_option maxHeartbeats 16000000 in
set_option maxRecDepth 100000 in
theorem qbx_any (hbad:DBadOk) (s:ByteArray) (hs:s.size≤140737488351232) (wide:Bool) (w:World) (hpa:RParseOk w):
  Calls Tryz.prog 17 #[.string s,.bool wide] w fun e w'=>e=.returned (bbV (box wide s.data.toList))∧Below w.heap.size w w':=by
 have HBX:Hid (∀wx,Below w.heap.size w wx→Calls Tryz.prog 39 #[.string s,.int .i64 0,.bool wide] wx fun e w'=>e=.returned (bxV 0 (bx wide s.data.toList))∧Below wx.heap.size wx w'):=fun wx hx=>by
  have:=qbox_any hbad s 0 (Nat.zero_le _) hs wide wx (hpa.later hx)
  rw[List.drop_zero]at this
  exact this
 obtain⟨X,hX⟩:∃X,X=box wide s.data.toList:=⟨_,rfl⟩
 rw[←hX]
 have HX:Hid (X=box wide s.data.toList):=hX
 have L1:Hid (Lies ((w.alloc (.cells #[.string ⟨#[]⟩,.int .i64 0,.string ⟨#[]⟩,.int .u8 0,.int .u8 0,.int .u8 0,.int .u8 0,.int .u8 0,.int .u8 0,.int .u8 0,.int .u8 0,.int .u8 0,.int .u8 0,.int .u8 0,.int .u8 0,.int .u8 0,.int .u8 0,.int .u8 0,.int .u8 0] 27)).alloc (.cells #[.int .i64 0,.int .i64 0] 32)) w.heap.size #[.string ⟨#[]⟩,.int .i64 0,.string ⟨#[]⟩,.int .u8 0,.int .u8 0,.int .u8 0,.int .u8 0,.int .u8 0,.int .u8 0,.int .u8 0,.int .u8 0,.int .u8 0,.int .u8 0,.int .u8 0,.int .u8 0,.int .u8 0,.int .u8 0,.int .u8 0,.int .u8 0] 27):=(Lies.new w _ _).alloc _
 have L2:Hid (Lies ((w.alloc (.cells #[.string ⟨#[]⟩,.int .i64 0,.string ⟨#[]⟩,.int .u8 0,.int .u8 0,.int .u8 0,.int .u8 0,.int .u8 0,.int .u8 0,.int .u8 0,.int .u8 0,.int .u8 0,.int .u8 0,.int .u8 0,.int .u8 0,.int .u8 0,.int .u8 0,.int .u8 0,.int .u8 0] 27)).alloc (.cells #[.int .i64 0,.int .i64 0] 32)) (w.heap.size+1) #[.int .i64 0,.int .i64 0] 32):=new_one w _ _ _
 have KB:Hid (Below w.heap.size w ((w.alloc (.cells #[.string ⟨#[]⟩,.int .i64 0,.string ⟨#[]⟩,.int .u8 0,.int .u8 0,.int .u8 0,.int .u8 0,.int .u8 0,.int .u8 0,.int .u8 0,.int .u8 0,.int .u8 0,.int .u8 0,.int .u8 0,.int .u8 0,.int .u8 0,.int .u8 0,.int .u8 0,.int .u8 0] 27)).alloc (.cells #[.int .i64 0,.int .i64 0] 32))):=((Below.refl _ _).alloc (Nat.le_refl _) _).alloc (by simp) _
 clear hX hpa hbad
 go_enter Tryz.func17,Tryz.ntmps17
 go_upto_region 1 with fail
 generalize (w.alloc (.cells #[.string ⟨#[]⟩,.int .i64 0,.string ⟨#[]⟩,.int .u8 0,.int .u8 0,.int .u8 0,.int .u8 0,.int .u8 0,.int .u8 0,.int .u8 0,.int .u8 0,.int .u8 0,.int .u8 0,.int .u8 0,.int .u8 0,.int .u8 0,.int .u8 0,.int .u8 0,.int .u8 0] 27)).alloc (.cells #[.int .i64 0,.int .i64 0] 32)=wA at L1 L2 KB ⊢
 cases hb:bx wide s.data.toList with
 |error x=>
  obtain⟨er,p⟩:=x
  have he:=(bx_err hb).1
  have heb:((er:Int) != 0)=true:=by rw[bne_iff_ne];omega
  obtain⟨D,hD⟩:∃D:Array Value,D=#[.string ⟨#[]⟩,.int .i64 0,.string ⟨#[]⟩,.int .u8 0,.int .u8 0,.int .u8 0,.int .u8 0,.int .u8 0,.int .u8 0,.int .u8 0,.int .u8 0,.int .u8 0,.int .u8 0,.int .u8 0,.int .u8 0,.int .u8 0,.int .u8 0,.int .u8 0,.int .u8 0]:=⟨_,rfl⟩
  have hDz:D.size=19:=by rw[hD];rfl
  have hDo:D.all (·.oneCell')=true:=by rw[hD];simp[Value.oneCell']
  have HB1:Hid (Calls Tryz.prog 39 #[.string s,.int .i64 0,.bool wide] wA fun e w'=>e=.returned (.tuple #[.agg D,.int .i64 0,.agg #[.int .i64 (er:Int),.int .i64 (p:Int)]])∧Below wA.heap.size wA w'):=by
   have:=HBX.out wA KB.out
   rw[hb,bxV,Nat.zero_add]at this
   rw[hD]
   exact this
  have HXX:Hid (bbV X=.tuple #[.agg #[.string ⟨#[]⟩,.int .i64 0,.string ⟨#[]⟩,.int .u8 0,.int .u8 0,.int .u8 0,.int .u8 0,.int .u8 0,.int .u8 0,.int .u8 0,.int .u8 0,.int .u8 0,.int .u8 0,.int .u8 0,.int .u8 0,.int .u8 0,.int .u8 0,.int .u8 0,.int .u8 0],.agg #[.int .i64 (er:Int),.int .i64 (p:Int)]]):=by
   show _=_
   rw[HX.out]
   unfold box
   rw[hb]
   rfl
  clear HX HBX hb he hD
  go_wp2_with fail
  refine HB1.out.mono ?_
  rintro e y ⟨rfl,hb2⟩
  clear HB1
  have hgt:w.heap.size+1<y.heap.size:=Nat.lt_of_lt_of_le L2.out.lt hb2.size
  have A:Hid (Lies ((y.alloc (.cells #[.string ⟨#[]⟩,.int .i64 0,.string ⟨#[]⟩,.int .u8 0,.int .u8 0,.int .u8 0,.int .u8 0,.int .u8 0,.int .u8 0,.int .u8 0,.int .u8 0,.int .u8 0,.int .u8 0,.int .u8 0,.int .u8 0,.int .u8 0,.int .u8 0,.int .u8 0,.int .u8 0] 27)).alloc (.cells #[.int .i64 0,.int .i64 0] 32)) y.heap.size #[.string ⟨#[]⟩,.int .i64 0,.string ⟨#[]⟩,.int .u8 0,.int .u8 0,.int .u8 0,.int .u8 0,.int .u8 0,.int .u8 0,.int .u8 0,.int .u8 0,.int .u8 0,.int .u8 0,.int .u8 0,.int .u8 0,.int .u8 0,.int .u8 0,.int .u8 0,.int .u8 0] 27):=(Lies.new y _ _).alloc _
  have B:Hid (Lies ((y.alloc (.cells #[.string ⟨#[]⟩,.int .i64 0,.string ⟨#[]⟩,.int .u8 0,.int .u8 0,.int .u8 0,.int .u8 0,.int .u8 0,.int .u8 0,.int .u8 0,.int .u8 0,.int .u8 0,.int .u8 0,.int .u8 0,.int .u8 0,.int .u8 0,.int .u8 0,.int .u8 0,.int .u8 0] 27)).alloc (.cells #[.int .i64 0,.int .i64 0] 32)) (y.heap.size+1) #[.int .i64 0,.int .i64 0] 32):=new_one y _ _ _
  have M1:Hid (Lies ((((y.alloc (.cells #[.string ⟨#[]⟩,.int .i64 0,.string ⟨#[]⟩,.int .u8 0,.int .u8 0,.int .u8 0,.int .u8 0,.int .u8 0,.int .u8 0,.int .u8 0,.int .u8 0,.int .u8 0,.int .u8 0,.int .u8 0,.int .u8 0,.int .u8 0,.int .u8 0,.int .u8 0,.int .u8 0] 27)).alloc (.cells #[.int .i64 0,.int .i64 0] 32)).setRow y.heap.size D).setRow (y.heap.size+1) #[.int .i64 (er:Int),.int .i64 (p:Int)]) y.heap.size D 27):=(A.out.row _).row_other (by omega) _
  have N1:Hid (Lies ((((y.alloc (.cells #[.string ⟨#[]⟩,.int .i64 0,.string ⟨#[]⟩,.int .u8 0,.int .u8 0,.int .u8 0,.int .u8 0,.int .u8 0,.int .u8 0,.int .u8 0,.int .u8 0,.int .u8 0,.int .u8 0,.int .u8 0,.int .u8 0,.int .u8 0,.int .u8 0,.int .u8 0,.int .u8 0] 27)).alloc (.cells #[.int .i64 0,.int .i64 0] 32)).setRow y.heap.size D).setRow (y.heap.size+1) #[.int .i64 (er:Int),.int .i64 (p:Int)]) (y.heap.size+1) #[.int .i64 (er:Int),.int .i64 (p:Int)] 32):=(B.out.row_other (by omega) _).row _
  have BB:Hid (Below y.heap.size y ((((y.alloc (.cells #[.string ⟨#[]⟩,.int .i64 0,.string ⟨#[]⟩,.int .u8 0,.int .u8 0,.int .u8 0,.int .u8 0,.int .u8 0,.int .u8 0,.int .u8 0,.int .u8 0,.int .u8 0,.int .u8 0,.int .u8 0,.int .u8 0,.int .u8 0,.int .u8 0,.int .u8 0,.int .u8 0] 27)).alloc (.cells #[.int .i64 0,.int .i64 0] 32)).setRow y.heap.size D).setRow (y.heap.size+1) #[.int .i64 (er:Int),.int .i64 (p:Int)])):=below_row (below_row (((Below.refl _ _).alloc (Nat.le_refl _) _).alloc (by simp) _) (Nat.le_refl _) _) (by omega) _
  have K1:Hid (Lies ((((y.alloc (.cells #[.string ⟨#[]⟩,.int .i64 0,.string ⟨#[]⟩,.int .u8 0,.int .u8 0,.int .u8 0,.int .u8 0,.int .u8 0,.int .u8 0,.int .u8 0,.int .u8 0,.int .u8 0,.int .u8 0,.int .u8 0,.int .u8 0,.int .u8 0,.int .u8 0,.int .u8 0,.int .u8 0] 27)).alloc (.cells #[.int .i64 0,.int .i64 0] 32)).setRow y.heap.size D).setRow (y.heap.size+1) #[.int .i64 (er:Int),.int .i64 (p:Int)]) w.heap.size #[.string ⟨#[]⟩,.int .i64 0,.string ⟨#[]⟩,.int .u8 0,.int .u8 0,.int .u8 0,.int .u8 0,.int .u8 0,.int .u8 0,.int .u8 0,.int .u8 0,.int .u8 0,.int .u8 0,.int .u8 0,.int .u8 0,.int .u8 0,.int .u8 0,.int .u8 0,.int .u8 0] 27):=(L1.out.below hb2 L1.out.lt).below BB.out (by omega)
  have K2:Hid (Lies ((((y.alloc (.cells #[.string ⟨#[]⟩,.int .i64 0,.string ⟨#[]⟩,.int .u8 0,.int .u8 0,.int .u8 0,.int .u8 0,.int .u8 0,.int .u8 0,.int .u8 0,.int .u8 0,.int .u8 0,.int .u8 0,.int .u8 0,.int .u8 0,.int .u8 0,.int .u8 0,.int .u8 0,.int .u8 0] 27)).alloc (.cells #[.int .i64 0,.int .i64 0] 32)).setRow y.heap.size D).setRow (y.heap.size+1) #[.int .i64 (er:Int),.int .i64 (p:Int)]) (w.heap.size+1) #[.int .i64 0,.int .i64 0] 32):=(L2.out.below hb2 L2.out.lt).below BB.out hgt
  have KX:Hid (Below w.heap.size w ((((y.alloc (.cells #[.string ⟨#[]⟩,.int .i64 0,.string ⟨#[]⟩,.int .u8 0,.int .u8 0,.int .u8 0,.int .u8 0,.int .u8 0,.int .u8 0,.int .u8 0,.int .u8 0,.int .u8 0,.int .u8 0,.int .u8 0,.int .u8 0,.int .u8 0,.int .u8 0,.int .u8 0,.int .u8 0] 27)).alloc (.cells #[.int .i64 0,.int .i64 0] 32)).setRow y.heap.size D).setRow (y.heap.size+1) #[.int .i64 (er:Int),.int .i64 (p:Int)])):=(KB.out.trans (hb2.mono KB.out.size)).trans (BB.out.mono (by omega))
  clear hb2 L1 L2 KB
  go_upto_region 2 with(first|(refine wpList_store_row rfl 27 _ _ rfl y.heap.size rfl _ D rfl 27 A.out (by rw[hDz];exact infoBx) (by rw[hDz];rfl) hDo rfl ?_)|(refine wpList_store_row rfl 32 _ _ rfl (y.heap.size+1) rfl _ #[.int .i64 (er:Int),.int .i64 (p:Int)] rfl 32 (B.out.row_other (by omega) _) infoSp rfl (by simp[Value.oneCell']) rfl ?_))
  generalize hv:(((y.alloc (.cells #[.string ⟨#[]⟩,.int .i64 0,.string ⟨#[]⟩,.int .u8 0,.int .u8 0,.int .u8 0,.int .u8 0,.int .u8 0,.int .u8 0,.int .u8 0,.int .u8 0,.int .u8 0,.int .u8 0,.int .u8 0,.int .u8 0,.int .u8 0,.int .u8 0,.int .u8 0,.int .u8 0] 27)).alloc (.cells #[.int .i64 0,.int .i64 0] 32)).setRow y.heap.size D).setRow (y.heap.size+1) #[.int .i64 (er:Int),.int .i64 (p:Int)]=v1 at M1 N1 K1 K2 KX ⊢
  clear hv A B BB
  generalize y.heap.size=g at hgt M1 N1 ⊢
  have c0:=N1.out.cell 0
  have c1:=N1.out.cell 1
  simp at c0 c1
  go_upto_region 3 with fail
  have hS0:v1.drew.cell? ⟨g+1,0,none⟩=some (.int .i64 (er:Int))∧v1.drew.cell? ⟨g+1,1,none⟩=some (.int .i64 (p:Int)):=⟨c0,c1⟩
  refine wp_region_late (fun wx=>wx.cell? ⟨g+1,0,none⟩=some (.int .i64 (er:Int))∧wx.cell? ⟨g+1,1,none⟩=some (.int .i64 (p:Int))) 4 (by kernel_rfl) hS0 (fun hHeld=>?_)
  refine tk9 0 (some 19) (.agg #[.string ⟨#[]⟩,.int .i64 0,.string ⟨#[]⟩,.int .u8 0,.int .u8 0,.int .u8 0,.int .u8 0,.int .u8 0,.int .u8 0,.int .u8 0,.int .u8 0,.int .u8 0,.int .u8 0,.int .u8 0,.int .u8 0,.int .u8 0,.int .u8 0,.int .u8 0,.int .u8 0]) ?_
  simp only[Act.put,pA,pB,pC]
  refine tk9 1 (some 20) (.agg #[.int .i64 (er:Int),.int .i64 (p:Int)]) ?_
  simp only[Act.put,pA,pB,pC]
  refine on9 2 ?_
  refine oper_store_row 27 _ _ rfl w.heap.size rfl #[.string ⟨#[]⟩,.int .i64 0,.string ⟨#[]⟩,.int .u8 0,.int .u8 0,.int .u8 0,.int .u8 0,.int .u8 0,.int .u8 0,.int .u8 0,.int .u8 0,.int .u8 0,.int .u8 0,.int .u8 0,.int .u8 0,.int .u8 0,.int .u8 0,.int .u8 0,.int .u8 0] #[.string ⟨#[]⟩,.int .i64 0,.string ⟨#[]⟩,.int .u8 0,.int .u8 0,.int .u8 0,.int .u8 0,.int .u8 0,.int .u8 0,.int .u8 0,.int .u8 0,.int .u8 0,.int .u8 0,.int .u8 0,.int .u8 0,.int .u8 0,.int .u8 0,.int .u8 0,.int .u8 0] rfl 27 K1.out.drew infoBx rfl (by simp[Value.oneCell']) rfl ?_
  refine⟨Or.inr ⟨(N1.out.drew.row_other (show g+1≠w.heap.size by omega) _).cell 0,(N1.out.drew.row_other (show g+1≠w.heap.size by omega) _).cell 1⟩,?_⟩
  refine on9 3 ?_
  refine oper_store_row 32 _ _ rfl (w.heap.size+1) rfl #[.int .i64 0,.int .i64 0] #[.int .i64 (er:Int),.int .i64 (p:Int)] rfl 32 (K2.out.drew.row_other (by omega) _) infoSp rfl (by simp[Value.oneCell']) rfl ?_
  refine⟨Or.inr ⟨((N1.out.drew.row_other (show g+1≠w.heap.size by omega) _).row_other (show g+1≠w.heap.size+1 by omega) _).cell 0,((N1.out.drew.row_other (show g+1≠w.heap.size by omega) _).row_other (show g+1≠w.heap.size+1 by omega) _).cell 1⟩,?_⟩
  refine wpAnyE_done (by kernel_rfl) ?_ _
  clear hHeld hS0
  go_wp2
  refine bodyPost_ret (results_two (p:=4) (q:=5) (by kernel_rfl) _ _ w.heap.size (w.heap.size+1) 27 32 #[.string ⟨#[]⟩,.int .i64 0,.string ⟨#[]⟩,.int .u8 0,.int .u8 0,.int .u8 0,.int .u8 0,.int .u8 0,.int .u8 0,.int .u8 0,.int .u8 0,.int .u8 0,.int .u8 0,.int .u8 0,.int .u8 0,.int .u8 0,.int .u8 0,.int .u8 0,.int .u8 0] #[.int .i64 (er:Int),.int .i64 (p:Int)] (0,0) (0,0) _ _ rfl rfl ((K1.out.drew.row _).row_other (by omega) _) ((K2.out.drew.row_other (by omega) _).row _) Tryz.underlying27 rfl infoBx Tryz.underlying32 rfl infoSp) rfl ⟨by rw[HXX.out],below_row (below_row KX.out.drew (Nat.le_refl _) _) (by omega) _⟩
 |ok x=>
  obtain⟨⟨l,h⟩,n⟩:=x
  obtain⟨a,b,y0,hs0,hn0,hl0,hh0⟩:=bx_is hb
  have hhl:=(host_ok (hst_is hh0).2.2.1).1.len
  obtain⟨D,hD⟩:∃D:Array Value,D=boxC l h:=⟨_,rfl⟩
  have hDz:D.size=19:=by rw[hD];exact boxC_size l h hhl
  have hDo:D.all (·.oneCell')=true:=by rw[hD];exact boxC_one l h
  have HB1:Hid (Calls Tryz.prog 39 #[.string s,.int .i64 0,.bool wide] wA fun e w'=>e=.returned (.tuple #[.agg D,.int .i64 (n:Int),.agg #[.int .i64 0,.int .i64 0]])∧Below wA.heap.size wA w'):=by
   have:=HBX.out wA KB.out
   rw[hb,bxV,Nat.zero_add,←hD]at this
   exact this
  have HX2:Hid (bbV X=if n<s.size then .tuple #[.agg #[.string ⟨#[]⟩,.int .i64 0,.string ⟨#[]⟩,.int .u8 0,.int .u8 0,.int .u8 0,.int .u8 0,.int .u8 0,.int .u8 0,.int .u8 0,.int .u8 0,.int .u8 0,.int .u8 0,.int .u8 0,.int .u8 0,.int .u8 0,.int .u8 0,.int .u8 0,.int .u8 0],.agg #[.int .i64 93,.int .i64 (n:Int)]] else .tuple #[.agg D,.agg #[.int .i64 0,.int .i64 0]]):=by
   show _=_
   rw[HX.out,hD]
   unfold box
   rw[hb]
   dsimp only
   rw[len_list]
   split<;>rfl
  clear HX HBX hb hD hs0 hn0 hl0 hh0 hhl
  go_wp2_with fail
  refine HB1.out.mono ?_
  rintro e y ⟨rfl,hb2⟩
  clear HB1
  have hgt:w.heap.size+1<y.heap.size:=Nat.lt_of_lt_of_le L2.out.lt hb2.size
  have A:Hid (Lies ((y.alloc (.cells #[.string ⟨#[]⟩,.int .i64 0,.string ⟨#[]⟩,.int .u8 0,.int .u8 0,.int .u8 0,.int .u8 0,.int .u8 0,.int .u8 0,.int .u8 0,.int .u8 0,.int .u8 0,.int .u8 0,.int .u8 0,.int .u8 0,.int .u8 0,.int .u8 0,.int .u8 0,.int .u8 0] 27)).alloc (.cells #[.int .i64 0,.int .i64 0] 32)) y.heap.size #[.string ⟨#[]⟩,.int .i64 0,.string ⟨#[]⟩,.int .u8 0,.int .u8 0,.int .u8 0,.int .u8 0,.int .u8 0,.int .u8 0,.int .u8 0,.int .u8 0,.int .u8 0,.int .u8 0,.int .u8 0,.int .u8 0,.int .u8 0,.int .u8 0,.int .u8 0,.int .u8 0] 27):=(Lies.new y _ _).alloc _
  have B:Hid (Lies ((y.alloc (.cells #[.string ⟨#[]⟩,.int .i64 0,.string ⟨#[]⟩,.int .u8 0,.int .u8 0,.int .u8 0,.int .u8 0,.int .u8 0,.int .u8 0,.int .u8 0,.int .u8 0,.int .u8 0,.int .u8 0,.int .u8 0,.int .u8 0,.int .u8 0,.int .u8 0,.int .u8 0,.int .u8 0] 27)).alloc (.cells #[.int .i64 0,.int .i64 0] 32)) (y.heap.size+1) #[.int .i64 0,.int .i64 0] 32):=new_one y _ _ _
  have M1:Hid (Lies ((((y.alloc (.cells #[.string ⟨#[]⟩,.int .i64 0,.string ⟨#[]⟩,.int .u8 0,.int .u8 0,.int .u8 0,.int .u8 0,.int .u8 0,.int .u8 0,.int .u8 0,.int .u8 0,.int .u8 0,.int .u8 0,.int .u8 0,.int .u8 0,.int .u8 0,.int .u8 0,.int .u8 0,.int .u8 0] 27)).alloc (.cells #[.int .i64 0,.int .i64 0] 32)).setRow y.heap.size D).setRow (y.heap.size+1) #[.int .i64 0,.int .i64 0]) y.heap.size D 27):=(A.out.row _).row_other (by omega) _
  have N1:Hid (Lies ((((y.alloc (.cells #[.string ⟨#[]⟩,.int .i64 0,.string ⟨#[]⟩,.int .u8 0,.int .u8 0,.int .u8 0,.int .u8 0,.int .u8 0,.int .u8 0,.int .u8 0,.int .u8 0,.int .u8 0,.int .u8 0,.int .u8 0,.int .u8 0,.int .u8 0,.int .u8 0,.int .u8 0,.int .u8 0] 27)).alloc (.cells #[.int .i64 0,.int .i64 0] 32)).setRow y.heap.size D).setRow (y.heap.size+1) #[.int .i64 0,.int .i64 0]) (y.heap.size+1) #[.int .i64 0,.int .i64 0] 32):=(B.out.row_other (by omega) _).row _
  have BB:Hid (Below y.heap.size y ((((y.alloc (.cells #[.string ⟨#[]⟩,.int .i64 0,.string ⟨#[]⟩,.int .u8 0,.int .u8 0,.int .u8 0,.int .u8 0,.int .u8 0,.int .u8 0,.int .u8 0,.int .u8 0,.int .u8 0,.int .u8 0,.int .u8 0,.int .u8 0,.int .u8 0,.int .u8 0,.int .u8 0,.int .u8 0] 27)).alloc (.cells #[.int .i64 0,.int .i64 0] 32)).setRow y.heap.size D).setRow (y.heap.size+1) #[.int .i64 0,.int .i64 0])):=below_row (below_row (((Below.refl _ _).alloc (Nat.le_refl _) _).alloc (by simp) _) (Nat.le_refl _) _) (by omega) _
  have K1:Hid (Lies ((((y.alloc (.cells #[.string ⟨#[]⟩,.int .i64 0,.string ⟨#[]⟩,.int .u8 0,.int .u8 0,.int .u8 0,.int .u8 0,.int .u8 0,.int .u8 0,.int .u8 0,.int .u8 0,.int .u8 0,.int .u8 0,.int .u8 0,.int .u8 0,.int .u8 0,.int .u8 0,.int .u8 0,.int .u8 0] 27)).alloc (.cells #[.int .i64 0,.int .i64 0] 32)).setRow y.heap.size D).setRow (y.heap.size+1) #[.int .i64 0,.int .i64 0]) w.heap.size #[.string ⟨#[]⟩,.int .i64 0,.string ⟨#[]⟩,.int .u8 0,.int .u8 0,.int .u8 0,.int .u8 0,.int .u8 0,.int .u8 0,.int .u8 0,.int .u8 0,.int .u8 0,.int .u8 0,.int .u8 0,.int .u8 0,.int .u8 0,.int .u8 0,.int .u8 0,.int .u8 0] 27):=(L1.out.below hb2 L1.out.lt).below BB.out (by omega)
  have K2:Hid (Lies ((((y.alloc (.cells #[.string ⟨#[]⟩,.int .i64 0,.string ⟨#[]⟩,.int .u8 0,.int .u8 0,.int .u8 0,.int .u8 0,.int .u8 0,.int .u8 0,.int .u8 0,.int .u8 0,.int .u8 0,.int .u8 0,.int .u8 0,.int .u8 0,.int .u8 0,.int .u8 0,.int .u8 0,.int .u8 0] 27)).alloc (.cells #[.int .i64 0,.int .i64 0] 32)).setRow y.heap.size D).setRow (y.heap.size+1) #[.int .i64 0,.int .i64 0]) (w.heap.size+1) #[.int .i64 0,.int .i64 0] 32):=(L2.out.below hb2 L2.out.lt).below BB.out hgt
  have KX:Hid (Below w.heap.size w ((((y.alloc (.cells #[.string ⟨#[]⟩,.int .i64 0,.string ⟨#[]⟩,.int .u8 0,.int .u8 0,.int .u8 0,.int .u8 0,.int .u8 0,.int .u8 0,.int .u8 0,.int .u8 0,.int .u8 0,.int .u8 0,.int .u8 0,.int .u8 0,.int .u8 0,.int .u8 0,.int .u8 0,.int .u8 0] 27)).alloc (.cells #[.int .i64 0,.int .i64 0] 32)).setRow y.heap.size D).setRow (y.heap.size+1) #[.int .i64 0,.int .i64 0])):=(KB.out.trans (hb2.mono KB.out.size)).trans (BB.out.mono (by omega))
  clear hb2 L1 L2 KB
  go_upto_region 2 with(first|(refine wpList_store_row rfl 27 _ _ rfl y.heap.size rfl _ D rfl 27 A.out (by rw[hDz];exact infoBx) (by rw[hDz];rfl) hDo rfl ?_)|(refine wpList_store_row rfl 32 _ _ rfl (y.heap.size+1) rfl _ #[.int .i64 0,.int .i64 0] rfl 32 (B.out.row_other (by omega) _) infoSp rfl (by simp[Value.oneCell']) rfl ?_))
  generalize hv:(((y.alloc (.cells #[.string ⟨#[]⟩,.int .i64 0,.string ⟨#[]⟩,.int .u8 0,.int .u8 0,.int .u8 0,.int .u8 0,.int .u8 0,.int .u8 0,.int .u8 0,.int .u8 0,.int .u8 0,.int .u8 0,.int .u8 0,.int .u8 0,.int .u8 0,.int .u8 0,.int .u8 0,.int .u8 0] 27)).alloc (.cells #[.int .i64 0,.int .i64 0] 32)).setRow y.heap.size D).setRow (y.heap.size+1) #[.int .i64 0,.int .i64 0]=v1 at M1 N1 K1 K2 KX ⊢
  clear hv A B BB
  generalize y.heap.size=g at hgt M1 N1 ⊢
  have c0:=N1.out.cell 0
  have c1:=N1.out.cell 1
  simp at c0 c1
  by_cases hlt:n<s.size
  ·have hlt':(n:Int)<(s.size:Int):=by omega
   have HXX:Hid (bbV X=.tuple #[.agg #[.string ⟨#[]⟩,.int .i64 0,.string ⟨#[]⟩,.int .u8 0,.int .u8 0,.int .u8 0,.int .u8 0,.int .u8 0,.int .u8 0,.int .u8 0,.int .u8 0,.int .u8 0,.int .u8 0,.int .u8 0,.int .u8 0,.int .u8 0,.int .u8 0,.int .u8 0,.int .u8 0],.agg #[.int .i64 93,.int .i64 (n:Int)]]):=by show _=_;rw[HX2.out,if_pos hlt]
   clear HX2 hlt
   go_wp2_with (first|(refine wpList_store_row rfl 27 _ _ rfl w.heap.size rfl _ #[.string ⟨#[]⟩,.int .i64 0,.string ⟨#[]⟩,.int .u8 0,.int .u8 0,.int .u8 0,.int .u8 0,.int .u8 0,.int .u8 0,.int .u8 0,.int .u8 0,.int .u8 0,.int .u8 0,.int .u8 0,.int .u8 0,.int .u8 0,.int .u8 0,.int .u8 0,.int .u8 0] rfl 27 K1.out infoBx rfl (by simp[Value.oneCell']) rfl ?_)|(refine wpList_store_row rfl 32 _ _ rfl (w.heap.size+1) rfl _ #[.int .i64 93,.int .i64 (n:Int)] rfl 32 (K2.out.row_other (by omega) _) infoSp rfl (by simp[Value.oneCell']) rfl ?_))
   refine bodyPost_ret (results_two (p:=4) (q:=5) (by kernel_rfl) _ _ w.heap.size (w.heap.size+1) 27 32 #[.string ⟨#[]⟩,.int .i64 0,.string ⟨#[]⟩,.int .u8 0,.int .u8 0,.int .u8 0,.int .u8 0,.int .u8 0,.int .u8 0,.int .u8 0,.int .u8 0,.int .u8 0,.int .u8 0,.int .u8 0,.int .u8 0,.int .u8 0,.int .u8 0,.int .u8 0,.int .u8 0] #[.int .i64 93,.int .i64 (n:Int)] (0,0) (0,0) _ _ rfl rfl ((K1.out.row _).row_other (by omega) _) ((K2.out.row_other (by omega) _).row _) Tryz.underlying27 rfl infoBx Tryz.underlying32 rfl infoSp) rfl ⟨by rw[HXX.out],below_row (below_row KX.out (Nat.le_refl _) _) (by omega) _⟩
  ·have hlt':¬(n:Int)<(s.size:Int):=by omega
   have HXX:Hid (bbV X=.tuple #[.agg D,.agg #[.int .i64 0,.int .i64 0]]):=by show _=_;rw[HX2.out,if_neg hlt]
   clear HX2 hlt
   go_wp2_with (first|(refine wpList_load_row rfl 27 _ rfl g rfl D 27 _ M1.out Tryz.underlying27 rfl (by rw[hDz];exact infoBx) ?_)|(refine wpList_store_row rfl 27 _ _ rfl w.heap.size rfl _ D rfl 27 K1.out (by rw[hDz];exact infoBx) (by rw[hDz];rfl) hDo rfl ?_)|(refine wpList_store_row rfl 32 _ _ rfl (w.heap.size+1) rfl _ #[.int .i64 0,.int .i64 0] rfl 32 (K2.out.row_other (by omega) _) infoSp rfl (by simp[Value.oneCell']) rfl ?_))
   refine bodyPost_ret (results_two (p:=4) (q:=5) (by kernel_rfl) _ _ w.heap.size (w.heap.size+1) 27 32 D #[.int .i64 0,.int .i64 0] (0,0) (0,0) _ _ rfl rfl ((K1.out.row _).row_other (by omega) _) ((K2.out.row_other (by omega) _).row _) Tryz.underlying27 rfl (by rw[hDz];exact infoBx) Tryz.underlying32 rfl infoSp) rfl ⟨by rw[HXX.out],below_row (below_row KX.out (Nat.le_refl _) _) (by omega) _⟩
theorem step_34 (q:Q) (hq:q.1≠0→128≤q.2.1):stepQ q 34=if q.1=0 then some (0,0,0) else none:=by
 unfold stepQ
 by_cases h:q.1=0
 ·rw[if_pos h,if_pos h]
  rfl
 ·rw[if_neg h,if_neg h,if_pos (.inl (by have:=hq h;omega))]
theorem beg_low {b:Nat} {q:Q} (h:begQ b=some q):q.1≠0→128≤q.2.1:=by
 unfold begQ at h
 repeat' split at h
 all_goals first|(cases h;done)|(cases h;decide)
theorem step_low {q q':Q} {b:Nat} (h:stepQ q b=some q'):q'.1≠0→128≤q'.2.1:=by
 unfold stepQ at h
 split at h
 ·exact beg_low h
 ·split at h
  ·cases h
  ·split at h
   ·cases h;decide
   ·cases h;exact fun _=>Nat.le_refl _
theorem badUA_mark:∀(l:List UInt8) (q:Q) (n w:Nat),w≤n→(q.1=0↔w=n)→(q.1≠0→128≤q.2.1)→badUA q n w (l++[34])=if badUA q n w l=n+l.length then n+l.length+1 else badUA q n w l
 |[],q,n,w,hw,hq,hl=>by
  have e34:stepQ q (34:UInt8).toNat=if q.1=0 then some (0,0,0) else none:=step_34 q hl
  by_cases h:q.1=0
  ·have e:=hq.1 h
   subst e
   rw[if_pos h]at e34
   simp only[List.nil_append,badUA,e34,List.length_nil,Nat.add_zero,if_true]
  ·rw[if_neg h]at e34
   have hne:¬badUA q n w []=n+([]:List UInt8).length:=fun e=>h (hq.2 e)
   rw[if_neg hne]
   simp only[List.nil_append,badUA,e34]
 |b::t,q,n,w,hw,hq,hl=>by
  rw[List.cons_append,badUA,badUA]
  cases hs:stepQ q b.toNat with
  |none=>
   dsimp only
   rw[List.length_cons,if_neg (by omega)]
  |some q1=>
   dsimp only
   have:=badUA_mark t q1 (n+1) (if q1.1=0 then n+1 else w) (by split<;>omega) (by
    by_cases h:q1.1=0
    ·rw[if_pos h];exact⟨fun _=>rfl,fun _=>h⟩
    ·rw[if_neg h];exact⟨fun e=>absurd e h,fun e=>by omega⟩) (step_low hs)
   rw[this,List.length_cons]
   have e:n+1+t.length=n+(t.length+1):=by omega
   rw[e]
theorem badU_mark (l:List UInt8):badU (l++[34])=if badU l=l.length then l.length+1 else badU l:=by
 have:=badUA_mark l q0 0 0 (Nat.le_refl _) ⟨fun _=>rfl,fun _=>rfl⟩ (fun h=>absurd rfl h)
 rw[Nat.zero_add]at this
 exact this
theorem badU_low {c:UInt8} (h:c.toNat<128) (r:List UInt8):badU (c::r)=1+badU r:=by
 have h1:oneN (c::r)=some ((c.toNat:Int),1):=by
  show(if c.toNat<128 then _ else _)=_
  exact if_pos h
 rw[badU_some h1]
 rfl
theorem spB_mark (l:List UInt8):spB loB (l++[34])=if spB loB l=l.length then l.length+1 else spB loB l:=by
 induction l with
 |nil=>rfl
 |cons c r ih=>
  rw[List.cons_append,spB,spB,ih,List.length_cons]
  by_cases h:loB c=true
  ·rw[if_pos h,if_pos h]
   by_cases h2:spB loB r=r.length
   ·rw[if_pos h2,if_pos (by omega)]
   ·rw[if_neg h2,if_neg (by omega)]
  ·rw[if_neg h,if_neg h,if_neg (by omega)]
theorem lo_34:loB 34=true:=by decide
def fwL (wide:Bool) (l:List UInt8):Nat:=if wide=true then badU l else spB loB l
theorem fwL_le (wide:Bool) (l:List UInt8):fwL wide l≤l.length:=by
 unfold fwL
 split
 ·exact badU_le l
 ·exact spB_le loB l
theorem fwL_mark (wide:Bool) (l:List UInt8):fwL wide (34::(l++[34]))=if fwL wide l=l.length then l.length+2 else 1+fwL wide l:=by
 unfold fwL
 cases wide
 ·simp only[Bool.false_eq_true,if_false]
  rw[spB,if_pos lo_34,spB_mark]
  split<;>omega
 ·simp only[if_true]
  rw[badU_low (show(34:UInt8).toNat<128 by decide),badU_mark]
  split<;>omega
theorem badU_lows:∀(l:List UInt8),spB loB l=l.length→badU l=l.length
 |[],_=>rfl
 |c::r,h=>by
  rw[spB,List.length_cons]at h
  by_cases hc:loB c=true
  ·rw[if_pos hc]at h
   rw[badU_low (by unfold loB at hc;simpa using hc),badU_lows r (by omega),List.length_cons]
   omega
  ·rw[if_neg hc]at h
   omega
theorem finL_fw (wide:Bool) (b:List UInt8) (f:Nat) (m:List UInt8) (n:Nat):finL wide b f m n=if 64<n then .error (90,0) else if fwL wide b<b.length then .error (94,f+fwL wide b) else .ok (m,n):=by
 unfold finL fwL
 by_cases h:64<n
 ·rw[if_pos h,if_pos h]
 ·rw[if_neg h,if_neg h]
  cases wide
  ·rw[if_neg (show ¬(false=true) by decide)]
   by_cases h1:spB loB b<b.length
   ·rw[if_pos ⟨rfl,h1⟩,if_pos h1]
   ·rw[if_neg (fun x=>h1 x.2),if_neg h1]
    have h2:=badU_lows b (by have:=spB_le loB b;omega)
    rw[if_neg (by omega)]
  ·rw[if_neg (fun x=>by cases x.1),if_pos rfl]
def shE {α:Type} (a:Nat):Except (Nat×Nat) (α×Nat)→Except (Nat×Nat) (α×Nat)
 | .ok (x,n)=>.ok (x,a+n)
 | .error (e,p)=>.error (e,a+p)
def meL (s:List UInt8):Except (Nat×Nat) (List UInt8×Nat):=
 if s.head?=some 34 then (match qtM 1 false (s.drop 1) with
  | .ok (m,n)=>.ok (m,n)
  | .error none=>.error (91,0)
  | .error (some p)=>.error (90,p))
 else if rowL s=0 then .error (90,0)
 else .ok (s.take (rowL s),rowL s)
theorem qtM_ends:∀(s:List UInt8) (i:Nat) (b:Bool) (m:List UInt8) (n:Nat),qtM i b s=.ok (m,n)→i<n∧n - i≤s.length∧s.take (n - i)=s.take (n - 1 - i)++[34]
 |[],i,b,m,n,h=>by unfold qtM at h;cases h
 |c::r,i,true,m,n,h=>by
  rw[qtM]at h
  split at h
  ·obtain⟨m',rfl,h'⟩:=preQ_ok h
   obtain⟨h1,h2,h3⟩:=qtM_ends r (i+1) false m' n h'
   refine⟨by omega,by rw[List.length_cons];omega,?_⟩
   have e1:n - i=(n - (i+1))+1:=by omega
   have e2:n - 1 - i=(n - 1 - (i+1))+1:=by omega
   rw[e1,e2,List.take_succ_cons,List.take_succ_cons,h3,List.cons_append]
  ·cases h
 |c::r,i,false,m,n,h=>by
  rw[qtM]at h
  split at h
  ·rename_i hc
   injection h with h
   injection h with h1 h2
   subst h2
   refine⟨by omega,by rw[List.length_cons];omega,?_⟩
   have e1:i+1 - i=1:=by omega
   have e2:i+1 - 1 - i=0:=by omega
   rw[e1,e2,hc]
   rfl
  ·split at h
   ·obtain⟨h1,h2,h3⟩:=qtM_ends r (i+1) true m n h
    refine⟨by omega,by rw[List.length_cons];omega,?_⟩
    have h4:i+1≠n - 1∨True:=.inr trivial
    have e1:n - i=(n - (i+1))+1:=by omega
    by_cases hz:n - 1 - i=0
    ·have:n - (i+1)=0:=by omega
     omega
    ·have e2:n - 1 - i=(n - 1 - (i+1))+1:=by omega
     rw[e1,e2,List.take_succ_cons,List.take_succ_cons,h3,List.cons_append]
   ·split at h
    ·obtain⟨m',rfl,h'⟩:=preQ_ok h
     obtain⟨h1,h2,h3⟩:=qtM_ends r (i+1) false m' n h'
     refine⟨by omega,by rw[List.length_cons];omega,?_⟩
     have e1:n - i=(n - (i+1))+1:=by omega
     have e2:n - 1 - i=(n - 1 - (i+1))+1:=by omega
     rw[e1,e2,List.take_succ_cons,List.take_succ_cons,h3,List.cons_append]
    ·cases h
theorem lcl_me (wide:Bool) (s:List UInt8):lcl wide s=match meL s with
  | .error e=>.error e
  | .ok (m,n)=>if 64<n then .error (90,0) else if fwL wide (s.take n)<(s.take n).length then .error (94,fwL wide (s.take n)) else .ok (m,n):=by
 unfold lcl meL
 by_cases h:s.head?=some 34
 ·rw[if_pos h,if_pos h]
  cases hq:qtM 1 false (s.drop 1) with
  |error x=>
   cases x<;>rfl
  |ok x=>
   obtain⟨m,n⟩:=x
   obtain⟨h1,h2,h3⟩:=qtM_ends _ _ _ _ _ hq
   dsimp only
   rw[finL_fw]
   obtain⟨c,r,rfl⟩:∃c r,s=c::r:=by
    cases s with
    |nil=>cases h
    |cons c r=>exact⟨c,r,rfl⟩
   rw[List.head?_cons]at h
   injection h with h
   subst h
   rw[List.drop_succ_cons,List.drop_zero]at h2 h3 ⊢
   have e1:n=(n - 1)+1:=by omega
   have ht:(34::r).take n=34::(r.take (n - 2)++[34]):=by
    have e3:n - 1 - 1=n - 2:=by omega
    rw[e3]at h3
    conv=>lhs;rw[e1]
    rw[List.take_succ_cons,h3]
   rw[ht,fwL_mark]
   have hl:(r.take (n - 2)).length=n - 2:=by rw[List.length_take];omega
   have hle:=fwL_le wide (r.take (n - 2))
   rw[hl]at hle
   have hll:(34::(r.take (n - 2)++[34])).length=n:=by
    rw[List.length_cons,List.length_append,hl,List.length_singleton]
    omega
   rw[hll,hl]
   by_cases h6:64<n
   ·rw[if_pos h6,if_pos h6]
   ·rw[if_neg h6,if_neg h6]
    by_cases h7:fwL wide (r.take (n - 2))=n - 2
    ·rw[if_neg (by omega),if_pos h7,if_neg (by omega)]
    ·rw[if_pos (by omega),if_neg h7,if_pos (by omega)]
 ·rw[if_neg h,if_neg h]
  by_cases h0:rowL s=0
  ·rw[if_pos h0,if_pos h0]
  ·rw[if_neg h0,if_neg h0,finL_fw]
   dsimp only
   rw[Nat.zero_add]
theorem meL_le {s m:List UInt8} {n:Nat} (h:meL s=.ok (m,n)):n≤s.length:=by
 unfold meL at h
 split at h
 ·cases hq:qtM 1 false (s.drop 1) with
  |error x=>rw[hq]at h;cases x<;>cases h
  |ok x=>
   obtain⟨m',n'⟩:=x
   rw[hq]at h
   dsimp only at h
   injection h with h
   injection h with h1 h2
   subst h2
   obtain⟨h1,h2,_⟩:=qtM_ends _ _ _ _ _ hq
   rw[List.length_drop]at h2
   omega
 ·split at h
  ·cases h
  ·injection h with h
   injection h with h1 h2
   subst h2
   exact rowL_le s
end Go.Proofs.YtfjpkfhbmldmfaaGreatDoor
namespace Go.Proofs
def Tryz.lays119_ren:Go.Shelf.Ren:=⟨fun|119=>192|n=>n,fun|21=>21|4=>4|n=>n,fun|n=>n⟩
theorem Tryz.lays119:Go.Proofs.Lays.n119 Tryz.prog Tryz.lays119_ren:={
 mixed:=by kernel_rfl
 f119:=Tryz.func192.trans (congrArg some (by kernel_rfl))
 t4:=Tryz.underlying4
 a4:=Tryz.isAgg4
 z4:=Tryz.sizeOf4
 v4:=Tryz.zeroValue4
 t21:=Tryz.underlying21
 a21:=Tryz.isAgg21
 z21:=Tryz.sizeOf21
 v21:=Tryz.zeroValue21}
theorem Tryz.utf8_ValidRune (r:Int) (w:World):
 Calls Tryz.prog 192 #[.int .i32 r] w fun e w'=>e=.returned (.bool (Lib.validRune r))∧w'=w:=Any.utf8_ValidRune Tryz.lays119 r w
def Tryz.lays99_ren:Go.Shelf.Ren:=⟨fun|99=>129|206=>168|n=>n,fun|9=>9|4=>4|3=>3|n=>n,fun|n=>n⟩
theorem Tryz.lays99:Go.Proofs.Lays.n99 Tryz.prog Tryz.lays99_ren:={
 mixed:=by kernel_rfl
 f99:=Tryz.func129.trans (congrArg some (by kernel_rfl))
 f206:=Tryz.func168.trans (congrArg some (by kernel_rfl))
 t3:=Tryz.underlying3
 a3:=Tryz.isAgg3
 z3:=Tryz.sizeOf3
 v3:=Tryz.zeroValue3
 t4:=Tryz.underlying4
 a4:=Tryz.isAgg4
 z4:=Tryz.sizeOf4
 v4:=Tryz.zeroValue4
 t9:=Tryz.underlying9
 a9:=Tryz.isAgg9
 z9:=Tryz.sizeOf9
 v9:=Tryz.zeroValue9}
open Go.RowKit Go.Lib in
theorem Tryz.strings_HasPrefix (s p:ByteArray) (w:World):
 Calls Tryz.prog 129 #[.string s,.string p] w fun e w'=>e=.returned (.bool (Lib.hasPrefix s.data.toList p.data.toList))∧w'=w:=Any.strings_HasPrefix Tryz.lays99 s p w
def Tryz.lays152_ren:Go.Shelf.Ren:=⟨fun|152=>164|137=>114|119=>192|224=>193|225=>194|217=>151|266=>182|n=>n,fun|9=>9|21=>21|3=>3|4=>4|5=>5|0=>0|46=>155|n=>n,fun|n=>n⟩
theorem Tryz.lays152:Go.Proofs.Lays.n152 Tryz.prog Tryz.lays152_ren:={
 mixed:=by kernel_rfl
 f119:=Tryz.func192.trans (congrArg some (by kernel_rfl))
 f137:=Tryz.func114.trans (congrArg some (by kernel_rfl))
 f152:=Tryz.func164.trans (congrArg some (by kernel_rfl))
 f217:=Tryz.func151.trans (congrArg some (by kernel_rfl))
 f224:=Tryz.func193.trans (congrArg some (by kernel_rfl))
 f225:=Tryz.func194.trans (congrArg some (by kernel_rfl))
 f266:=Tryz.func182.trans (congrArg some (by kernel_rfl))
 t0:=Tryz.underlying0
 a0:=Tryz.isAgg0
 z0:=Tryz.sizeOf0
 v0:=Tryz.zeroValue0
 t3:=Tryz.underlying3
 a3:=Tryz.isAgg3
 z3:=Tryz.sizeOf3
 v3:=Tryz.zeroValue3
 t4:=Tryz.underlying4
 a4:=Tryz.isAgg4
 z4:=Tryz.sizeOf4
 v4:=Tryz.zeroValue4
 t5:=Tryz.underlying5
 a5:=Tryz.isAgg5
 z5:=Tryz.sizeOf5
 v5:=Tryz.zeroValue5
 t9:=Tryz.underlying9
 a9:=Tryz.isAgg9
 z9:=Tryz.sizeOf9
 v9:=Tryz.zeroValue9
 t21:=Tryz.underlying21
 a21:=Tryz.isAgg21
 z21:=Tryz.sizeOf21
 v21:=Tryz.zeroValue21
 t46:=Tryz.underlying155
 a46:=Tryz.isAgg155
 z46:=Tryz.sizeOf155
 v46:=Tryz.zeroValue155}
open Go.RowKit Go.Lib in
theorem Tryz.strings_IndexRune_ascii (s:ByteArray) (r:Int) (w:World) (h0:0≤r) (h1:r<128):
 Calls Tryz.prog 164 #[.string s,.int .i32 r] w fun e w'=>e=.returned (.int .i64 (Lib.indexByte s.data.toList r.toNat.toUInt8))∧w'=w:=Any.strings_IndexRune_ascii Tryz.lays152 s r w h0 h1
def Tryz.lays226_ren:Go.Shelf.Ren:=⟨fun|226=>165|n=>n,fun|3=>3|4=>4|n=>n,fun|n=>n⟩
theorem Tryz.lays226:Go.Proofs.Lays.n226 Tryz.prog Tryz.lays226_ren:={
 mixed:=by kernel_rfl
 f226:=Tryz.func165.trans (congrArg some (by kernel_rfl))
 t3:=Tryz.underlying3
 a3:=Tryz.isAgg3
 z3:=Tryz.sizeOf3
 v3:=Tryz.zeroValue3
 t4:=Tryz.underlying4
 a4:=Tryz.isAgg4
 z4:=Tryz.sizeOf4
 v4:=Tryz.zeroValue4}
open Go.RowKit Go.Lib in
theorem Tryz.strings_shouldUseASCIISet (n:Int) (w:World):
 Calls Tryz.prog 165 #[.int .i64 n] w fun e w'=>e=.returned (.bool (decide (8<n)))∧w'=w:=Any.strings_shouldUseASCIISet Tryz.lays226 n w
def Tryz.lays227_ren:Go.Shelf.Ren:=⟨fun|227=>166|n=>n,fun|9=>9|116=>175|4=>4|0=>0|3=>3|5=>5|n=>n,fun|n=>n⟩
theorem Tryz.lays227:Go.Proofs.Lays.n227 Tryz.prog Tryz.lays227_ren:={
 mixed:=by kernel_rfl
 f227:=Tryz.func166.trans (congrArg some (by kernel_rfl))
 t0:=Tryz.underlying0
 a0:=Tryz.isAgg0
 z0:=Tryz.sizeOf0
 v0:=Tryz.zeroValue0
 t3:=Tryz.underlying3
 a3:=Tryz.isAgg3
 z3:=Tryz.sizeOf3
 v3:=Tryz.zeroValue3
 t4:=Tryz.underlying4
 a4:=Tryz.isAgg4
 z4:=Tryz.sizeOf4
 v4:=Tryz.zeroValue4
 t5:=Tryz.underlying5
 a5:=Tryz.isAgg5
 z5:=Tryz.sizeOf5
 v5:=Tryz.zeroValue5
 t9:=Tryz.underlying9
 a9:=Tryz.isAgg9
 z9:=Tryz.sizeOf9
 v9:=Tryz.zeroValue9
 t116:=Tryz.underlying175
 a116:=Tryz.isAgg175
 z116:=Tryz.sizeOf175}
open Go.RowKit Go.Lib in
theorem Tryz.strings_makeASCIISet (hv116:∀w,(zeroValue 175).run Tryz.prog w=.ok (.agg (Array.replicate 256 (.bool false))) w) (chars:ByteArray) (w:World) (hs:chars.size<4294967281) (hascii:∀(j:Nat) b,chars.data.toList[j]?=some b→b.toNat<128):
 Calls Tryz.prog 166 #[.string chars] w fun e w'=>e=.returned (.tuple #[.agg (Lib.setCells chars.data.toList),.bool true])∧w'=w.alloc (.cells (Lib.setCells chars.data.toList) 175):=Any.strings_makeASCIISet Tryz.lays227 hv116 (by kernel_rfl) chars w hs hascii
def Tryz.lays228_ren:Go.Shelf.Ren:=⟨fun|228=>167|n=>n,fun|124=>191|5=>5|4=>4|0=>0|116=>175|n=>n,fun|n=>n⟩
theorem Tryz.lays228:Go.Proofs.Lays.n228 Tryz.prog Tryz.lays228_ren:={
 mixed:=by kernel_rfl
 f228:=Tryz.func167.trans (congrArg some (by kernel_rfl))
 t0:=Tryz.underlying0
 a0:=Tryz.isAgg0
 z0:=Tryz.sizeOf0
 v0:=Tryz.zeroValue0
 t4:=Tryz.underlying4
 a4:=Tryz.isAgg4
 z4:=Tryz.sizeOf4
 v4:=Tryz.zeroValue4
 t5:=Tryz.underlying5
 a5:=Tryz.isAgg5
 z5:=Tryz.sizeOf5
 v5:=Tryz.zeroValue5
 t116:=Tryz.underlying175
 a116:=Tryz.isAgg175
 z116:=Tryz.sizeOf175
 t124:=Tryz.underlying191
 a124:=Tryz.isAgg191
 z124:=Tryz.sizeOf191
 v124:=Tryz.zeroValue191}
open Go.RowKit Go.Lib in
theorem Tryz.asciiSet_contains (b:Nat) (x:UInt8) (v:Bool) (w:World) (hc:w.cell? ⟨b,x.toNat,none⟩=some (.bool v)):
 Calls Tryz.prog 167 #[.pointer (some ⟨b,0,none⟩),.int .u8 x.toNat] w fun e w'=>e=.returned (.bool v)∧w'=w:=Any.asciiSet_contains Tryz.lays228 b x v w hc
end Go.Proofs
namespace Go.Proofs.YtfjpkfhbmldmfaaGreatDoor
open Go.RowKit
theorem oper_val {P:Program} {op:Oper} {a:Act} {w:World} {K:Act→World→Prop} {Q:Exit→Act→World→Prop} (d:Option Tmp) (v:Value) (hd:op.dst=d) (hy:(execOp a.eval op).run P w=.ok (.value v) w) (h:K (a.put d v) w):op.wp P a w K Q:=by
 subst hd
 unfold Oper.wp
 rw[hy]
 exact h
theorem oper_skip {P:Program} {op:Oper} {a:Act} {w w':World} {K:Act→World→Prop} {Q:Exit→Act→World→Prop} (hy:(execOp a.eval op).run P w=.ok .skip w') (hd:op.dst=none) (h:K a w'):op.wp P a w K Q:=by
 unfold Oper.wp
 rw[hy]
 have e:a.put op.dst undef=a:=by rw[hd];rfl
 exact(show K (a.put op.dst undef) w' from by rw[e];exact h)
theorem wrap_add (x y:Int) (hx:0≤x) (hy:0≤y) (hxy:x+y≤9223372036854775807):IntKind.i64.wrap (x+y)=x+y:=by rw[IntKind.wrap_i64];omega
theorem oper_valw {P:Program} {op:Oper} {a:Act} {w w':World} {K:Act→World→Prop} {Q:Exit→Act→World→Prop} (d:Option Tmp) (v:Value) (hd:op.dst=d) (hy:(execOp a.eval op).run P w=.ok (.value v) w') (h:K (a.put d v) w'):op.wp P a w K Q:=by
 subst hd
 unfold Oper.wp
 rw[hy]
 exact h
theorem oper_call {P:Program} {op:Oper} {a:Act} {w:World} {K:Act→World→Prop} {Q:Exit→Act→World→Prop} (d:Option Tmp) (f:FuncId) (args:Array Value) (R:Value→World→Prop) (hd:op.dst=d) (hy:(execOp a.eval op).run P w=.ok (.enter f args) w)
  (hc:Calls P f args w fun e w'=>∃v,e=.returned v∧R v w') (h:∀v w',R v w'→K (a.put d v) w'):op.wp P a w K Q:=by
 subst hd
 unfold Oper.wp
 rw[hy,Oper.upon_enter]
 refine hc.mono ?_
 rintro e w' ⟨v,rfl,hr⟩
 exact h v w' hr
theorem wpAnyE_two {P:Program} {ops:Array Oper} {Q:Exit→Act→World→Prop} {md:Region.Mode} {S:World→Prop} {L:Nat} {fuel:Nat} {listed:Array Bool} {a:Act} {w:World} (i j:Nat) {o p:Oper} (hr:Region.ready md ops listed=[i,j]) (hi:ops[i]?=some o) (hj:ops[j]?=some p)
  (hw:Region.wanted o (yielded ops a.tmps)=true) (hv:Region.wanted p (yielded ops a.tmps)=true)
  (h:o.wp P a w (fun a' w'=>(i=L∨S w')∧wpAnyE P md ops Q S L fuel (listed.setIfInBounds i true) a' w') Q)
  (k:p.wp P a w (fun a' w'=>(j=L∨S w')∧wpAnyE P md ops Q S L fuel (listed.setIfInBounds j true) a' w') Q):wpAnyE P md ops Q S L (fuel+1) listed a w:=
 ⟨fun h0=>(by rw[h0]at hr;cases hr),fun x hx=>by
  rw[hr]at hx
  simp only[List.mem_cons,List.not_mem_nil,or_false]at hx
  rcases hx with rfl|rfl
  ·unfold wpOp
   simp only[hi,hw,if_true]
   exact .inl h
  ·unfold wpOp
   simp only[hj,hv,if_true]
   exact .inl k⟩
theorem wpAnyE_three {P:Program} {ops:Array Oper} {Q:Exit→Act→World→Prop} {md:Region.Mode} {S:World→Prop} {L:Nat} {fuel:Nat} {listed:Array Bool} {a:Act} {w:World} (i j l:Nat) {o p q:Oper} (hr:Region.ready md ops listed=[i,j,l]) (hi:ops[i]?=some o) (hj:ops[j]?=some p) (hl:ops[l]?=some q)
  (hw:Region.wanted o (yielded ops a.tmps)=true) (hv:Region.wanted p (yielded ops a.tmps)=true) (hu:Region.wanted q (yielded ops a.tmps)=true)
  (h:o.wp P a w (fun a' w'=>(i=L∨S w')∧wpAnyE P md ops Q S L fuel (listed.setIfInBounds i true) a' w') Q)
  (k:p.wp P a w (fun a' w'=>(j=L∨S w')∧wpAnyE P md ops Q S L fuel (listed.setIfInBounds j true) a' w') Q)
  (m:q.wp P a w (fun a' w'=>(l=L∨S w')∧wpAnyE P md ops Q S L fuel (listed.setIfInBounds l true) a' w') Q):wpAnyE P md ops Q S L (fuel+1) listed a w:=
 ⟨fun h0=>(by rw[h0]at hr;cases hr),fun x hx=>by
  rw[hr]at hx
  simp only[List.mem_cons,List.not_mem_nil,or_false]at hx
  rcases hx with rfl|rfl|rfl
  ·unfold wpOp
   simp only[hi,hw,if_true]
   exact .inl h
  ·unfold wpOp
   simp only[hj,hv,if_true]
   exact .inl k
  ·unfold wpOp
   simp only[hl,hu,if_true]
   exact .inl m⟩
open Go.RowKit
theorem enc_last (r:Int) (h:128≤r):∃n,(Utf8.encode r).size=n+1∧1≤n∧n≤3∧∀hn:n<(Utf8.encode r).size,128≤((Utf8.encode r)[n]).toNat:=by
 have hc:128≤(if Utf8.valid r=true then r.toNat else Utf8.runeError):=by
  split
  ·omega
  ·decide
 unfold Utf8.encode
 generalize (if Utf8.valid r=true then r.toNat else Utf8.runeError)=c at hc ⊢
 dsimp only
 have hm:128≤(UInt8.ofNat (128+c % 64)).toNat:=by
  rw[UInt8.toNat_ofNat']
  omega
 have h0:¬c<128:=by omega
 by_cases h1:c<2048
 ·simp only[if_neg h0,if_pos h1]
  exact⟨1,rfl,by omega,by omega,fun _=>hm⟩
 ·by_cases h2:c<65536
  ·simp only[if_neg h0,if_neg h1,if_pos h2]
   exact⟨2,rfl,by omega,by omega,fun _=>hm⟩
  ·simp only[if_neg h0,if_neg h1,if_neg h2]
   exact⟨3,rfl,by omega,by omega,fun _=>hm⟩
theorem index_none (c:UInt8):∀l:List UInt8,(∀x∈l,x≠c)→Lib.indexByte l c= -1
 |[],_=>rfl
 |x::r,h=>by
  rw[Lib.indexByte,index_none c r (fun y hy=>h y (List.mem_cons_of_mem _ hy))]
  simp[h x List.mem_cons_self]
theorem dec_span (s:ByteArray) (pos:Nat) (h:pos<s.size) (ha:128≤(s[pos]'h).toNat):pos+(Utf8.decode s pos).2≤s.size∧∀j (hj:j<s.size),pos≤j→j<pos+(Utf8.decode s pos).2→128≤(s[j]'hj).toNat:=by
 have g:∀j (hj:j<s.size),s[j]'hj=s.get! j:=fun j hj=>by
  have:=get_at s j hj
  rw[Nat.add_zero]at this
  exact this.symm
 have h0:128≤(s.get! pos).toNat:=by rw[←g pos h];exact ha
 have hz:(s.get! (pos+0)).toNat=(s.get! pos).toNat:=by rw[Nat.add_zero]
 have hn:¬(s.get! (pos+0)).toNat<128:=by omega
 have key:∀m:Nat,pos+m<s.size→(∀k,1≤k→k≤m→128≤(s.get! (pos+k)).toNat)→pos+(m+1)≤s.size∧∀j (hj:j<s.size),pos≤j→j<pos+(m+1)→128≤(s[j]'hj).toNat:=fun m hm hk=>by
  refine⟨by omega,fun j hj h1 h2=>?_⟩
  rw[g j hj]
  rcases Nat.eq_or_lt_of_le h1 with e|e
  ·rw[←e];exact h0
  ·have:=hk (j - pos) (by omega) (by omega)
   have e2:pos+(j - pos)=j:=by omega
   rw[e2]at this
   exact this
 have one:=key 0 (by omega) (fun k a b=>by omega)
 have c1:∀k:Nat,(decide (pos+k<s.size)&&(s.get! (pos+k)).toNat / 64==2)=true→pos+k<s.size∧128≤(s.get! (pos+k)).toNat:=fun k hk=>by
  rw[Bool.and_eq_true,decide_eq_true_eq,beq_iff_eq]at hk
  exact⟨hk.1,by omega⟩
 unfold Utf8.decode
 simp only[if_neg hn]
 split
 ·rename_i hq
  rw[Bool.and_eq_true]at hq
  obtain⟨a1,b1⟩:=c1 1 hq.2
  split
  ·exact key 1 a1 (fun k x y=>by
    obtain rfl:k=1:=by omega
    exact b1)
  ·exact one
 ·split
  ·rename_i hq
   rw[Bool.and_eq_true,Bool.and_eq_true]at hq
   obtain⟨a1,b1⟩:=c1 1 hq.1.2
   obtain⟨a2,b2⟩:=c1 2 hq.2
   split
   ·exact key 2 a2 (fun k x y=>by
     rcases (by omega:k=1∨k=2) with rfl|rfl
     ·exact b1
     ·exact b2)
   ·exact one
  ·split
   ·rename_i hq
    rw[Bool.and_eq_true,Bool.and_eq_true,Bool.and_eq_true]at hq
    obtain⟨a1,b1⟩:=c1 1 hq.1.1.2
    obtain⟨a2,b2⟩:=c1 2 hq.1.2
    obtain⟨a3,b3⟩:=c1 3 hq.2
    split
    ·exact key 3 a3 (fun k x y=>by
      rcases (by omega:k=1∨k=2∨k=3) with rfl|rfl|rfl
      ·exact b1
      ·exact b2
      ·exact b3)
    ·exact one
   ·exact one
end Go.Proofs.YtfjpkfhbmldmfaaGreatDoor
