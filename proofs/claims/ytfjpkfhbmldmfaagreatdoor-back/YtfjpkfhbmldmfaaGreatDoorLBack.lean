/-
  For all that a path is made of, every width and every rest the statement PathBack returns true.
-/
import Derived.Test.YtfjpkfhbmldmfaaGreatDoorUtfE
import Derived.Test.YtfjpkfhbmldmfaaGreatDoorXv9
import Derived.Test.YtfjpkfhbmldmfaaGreatDoorYe9
import Derived.Test.YtfjpkfhbmldmfaaGreatDoorCardR
import Derived.ProofKit
import Derived.ChangeMaps5
import Derived.OpenShut
import Derived.ShutString
import Derived.ChangeOld
import Derived.SizedLaws
namespace Go.Proofs.YtfjpkfhbmldmfaaGreatDoor.pathBack
open Go.ChangeShapes Go.WideShapes Go.ChangeAt Go.RowKit
open Go.ChangeMaps (open_string shut_string)
theorem pa_box {p:Pt} {V:Array Value} {w:World} (h:PA p V w):∀j v,(boxC p.l p.h).toList[j]?=some v→V[2+j]?=some v:=by
 obtain⟨sp,c,rfl,_⟩:=h
 intro j v hv
 rw[pth_box,Array.getElem?_append_right (by simp)]
 simpa using hv
set_option maxHeartbeats 16000000 in
set_option maxRecDepth 100000 in
theorem walkW (P:Array Value) (hPz:P.size=20) (wide:Bool) (rest T B:ByteArray) (p:Pt) (hp:p.In) (hT:T.size≤256) (hr:rest.size≤140737488351232) (w:World)
  (HH:Hid (∀wx,Below w.heap.size w wx→Calls Tryz.prog 11 #[] wx fun e w'=>e=.returned (.bool true)∧Below wx.heap.size wx w'))
  (HM:Hid (∀wx,Below w.heap.size w wx→Calls Tryz.prog 31 #[.agg P] wx fun e w'=>∃V,e=.returned (.agg V)∧PA p V w'∧Below wx.heap.size wx w'))
  (HPR:Hid (∀wx V,Below w.heap.size w wx→PA p V wx→Calls Tryz.prog 23 #[.agg V] wx fun e w'=>e=.returned (.tuple #[.string T,.int .i64 0])∧Below wx.heap.size wx w'))
  (HCK:Hid (∀wx V,Below w.heap.size w wx→PA p V wx→Calls Tryz.prog 22 #[.agg V,.bool wide] wx fun e w'=>e=.returned (.int .i64 0)∧Below wx.heap.size wx w'))
  (HWD:Hid (∀wx V,Below w.heap.size w wx→PA p V wx→Calls Tryz.prog 25 #[.agg V] wx fun e w'=>e=.returned (.bool false)∧Below wx.heap.size wx w'))
  (HSM:Hid (∀wx V V1,PA p V wx→PA p V1 wx→Calls Tryz.prog 32 #[.agg V,.agg V1] wx fun e w'=>e=.returned (.bool true)∧Below wx.heap.size wx w'))
  (HR:Hid (∀wx,Below w.heap.size w wx→Calls Tryz.prog 14 #[.string (T++rest),.bool wide] wx fun e w'=>∃V,e=.returned (.tuple #[.agg V,.int .i64 (T.size:Int),.agg #[.int .i64 0,.int .i64 0]])∧PA p V w'∧Below wx.heap.size wx w')) (HF:Hid (∀wx,Below w.heap.size w wx→Calls Tryz.prog 16 #[.string (T++rest),.bool wide] wx fun e w'=>∃V,e=.returned (.tuple #[.agg V,.int .i64 (T.size:Int),.agg #[.int .i64 0,.int .i64 0]])∧PA p V w'∧Below wx.heap.size wx w'))
  (HB:Hid (∀wx,Below w.heap.size w wx→Calls Tryz.prog 24 #[.agg (boxC p.l p.h)] wx fun e w'=>e=.returned (.tuple #[.string B,.int .i64 0])∧Below wx.heap.size wx w'))
  (HX:Hid (∀wx,Below w.heap.size w wx→Calls Tryz.prog 18 #[.string B,.bool wide] wx fun e w'=>e=.returned (.tuple #[.agg (boxC p.l p.h),.agg #[.int .i64 0,.int .i64 0]])∧Below wx.heap.size wx w')):
  Calls Tryz.prog 7 #[.agg P,.bool wide,.string rest] w fun e w'=>e=.returned (.bool true)∧Below w.heap.size w w':=by
 have LR:Hid (Lies (w.alloc (.cells P 52)) w.heap.size P 52):=Lies.new w _ _
 have KB:Hid (Below w.heap.size w (w.alloc (.cells P 52))):=(Below.refl _ _).alloc (Nat.le_refl _) _
 have HUZ:Hid ((boxC p.l p.h).size=19):=boxC_size _ _ hp.ok.2.len
 have HUO:Hid ((boxC p.l p.h).all (·.oneCell')=true):=boxC_one _ _
 have HAL:Hid (p.h.a.length=16):=hp.ok.2.len
 obtain⟨U,hU⟩:∃U,U=boxC p.l p.h:=⟨_,rfl⟩
 have HUU:Hid (U=boxC p.l p.h):=hU
 have HVU:Hid (∀V wx,PA p V wx→∀j v,U.toList[j]?=some v→V[2+j]?=some v):=fun V wx h=>by rw[hU];exact pa_box h
 rw[←hU]at HUZ HUO HB HX
 clear hU
 go_enter Tryz.func7,Tryz.ntmps7
 go_upto_region 1 with fail
 generalize w.alloc (.cells P 52)=v0 at LR KB ⊢
 go_wp2_with (first|(refine wpList_load_row9 (by rfl) 52 _ rfl (w.heap.size) rfl P 52 _ LR.out Tryz.underlying52 rfl (by rw[hPz];exact infoRaw) ?_))
 refine Calls.mono (HH.out _ KB.out) ?_
 rintro e y0 ⟨rfl,hc⟩
 have KB1:Hid (Below w.heap.size w y0):=KB.out.trans ((hc).mono KB.out.size)
 have LRn:Hid (Lies y0 (w.heap.size) P 52):=LR.out.below (hc) LR.out.lt
 clear LR
 have LR:=LRn
 clear LRn
 clear KB
 clear hc
 go_wp2_with (first|(refine wpList_load_row9 (by rfl) 52 _ rfl (w.heap.size) rfl P 52 _ LR.out Tryz.underlying52 rfl (by rw[hPz];exact infoRaw) ?_))
 refine Calls.mono (HM.out _ KB1.out) ?_
 rintro e y1 ⟨V0,rfl,hA,hc⟩
 clear LR
 have KB2:Hid (Below w.heap.size w y1):=KB1.out.trans ((hc).mono KB1.out.size)
 clear KB1
 have P0:Hid (PA p V0 y1):=hA
 have z0:Hid (V0.size=21):=hA.size hp.ok.2.len
 have o0:Hid (V0.all (·.oneCell')=true):=hA.one
 have x0:Hid (∀j v,U.toList[j]?=some v→V0[2+j]?=some v):=HVU.out V0 y1 hA
 clear hA hc HVU
 have A:Hid (Lies (y1.alloc (.cells #[.int .i64 0,.slice none 0 0,.string ⟨#[]⟩,.int .i64 0,.string ⟨#[]⟩,.int .u8 0,.int .u8 0,.int .u8 0,.int .u8 0,.int .u8 0,.int .u8 0,.int .u8 0,.int .u8 0,.int .u8 0,.int .u8 0,.int .u8 0,.int .u8 0,.int .u8 0,.int .u8 0,.int .u8 0,.int .u8 0] 29)) y1.heap.size #[.int .i64 0,.slice none 0 0,.string ⟨#[]⟩,.int .i64 0,.string ⟨#[]⟩,.int .u8 0,.int .u8 0,.int .u8 0,.int .u8 0,.int .u8 0,.int .u8 0,.int .u8 0,.int .u8 0,.int .u8 0,.int .u8 0,.int .u8 0,.int .u8 0,.int .u8 0,.int .u8 0,.int .u8 0,.int .u8 0] 29):=Lies.new y1 _ _
 have M0:Hid (Lies ((y1.alloc (.cells #[.int .i64 0,.slice none 0 0,.string ⟨#[]⟩,.int .i64 0,.string ⟨#[]⟩,.int .u8 0,.int .u8 0,.int .u8 0,.int .u8 0,.int .u8 0,.int .u8 0,.int .u8 0,.int .u8 0,.int .u8 0,.int .u8 0,.int .u8 0,.int .u8 0,.int .u8 0,.int .u8 0,.int .u8 0,.int .u8 0] 29)).setRow y1.heap.size V0) y1.heap.size V0 29):=A.out.row _
 have BB:Hid (Below y1.heap.size y1 ((y1.alloc (.cells #[.int .i64 0,.slice none 0 0,.string ⟨#[]⟩,.int .i64 0,.string ⟨#[]⟩,.int .u8 0,.int .u8 0,.int .u8 0,.int .u8 0,.int .u8 0,.int .u8 0,.int .u8 0,.int .u8 0,.int .u8 0,.int .u8 0,.int .u8 0,.int .u8 0,.int .u8 0,.int .u8 0,.int .u8 0,.int .u8 0] 29)).setRow y1.heap.size V0)):=below_row ((Below.refl _ _).alloc (Nat.le_refl _) _) (Nat.le_refl _) _
 have KB3:Hid (Below w.heap.size w ((y1.alloc (.cells #[.int .i64 0,.slice none 0 0,.string ⟨#[]⟩,.int .i64 0,.string ⟨#[]⟩,.int .u8 0,.int .u8 0,.int .u8 0,.int .u8 0,.int .u8 0,.int .u8 0,.int .u8 0,.int .u8 0,.int .u8 0,.int .u8 0,.int .u8 0,.int .u8 0,.int .u8 0,.int .u8 0,.int .u8 0,.int .u8 0] 29)).setRow y1.heap.size V0)):=KB2.out.trans ((BB.out).mono KB2.out.size)
 have P0n:Hid (PA p V0 ((y1.alloc (.cells #[.int .i64 0,.slice none 0 0,.string ⟨#[]⟩,.int .i64 0,.string ⟨#[]⟩,.int .u8 0,.int .u8 0,.int .u8 0,.int .u8 0,.int .u8 0,.int .u8 0,.int .u8 0,.int .u8 0,.int .u8 0,.int .u8 0,.int .u8 0,.int .u8 0,.int .u8 0,.int .u8 0,.int .u8 0,.int .u8 0] 29)).setRow y1.heap.size V0)):=P0.out.below (BB.out)
 clear P0
 have P0:=P0n
 clear P0n
 clear KB2
 go_upto_region 4 with(refine wpList_store_row rfl 29 _ _ rfl y1.heap.size rfl #[.int .i64 0,.slice none 0 0,.string ⟨#[]⟩,.int .i64 0,.string ⟨#[]⟩,.int .u8 0,.int .u8 0,.int .u8 0,.int .u8 0,.int .u8 0,.int .u8 0,.int .u8 0,.int .u8 0,.int .u8 0,.int .u8 0,.int .u8 0,.int .u8 0,.int .u8 0,.int .u8 0,.int .u8 0,.int .u8 0] V0 rfl 29 A.out (by rw[z0.out];exact infoPt) (by rw[z0.out];rfl) o0.out rfl ?_)
 generalize hv0:(y1.alloc (.cells #[.int .i64 0,.slice none 0 0,.string ⟨#[]⟩,.int .i64 0,.string ⟨#[]⟩,.int .u8 0,.int .u8 0,.int .u8 0,.int .u8 0,.int .u8 0,.int .u8 0,.int .u8 0,.int .u8 0,.int .u8 0,.int .u8 0,.int .u8 0,.int .u8 0,.int .u8 0,.int .u8 0,.int .u8 0,.int .u8 0] 29)).setRow y1.heap.size V0=v1 at M0 KB3 P0 ⊢
 clear hv0 A BB
 generalize y1.heap.size=g0 at M0 ⊢
 go_wp2_with (first|(refine wpList_load_row9 (by rfl) 29 _ rfl (g0) rfl V0 29 _ M0.out Tryz.underlying29 rfl (by rw[z0.out];exact infoPt) ?_))
 refine Calls.mono (HPR.out _ _ KB3.out P0.out) ?_
 rintro e y2 ⟨rfl,hc⟩
 have KB4:Hid (Below w.heap.size w y2):=KB3.out.trans ((hc).mono KB3.out.size)
 have M0n:Hid (Lies y2 (g0) V0 29):=M0.out.below (hc) M0.out.lt
 clear M0
 have M0:=M0n
 clear M0n
 have P0n:Hid (PA p V0 y2):=P0.out.below (hc)
 clear P0
 have P0:=P0n
 clear P0n
 clear KB3
 clear hc
 go_upto_region 5 with(first|(refine wpList_load_row9 (by rfl) 29 _ rfl (g0) rfl V0 29 _ M0.out Tryz.underlying29 rfl (by rw[z0.out];exact infoPt) ?_))
 refine wp_region_lit ?_
 refine wpList_load_row9 (by rfl) 29 _ rfl (g0) rfl V0 29 _ M0.out Tryz.underlying29 rfl (by rw[z0.out];exact infoPt) ?_
 simp only[Act.put,pA,pB,pC]
 refine wpList_yieldG (.bool wide) (by rfl) ?hy ?_
 case hy=>(go_simp<;>(first|with_reducible rfl|omega|skip))
 simp only[Act.put,pA,pB,pC]
 refine wpList_onG (by rfl) ?_
 go_simp
 refine Calls.mono (HCK.out _ _ KB4.out P0.out) ?_
 rintro e y3 ⟨rfl,hc⟩
 have KB5:Hid (Below w.heap.size w y3):=KB4.out.trans ((hc).mono KB4.out.size)
 have M0n:Hid (Lies y3 (g0) V0 29):=M0.out.below (hc) M0.out.lt
 clear M0
 have M0:=M0n
 clear M0n
 have P0n:Hid (PA p V0 y3):=P0.out.below (hc)
 clear P0
 have P0:=P0n
 clear P0n
 clear KB4
 clear hc
 refine wpList_yieldG (.bool false) (by rfl) ?hy ?_
 case hy=>(go_simp<;>(first|with_reducible rfl|omega|skip))
 simp only[Act.put,pA,pB,pC]
 refine wpList_yieldG (.bool false) (by rfl) ?hy ?_
 case hy=>(go_simp<;>(first|with_reducible rfl|omega|skip))
 simp only[Act.put,pA,pB,pC]
 refine wpList_yieldG (.int .i64 0) (by rfl) ?hy ?_
 case hy=>(go_simp<;>(first|with_reducible rfl|omega|skip))
 simp only[Act.put,pA,pB,pC]
 refine wpList_yieldG (.bool false) (by rfl) ?hy ?_
 case hy=>(go_simp<;>(first|with_reducible rfl|omega|skip))
 simp only[Act.put,pA,pB,pC]
 refine wpList_yieldG (.bool false) (by rfl) ?hy ?_
 case hy=>(go_simp<;>(first|with_reducible rfl|omega|skip))
 simp only[Act.put,pA,pB,pC]
 refine wpList_yieldG (.bool false) (by rfl) ?hy ?_
 case hy=>(go_simp<;>(first|with_reducible rfl|omega|skip))
 simp only[Act.put,pA,pB,pC]
 refine wpList_load_row9 (by rfl) 29 _ rfl (g0) rfl V0 29 _ M0.out Tryz.underlying29 rfl (by rw[z0.out];exact infoPt) ?_
 simp only[Act.put,pA,pB,pC]
 refine wpList_onG (by rfl) ?_
 go_simp
 refine Calls.mono (HWD.out _ _ KB5.out P0.out) ?_
 rintro e y4 ⟨rfl,hc⟩
 have KB6:Hid (Below w.heap.size w y4):=KB5.out.trans ((hc).mono KB5.out.size)
 have M0n:Hid (Lies y4 (g0) V0 29):=M0.out.below (hc) M0.out.lt
 clear M0
 have M0:=M0n
 clear M0n
 have P0n:Hid (PA p V0 y4):=P0.out.below (hc)
 clear P0
 have P0:=P0n
 clear P0n
 clear KB5
 clear hc
 refine wpList_yieldG (.bool false) (by rfl) ?hy ?_
 case hy=>(go_simp<;>(first|with_reducible rfl|omega|skip))
 simp only[Act.put,pA,pB,pC]
 refine wpList_nil ?_
 clear HH HM HPR HCK HWD
 have ad1:∀W,(Op.stringOp .add T rest).run Tryz.prog W=.ok (.string (T++rest)) W:=fun W=>run_string_add_sum _ _ _ (by omega)
 go_upto_region 7 with(first|(refine wpList_load_row9 (by rfl) 29 _ rfl (g0) rfl V0 29 _ M0.out Tryz.underlying29 rfl (by rw[z0.out];exact infoPt) ?_))
 go_wp2_with (first|(refine wpList_load_row9 (by rfl) 29 _ rfl (g0) rfl V0 29 _ M0.out Tryz.underlying29 rfl (by rw[z0.out];exact infoPt) ?_))
 refine Calls.mono (HR.out _ KB6.out) ?_
 rintro e y5 ⟨V1,rfl,hA,hc⟩
 have KB7:Hid (Below w.heap.size w y5):=KB6.out.trans ((hc).mono KB6.out.size)
 have M0n:Hid (Lies y5 (g0) V0 29):=M0.out.below (hc) M0.out.lt
 clear M0
 have M0:=M0n
 clear M0n
 have P0n:Hid (PA p V0 y5):=P0.out.below (hc)
 clear P0
 have P0:=P0n
 clear P0n
 clear KB6
 have P1:Hid (PA p V1 y5):=hA
 have z1:Hid (V1.size=21):=hA.size hp.ok.2.len
 have o1:Hid (V1.all (·.oneCell')=true):=hA.one
 clear hA hc
 have A:Hid (Lies ((y5.alloc (.cells #[.int .i64 0,.slice none 0 0,.string ⟨#[]⟩,.int .i64 0,.string ⟨#[]⟩,.int .u8 0,.int .u8 0,.int .u8 0,.int .u8 0,.int .u8 0,.int .u8 0,.int .u8 0,.int .u8 0,.int .u8 0,.int .u8 0,.int .u8 0,.int .u8 0,.int .u8 0,.int .u8 0,.int .u8 0,.int .u8 0] 29)).alloc (.cells #[.int .i64 0,.int .i64 0] 32)) y5.heap.size #[.int .i64 0,.slice none 0 0,.string ⟨#[]⟩,.int .i64 0,.string ⟨#[]⟩,.int .u8 0,.int .u8 0,.int .u8 0,.int .u8 0,.int .u8 0,.int .u8 0,.int .u8 0,.int .u8 0,.int .u8 0,.int .u8 0,.int .u8 0,.int .u8 0,.int .u8 0,.int .u8 0,.int .u8 0,.int .u8 0] 29):=(Lies.new y5 _ _).alloc _
 have B:Hid (Lies ((y5.alloc (.cells #[.int .i64 0,.slice none 0 0,.string ⟨#[]⟩,.int .i64 0,.string ⟨#[]⟩,.int .u8 0,.int .u8 0,.int .u8 0,.int .u8 0,.int .u8 0,.int .u8 0,.int .u8 0,.int .u8 0,.int .u8 0,.int .u8 0,.int .u8 0,.int .u8 0,.int .u8 0,.int .u8 0,.int .u8 0,.int .u8 0] 29)).alloc (.cells #[.int .i64 0,.int .i64 0] 32)) (y5.heap.size+1) #[.int .i64 0,.int .i64 0] 32):=new_one y5 _ _ _
 have M1:Hid (Lies ((((y5.alloc (.cells #[.int .i64 0,.slice none 0 0,.string ⟨#[]⟩,.int .i64 0,.string ⟨#[]⟩,.int .u8 0,.int .u8 0,.int .u8 0,.int .u8 0,.int .u8 0,.int .u8 0,.int .u8 0,.int .u8 0,.int .u8 0,.int .u8 0,.int .u8 0,.int .u8 0,.int .u8 0,.int .u8 0,.int .u8 0,.int .u8 0] 29)).alloc (.cells #[.int .i64 0,.int .i64 0] 32)).setRow y5.heap.size V1).setRow (y5.heap.size+1) #[.int .i64 0,.int .i64 0]) y5.heap.size V1 29):=(A.out.row _).row_other (by omega) _
 have N1:Hid (Lies ((((y5.alloc (.cells #[.int .i64 0,.slice none 0 0,.string ⟨#[]⟩,.int .i64 0,.string ⟨#[]⟩,.int .u8 0,.int .u8 0,.int .u8 0,.int .u8 0,.int .u8 0,.int .u8 0,.int .u8 0,.int .u8 0,.int .u8 0,.int .u8 0,.int .u8 0,.int .u8 0,.int .u8 0,.int .u8 0,.int .u8 0,.int .u8 0] 29)).alloc (.cells #[.int .i64 0,.int .i64 0] 32)).setRow y5.heap.size V1).setRow (y5.heap.size+1) #[.int .i64 0,.int .i64 0]) (y5.heap.size+1) #[.int .i64 0,.int .i64 0] 32):=(B.out.row_other (by omega) _).row _
 have BB:Hid (Below y5.heap.size y5 ((((y5.alloc (.cells #[.int .i64 0,.slice none 0 0,.string ⟨#[]⟩,.int .i64 0,.string ⟨#[]⟩,.int .u8 0,.int .u8 0,.int .u8 0,.int .u8 0,.int .u8 0,.int .u8 0,.int .u8 0,.int .u8 0,.int .u8 0,.int .u8 0,.int .u8 0,.int .u8 0,.int .u8 0,.int .u8 0,.int .u8 0,.int .u8 0] 29)).alloc (.cells #[.int .i64 0,.int .i64 0] 32)).setRow y5.heap.size V1).setRow (y5.heap.size+1) #[.int .i64 0,.int .i64 0])):=below_row (below_row (((Below.refl _ _).alloc (Nat.le_refl _) _).alloc (by simp) _) (Nat.le_refl _) _) (by omega) _
 have KB8:Hid (Below w.heap.size w ((((y5.alloc (.cells #[.int .i64 0,.slice none 0 0,.string ⟨#[]⟩,.int .i64 0,.string ⟨#[]⟩,.int .u8 0,.int .u8 0,.int .u8 0,.int .u8 0,.int .u8 0,.int .u8 0,.int .u8 0,.int .u8 0,.int .u8 0,.int .u8 0,.int .u8 0,.int .u8 0,.int .u8 0,.int .u8 0,.int .u8 0,.int .u8 0] 29)).alloc (.cells #[.int .i64 0,.int .i64 0] 32)).setRow y5.heap.size V1).setRow (y5.heap.size+1) #[.int .i64 0,.int .i64 0])):=KB7.out.trans ((BB.out).mono KB7.out.size)
 have M0n:Hid (Lies ((((y5.alloc (.cells #[.int .i64 0,.slice none 0 0,.string ⟨#[]⟩,.int .i64 0,.string ⟨#[]⟩,.int .u8 0,.int .u8 0,.int .u8 0,.int .u8 0,.int .u8 0,.int .u8 0,.int .u8 0,.int .u8 0,.int .u8 0,.int .u8 0,.int .u8 0,.int .u8 0,.int .u8 0,.int .u8 0,.int .u8 0,.int .u8 0] 29)).alloc (.cells #[.int .i64 0,.int .i64 0] 32)).setRow y5.heap.size V1).setRow (y5.heap.size+1) #[.int .i64 0,.int .i64 0]) (g0) V0 29):=M0.out.below (BB.out) M0.out.lt
 clear M0
 have M0:=M0n
 clear M0n
 have P0n:Hid (PA p V0 ((((y5.alloc (.cells #[.int .i64 0,.slice none 0 0,.string ⟨#[]⟩,.int .i64 0,.string ⟨#[]⟩,.int .u8 0,.int .u8 0,.int .u8 0,.int .u8 0,.int .u8 0,.int .u8 0,.int .u8 0,.int .u8 0,.int .u8 0,.int .u8 0,.int .u8 0,.int .u8 0,.int .u8 0,.int .u8 0,.int .u8 0,.int .u8 0] 29)).alloc (.cells #[.int .i64 0,.int .i64 0] 32)).setRow y5.heap.size V1).setRow (y5.heap.size+1) #[.int .i64 0,.int .i64 0])):=P0.out.below (BB.out)
 clear P0
 have P0:=P0n
 clear P0n
 have P1n:Hid (PA p V1 ((((y5.alloc (.cells #[.int .i64 0,.slice none 0 0,.string ⟨#[]⟩,.int .i64 0,.string ⟨#[]⟩,.int .u8 0,.int .u8 0,.int .u8 0,.int .u8 0,.int .u8 0,.int .u8 0,.int .u8 0,.int .u8 0,.int .u8 0,.int .u8 0,.int .u8 0,.int .u8 0,.int .u8 0,.int .u8 0,.int .u8 0,.int .u8 0] 29)).alloc (.cells #[.int .i64 0,.int .i64 0] 32)).setRow y5.heap.size V1).setRow (y5.heap.size+1) #[.int .i64 0,.int .i64 0])):=P1.out.below (BB.out)
 clear P1
 have P1:=P1n
 clear P1n
 clear KB7
 go_upto_region 8 with(first|(refine wpList_store_row rfl 29 _ _ rfl y5.heap.size rfl #[.int .i64 0,.slice none 0 0,.string ⟨#[]⟩,.int .i64 0,.string ⟨#[]⟩,.int .u8 0,.int .u8 0,.int .u8 0,.int .u8 0,.int .u8 0,.int .u8 0,.int .u8 0,.int .u8 0,.int .u8 0,.int .u8 0,.int .u8 0,.int .u8 0,.int .u8 0,.int .u8 0,.int .u8 0,.int .u8 0] V1 rfl 29 A.out (by rw[z1.out];exact infoPt) (by rw[z1.out];rfl) o1.out rfl ?_)|(refine wpList_store_row rfl 32 _ _ rfl (y5.heap.size+1) rfl #[.int .i64 0,.int .i64 0] #[.int .i64 0,.int .i64 0] rfl 32 (B.out.row_other (by omega) _) infoSp rfl (by simp[Value.oneCell']) rfl ?_))
 generalize hv1:(((y5.alloc (.cells #[.int .i64 0,.slice none 0 0,.string ⟨#[]⟩,.int .i64 0,.string ⟨#[]⟩,.int .u8 0,.int .u8 0,.int .u8 0,.int .u8 0,.int .u8 0,.int .u8 0,.int .u8 0,.int .u8 0,.int .u8 0,.int .u8 0,.int .u8 0,.int .u8 0,.int .u8 0,.int .u8 0,.int .u8 0,.int .u8 0] 29)).alloc (.cells #[.int .i64 0,.int .i64 0] 32)).setRow y5.heap.size V1).setRow (y5.heap.size+1) #[.int .i64 0,.int .i64 0]=v1 at M1 N1 KB8 M0 P0 P1 ⊢
 clear hv1 A B BB
 clear HR
 go_wp2_with (first|(refine wpList_load_row9 (by rfl) 29 _ rfl (g0) rfl V0 29 _ M0.out Tryz.underlying29 rfl (by rw[z0.out];exact infoPt) ?_)|(refine wpList_load_row9 (by rfl) 29 _ rfl (y5.heap.size) rfl V1 29 _ M1.out Tryz.underlying29 rfl (by rw[z1.out];exact infoPt) ?_)|(refine wpList_load_row9 (by rfl) 32 _ rfl (y5.heap.size+1) rfl #[.int .i64 0,.int .i64 0] 32 _ N1.out Tryz.underlying32 rfl infoSp ?_))
 refine Calls.mono (HF.out _ KB8.out) ?_
 rintro e y6 ⟨V2,rfl,hA,hc⟩
 have KB9:Hid (Below w.heap.size w y6):=KB8.out.trans ((hc).mono KB8.out.size)
 have M0n:Hid (Lies y6 (g0) V0 29):=M0.out.below (hc) M0.out.lt
 clear M0
 have M0:=M0n
 clear M0n
 have M1n:Hid (Lies y6 (y5.heap.size) V1 29):=M1.out.below (hc) M1.out.lt
 clear M1
 have M1:=M1n
 clear M1n
 have N1n:Hid (Lies y6 (y5.heap.size+1) #[.int .i64 0,.int .i64 0] 32):=N1.out.below (hc) N1.out.lt
 clear N1
 have N1:=N1n
 clear N1n
 have P0n:Hid (PA p V0 y6):=P0.out.below (hc)
 clear P0
 have P0:=P0n
 clear P0n
 have P1n:Hid (PA p V1 y6):=P1.out.below (hc)
 clear P1
 have P1:=P1n
 clear P1n
 clear KB8
 have P2:Hid (PA p V2 y6):=hA
 have z2:Hid (V2.size=21):=hA.size hp.ok.2.len
 have o2:Hid (V2.all (·.oneCell')=true):=hA.one
 clear hA hc
 have A:Hid (Lies ((y6.alloc (.cells #[.int .i64 0,.slice none 0 0,.string ⟨#[]⟩,.int .i64 0,.string ⟨#[]⟩,.int .u8 0,.int .u8 0,.int .u8 0,.int .u8 0,.int .u8 0,.int .u8 0,.int .u8 0,.int .u8 0,.int .u8 0,.int .u8 0,.int .u8 0,.int .u8 0,.int .u8 0,.int .u8 0,.int .u8 0,.int .u8 0] 29)).alloc (.cells #[.int .i64 0,.int .i64 0] 32)) y6.heap.size #[.int .i64 0,.slice none 0 0,.string ⟨#[]⟩,.int .i64 0,.string ⟨#[]⟩,.int .u8 0,.int .u8 0,.int .u8 0,.int .u8 0,.int .u8 0,.int .u8 0,.int .u8 0,.int .u8 0,.int .u8 0,.int .u8 0,.int .u8 0,.int .u8 0,.int .u8 0,.int .u8 0,.int .u8 0,.int .u8 0] 29):=(Lies.new y6 _ _).alloc _
 have B:Hid (Lies ((y6.alloc (.cells #[.int .i64 0,.slice none 0 0,.string ⟨#[]⟩,.int .i64 0,.string ⟨#[]⟩,.int .u8 0,.int .u8 0,.int .u8 0,.int .u8 0,.int .u8 0,.int .u8 0,.int .u8 0,.int .u8 0,.int .u8 0,.int .u8 0,.int .u8 0,.int .u8 0,.int .u8 0,.int .u8 0,.int .u8 0,.int .u8 0] 29)).alloc (.cells #[.int .i64 0,.int .i64 0] 32)) (y6.heap.size+1) #[.int .i64 0,.int .i64 0] 32):=new_one y6 _ _ _
 have M2:Hid (Lies ((((y6.alloc (.cells #[.int .i64 0,.slice none 0 0,.string ⟨#[]⟩,.int .i64 0,.string ⟨#[]⟩,.int .u8 0,.int .u8 0,.int .u8 0,.int .u8 0,.int .u8 0,.int .u8 0,.int .u8 0,.int .u8 0,.int .u8 0,.int .u8 0,.int .u8 0,.int .u8 0,.int .u8 0,.int .u8 0,.int .u8 0,.int .u8 0] 29)).alloc (.cells #[.int .i64 0,.int .i64 0] 32)).setRow y6.heap.size V2).setRow (y6.heap.size+1) #[.int .i64 0,.int .i64 0]) y6.heap.size V2 29):=(A.out.row _).row_other (by omega) _
 have N2:Hid (Lies ((((y6.alloc (.cells #[.int .i64 0,.slice none 0 0,.string ⟨#[]⟩,.int .i64 0,.string ⟨#[]⟩,.int .u8 0,.int .u8 0,.int .u8 0,.int .u8 0,.int .u8 0,.int .u8 0,.int .u8 0,.int .u8 0,.int .u8 0,.int .u8 0,.int .u8 0,.int .u8 0,.int .u8 0,.int .u8 0,.int .u8 0,.int .u8 0] 29)).alloc (.cells #[.int .i64 0,.int .i64 0] 32)).setRow y6.heap.size V2).setRow (y6.heap.size+1) #[.int .i64 0,.int .i64 0]) (y6.heap.size+1) #[.int .i64 0,.int .i64 0] 32):=(B.out.row_other (by omega) _).row _
 have BB:Hid (Below y6.heap.size y6 ((((y6.alloc (.cells #[.int .i64 0,.slice none 0 0,.string ⟨#[]⟩,.int .i64 0,.string ⟨#[]⟩,.int .u8 0,.int .u8 0,.int .u8 0,.int .u8 0,.int .u8 0,.int .u8 0,.int .u8 0,.int .u8 0,.int .u8 0,.int .u8 0,.int .u8 0,.int .u8 0,.int .u8 0,.int .u8 0,.int .u8 0,.int .u8 0] 29)).alloc (.cells #[.int .i64 0,.int .i64 0] 32)).setRow y6.heap.size V2).setRow (y6.heap.size+1) #[.int .i64 0,.int .i64 0])):=below_row (below_row (((Below.refl _ _).alloc (Nat.le_refl _) _).alloc (by simp) _) (Nat.le_refl _) _) (by omega) _
 have KB10:Hid (Below w.heap.size w ((((y6.alloc (.cells #[.int .i64 0,.slice none 0 0,.string ⟨#[]⟩,.int .i64 0,.string ⟨#[]⟩,.int .u8 0,.int .u8 0,.int .u8 0,.int .u8 0,.int .u8 0,.int .u8 0,.int .u8 0,.int .u8 0,.int .u8 0,.int .u8 0,.int .u8 0,.int .u8 0,.int .u8 0,.int .u8 0,.int .u8 0,.int .u8 0] 29)).alloc (.cells #[.int .i64 0,.int .i64 0] 32)).setRow y6.heap.size V2).setRow (y6.heap.size+1) #[.int .i64 0,.int .i64 0])):=KB9.out.trans ((BB.out).mono KB9.out.size)
 have M0n:Hid (Lies ((((y6.alloc (.cells #[.int .i64 0,.slice none 0 0,.string ⟨#[]⟩,.int .i64 0,.string ⟨#[]⟩,.int .u8 0,.int .u8 0,.int .u8 0,.int .u8 0,.int .u8 0,.int .u8 0,.int .u8 0,.int .u8 0,.int .u8 0,.int .u8 0,.int .u8 0,.int .u8 0,.int .u8 0,.int .u8 0,.int .u8 0,.int .u8 0] 29)).alloc (.cells #[.int .i64 0,.int .i64 0] 32)).setRow y6.heap.size V2).setRow (y6.heap.size+1) #[.int .i64 0,.int .i64 0]) (g0) V0 29):=M0.out.below (BB.out) M0.out.lt
 clear M0
 have M0:=M0n
 clear M0n
 have M1n:Hid (Lies ((((y6.alloc (.cells #[.int .i64 0,.slice none 0 0,.string ⟨#[]⟩,.int .i64 0,.string ⟨#[]⟩,.int .u8 0,.int .u8 0,.int .u8 0,.int .u8 0,.int .u8 0,.int .u8 0,.int .u8 0,.int .u8 0,.int .u8 0,.int .u8 0,.int .u8 0,.int .u8 0,.int .u8 0,.int .u8 0,.int .u8 0,.int .u8 0] 29)).alloc (.cells #[.int .i64 0,.int .i64 0] 32)).setRow y6.heap.size V2).setRow (y6.heap.size+1) #[.int .i64 0,.int .i64 0]) (y5.heap.size) V1 29):=M1.out.below (BB.out) M1.out.lt
 clear M1
 have M1:=M1n
 clear M1n
 have N1n:Hid (Lies ((((y6.alloc (.cells #[.int .i64 0,.slice none 0 0,.string ⟨#[]⟩,.int .i64 0,.string ⟨#[]⟩,.int .u8 0,.int .u8 0,.int .u8 0,.int .u8 0,.int .u8 0,.int .u8 0,.int .u8 0,.int .u8 0,.int .u8 0,.int .u8 0,.int .u8 0,.int .u8 0,.int .u8 0,.int .u8 0,.int .u8 0,.int .u8 0] 29)).alloc (.cells #[.int .i64 0,.int .i64 0] 32)).setRow y6.heap.size V2).setRow (y6.heap.size+1) #[.int .i64 0,.int .i64 0]) (y5.heap.size+1) #[.int .i64 0,.int .i64 0] 32):=N1.out.below (BB.out) N1.out.lt
 clear N1
 have N1:=N1n
 clear N1n
 have P0n:Hid (PA p V0 ((((y6.alloc (.cells #[.int .i64 0,.slice none 0 0,.string ⟨#[]⟩,.int .i64 0,.string ⟨#[]⟩,.int .u8 0,.int .u8 0,.int .u8 0,.int .u8 0,.int .u8 0,.int .u8 0,.int .u8 0,.int .u8 0,.int .u8 0,.int .u8 0,.int .u8 0,.int .u8 0,.int .u8 0,.int .u8 0,.int .u8 0,.int .u8 0] 29)).alloc (.cells #[.int .i64 0,.int .i64 0] 32)).setRow y6.heap.size V2).setRow (y6.heap.size+1) #[.int .i64 0,.int .i64 0])):=P0.out.below (BB.out)
 clear P0
 have P0:=P0n
 clear P0n
 have P1n:Hid (PA p V1 ((((y6.alloc (.cells #[.int .i64 0,.slice none 0 0,.string ⟨#[]⟩,.int .i64 0,.string ⟨#[]⟩,.int .u8 0,.int .u8 0,.int .u8 0,.int .u8 0,.int .u8 0,.int .u8 0,.int .u8 0,.int .u8 0,.int .u8 0,.int .u8 0,.int .u8 0,.int .u8 0,.int .u8 0,.int .u8 0,.int .u8 0,.int .u8 0] 29)).alloc (.cells #[.int .i64 0,.int .i64 0] 32)).setRow y6.heap.size V2).setRow (y6.heap.size+1) #[.int .i64 0,.int .i64 0])):=P1.out.below (BB.out)
 clear P1
 have P1:=P1n
 clear P1n
 have P2n:Hid (PA p V2 ((((y6.alloc (.cells #[.int .i64 0,.slice none 0 0,.string ⟨#[]⟩,.int .i64 0,.string ⟨#[]⟩,.int .u8 0,.int .u8 0,.int .u8 0,.int .u8 0,.int .u8 0,.int .u8 0,.int .u8 0,.int .u8 0,.int .u8 0,.int .u8 0,.int .u8 0,.int .u8 0,.int .u8 0,.int .u8 0,.int .u8 0,.int .u8 0] 29)).alloc (.cells #[.int .i64 0,.int .i64 0] 32)).setRow y6.heap.size V2).setRow (y6.heap.size+1) #[.int .i64 0,.int .i64 0])):=P2.out.below (BB.out)
 clear P2
 have P2:=P2n
 clear P2n
 clear KB9
 go_upto_region 9 with(first|(refine wpList_store_row rfl 29 _ _ rfl y6.heap.size rfl #[.int .i64 0,.slice none 0 0,.string ⟨#[]⟩,.int .i64 0,.string ⟨#[]⟩,.int .u8 0,.int .u8 0,.int .u8 0,.int .u8 0,.int .u8 0,.int .u8 0,.int .u8 0,.int .u8 0,.int .u8 0,.int .u8 0,.int .u8 0,.int .u8 0,.int .u8 0,.int .u8 0,.int .u8 0,.int .u8 0] V2 rfl 29 A.out (by rw[z2.out];exact infoPt) (by rw[z2.out];rfl) o2.out rfl ?_)|(refine wpList_store_row rfl 32 _ _ rfl (y6.heap.size+1) rfl #[.int .i64 0,.int .i64 0] #[.int .i64 0,.int .i64 0] rfl 32 (B.out.row_other (by omega) _) infoSp rfl (by simp[Value.oneCell']) rfl ?_))
 generalize hv2:(((y6.alloc (.cells #[.int .i64 0,.slice none 0 0,.string ⟨#[]⟩,.int .i64 0,.string ⟨#[]⟩,.int .u8 0,.int .u8 0,.int .u8 0,.int .u8 0,.int .u8 0,.int .u8 0,.int .u8 0,.int .u8 0,.int .u8 0,.int .u8 0,.int .u8 0,.int .u8 0,.int .u8 0,.int .u8 0,.int .u8 0,.int .u8 0] 29)).alloc (.cells #[.int .i64 0,.int .i64 0] 32)).setRow y6.heap.size V2).setRow (y6.heap.size+1) #[.int .i64 0,.int .i64 0]=v2 at M2 N2 KB10 M0 M1 N1 P0 P1 P2 ⊢
 clear hv2 A B BB
 clear HF ad1
 have RG:Hid (v2.rangeAt g0 2 U.toList):=fun j v hv=>(M0.out.cell (2+j)).trans (x0.out j v hv)
 refine wp_region_lit ?_
 refine wpList_yieldG (.pointer (some ⟨g0,2,none⟩)) (by rfl) ?hy ?_
 case hy=>(go_simp<;>(first|with_reducible rfl|omega|skip))
 simp only[Act.put,pA,pB,pC]
 refine wpList_load_mid9 (by rfl) 27 _ rfl g0 2 rfl U.toList _ RG.out Tryz.underlying27 rfl (by rw[Array.length_toList,HUZ.out];exact infoBx) ?_
 rw[show U.toList.toArray=U from by simp]
 simp only[Act.put,pA,pB,pC]
 refine wpList_onG (by rfl) ?_
 go_simp
 refine Calls.mono (HB.out _ KB10.out) ?_
 rintro e y7 ⟨rfl,hc⟩
 have KB11:Hid (Below w.heap.size w y7):=KB10.out.trans ((hc).mono KB10.out.size)
 have M0n:Hid (Lies y7 (g0) V0 29):=M0.out.below (hc) M0.out.lt
 clear M0
 have M0:=M0n
 clear M0n
 have M1n:Hid (Lies y7 (y5.heap.size) V1 29):=M1.out.below (hc) M1.out.lt
 clear M1
 have M1:=M1n
 clear M1n
 have N1n:Hid (Lies y7 (y5.heap.size+1) #[.int .i64 0,.int .i64 0] 32):=N1.out.below (hc) N1.out.lt
 clear N1
 have N1:=N1n
 clear N1n
 have M2n:Hid (Lies y7 (y6.heap.size) V2 29):=M2.out.below (hc) M2.out.lt
 clear M2
 have M2:=M2n
 clear M2n
 have N2n:Hid (Lies y7 (y6.heap.size+1) #[.int .i64 0,.int .i64 0] 32):=N2.out.below (hc) N2.out.lt
 clear N2
 have N2:=N2n
 clear N2n
 have P0n:Hid (PA p V0 y7):=P0.out.below (hc)
 clear P0
 have P0:=P0n
 clear P0n
 have P1n:Hid (PA p V1 y7):=P1.out.below (hc)
 clear P1
 have P1:=P1n
 clear P1n
 have P2n:Hid (PA p V2 y7):=P2.out.below (hc)
 clear P2
 have P2:=P2n
 clear P2n
 clear KB10
 clear hc
 clear RG HB
 go_upto_region 10 with fail
 go_wp2_with (first|(refine wpList_load_row9 (by rfl) 29 _ rfl (g0) rfl V0 29 _ M0.out Tryz.underlying29 rfl (by rw[z0.out];exact infoPt) ?_)|(refine wpList_load_row9 (by rfl) 29 _ rfl (y5.heap.size) rfl V1 29 _ M1.out Tryz.underlying29 rfl (by rw[z1.out];exact infoPt) ?_)|(refine wpList_load_row9 (by rfl) 32 _ rfl (y5.heap.size+1) rfl #[.int .i64 0,.int .i64 0] 32 _ N1.out Tryz.underlying32 rfl infoSp ?_)|(refine wpList_load_row9 (by rfl) 29 _ rfl (y6.heap.size) rfl V2 29 _ M2.out Tryz.underlying29 rfl (by rw[z2.out];exact infoPt) ?_)|(refine wpList_load_row9 (by rfl) 32 _ rfl (y6.heap.size+1) rfl #[.int .i64 0,.int .i64 0] 32 _ N2.out Tryz.underlying32 rfl infoSp ?_))
 refine Calls.mono (HX.out _ KB11.out) ?_
 rintro e y8 ⟨rfl,hc⟩
 have KB12:Hid (Below w.heap.size w y8):=KB11.out.trans ((hc).mono KB11.out.size)
 have M0n:Hid (Lies y8 (g0) V0 29):=M0.out.below (hc) M0.out.lt
 clear M0
 have M0:=M0n
 clear M0n
 have M1n:Hid (Lies y8 (y5.heap.size) V1 29):=M1.out.below (hc) M1.out.lt
 clear M1
 have M1:=M1n
 clear M1n
 have N1n:Hid (Lies y8 (y5.heap.size+1) #[.int .i64 0,.int .i64 0] 32):=N1.out.below (hc) N1.out.lt
 clear N1
 have N1:=N1n
 clear N1n
 have M2n:Hid (Lies y8 (y6.heap.size) V2 29):=M2.out.below (hc) M2.out.lt
 clear M2
 have M2:=M2n
 clear M2n
 have N2n:Hid (Lies y8 (y6.heap.size+1) #[.int .i64 0,.int .i64 0] 32):=N2.out.below (hc) N2.out.lt
 clear N2
 have N2:=N2n
 clear N2n
 have P0n:Hid (PA p V0 y8):=P0.out.below (hc)
 clear P0
 have P0:=P0n
 clear P0n
 have P1n:Hid (PA p V1 y8):=P1.out.below (hc)
 clear P1
 have P1:=P1n
 clear P1n
 have P2n:Hid (PA p V2 y8):=P2.out.below (hc)
 clear P2
 have P2:=P2n
 clear P2n
 clear KB11
 clear hc HX
 have A:Hid (Lies ((y8.alloc (.cells #[.string ⟨#[]⟩,.int .i64 0,.string ⟨#[]⟩,.int .u8 0,.int .u8 0,.int .u8 0,.int .u8 0,.int .u8 0,.int .u8 0,.int .u8 0,.int .u8 0,.int .u8 0,.int .u8 0,.int .u8 0,.int .u8 0,.int .u8 0,.int .u8 0,.int .u8 0,.int .u8 0] 27)).alloc (.cells #[.int .i64 0,.int .i64 0] 32)) y8.heap.size #[.string ⟨#[]⟩,.int .i64 0,.string ⟨#[]⟩,.int .u8 0,.int .u8 0,.int .u8 0,.int .u8 0,.int .u8 0,.int .u8 0,.int .u8 0,.int .u8 0,.int .u8 0,.int .u8 0,.int .u8 0,.int .u8 0,.int .u8 0,.int .u8 0,.int .u8 0,.int .u8 0] 27):=(Lies.new y8 _ _).alloc _
 have B:Hid (Lies ((y8.alloc (.cells #[.string ⟨#[]⟩,.int .i64 0,.string ⟨#[]⟩,.int .u8 0,.int .u8 0,.int .u8 0,.int .u8 0,.int .u8 0,.int .u8 0,.int .u8 0,.int .u8 0,.int .u8 0,.int .u8 0,.int .u8 0,.int .u8 0,.int .u8 0,.int .u8 0,.int .u8 0,.int .u8 0] 27)).alloc (.cells #[.int .i64 0,.int .i64 0] 32)) (y8.heap.size+1) #[.int .i64 0,.int .i64 0] 32):=new_one y8 _ _ _
 have M8:Hid (Lies ((((y8.alloc (.cells #[.string ⟨#[]⟩,.int .i64 0,.string ⟨#[]⟩,.int .u8 0,.int .u8 0,.int .u8 0,.int .u8 0,.int .u8 0,.int .u8 0,.int .u8 0,.int .u8 0,.int .u8 0,.int .u8 0,.int .u8 0,.int .u8 0,.int .u8 0,.int .u8 0,.int .u8 0,.int .u8 0] 27)).alloc (.cells #[.int .i64 0,.int .i64 0] 32)).setRow y8.heap.size U).setRow (y8.heap.size+1) #[.int .i64 0,.int .i64 0]) y8.heap.size U 27):=(A.out.row _).row_other (by omega) _
 have N8:Hid (Lies ((((y8.alloc (.cells #[.string ⟨#[]⟩,.int .i64 0,.string ⟨#[]⟩,.int .u8 0,.int .u8 0,.int .u8 0,.int .u8 0,.int .u8 0,.int .u8 0,.int .u8 0,.int .u8 0,.int .u8 0,.int .u8 0,.int .u8 0,.int .u8 0,.int .u8 0,.int .u8 0,.int .u8 0,.int .u8 0] 27)).alloc (.cells #[.int .i64 0,.int .i64 0] 32)).setRow y8.heap.size U).setRow (y8.heap.size+1) #[.int .i64 0,.int .i64 0]) (y8.heap.size+1) #[.int .i64 0,.int .i64 0] 32):=(B.out.row_other (by omega) _).row _
 have BB:Hid (Below y8.heap.size y8 ((((y8.alloc (.cells #[.string ⟨#[]⟩,.int .i64 0,.string ⟨#[]⟩,.int .u8 0,.int .u8 0,.int .u8 0,.int .u8 0,.int .u8 0,.int .u8 0,.int .u8 0,.int .u8 0,.int .u8 0,.int .u8 0,.int .u8 0,.int .u8 0,.int .u8 0,.int .u8 0,.int .u8 0,.int .u8 0] 27)).alloc (.cells #[.int .i64 0,.int .i64 0] 32)).setRow y8.heap.size U).setRow (y8.heap.size+1) #[.int .i64 0,.int .i64 0])):=below_row (below_row (((Below.refl _ _).alloc (Nat.le_refl _) _).alloc (by simp) _) (Nat.le_refl _) _) (by omega) _
 have KB13:Hid (Below w.heap.size w ((((y8.alloc (.cells #[.string ⟨#[]⟩,.int .i64 0,.string ⟨#[]⟩,.int .u8 0,.int .u8 0,.int .u8 0,.int .u8 0,.int .u8 0,.int .u8 0,.int .u8 0,.int .u8 0,.int .u8 0,.int .u8 0,.int .u8 0,.int .u8 0,.int .u8 0,.int .u8 0,.int .u8 0,.int .u8 0] 27)).alloc (.cells #[.int .i64 0,.int .i64 0] 32)).setRow y8.heap.size U).setRow (y8.heap.size+1) #[.int .i64 0,.int .i64 0])):=KB12.out.trans ((BB.out).mono KB12.out.size)
 have M0n:Hid (Lies ((((y8.alloc (.cells #[.string ⟨#[]⟩,.int .i64 0,.string ⟨#[]⟩,.int .u8 0,.int .u8 0,.int .u8 0,.int .u8 0,.int .u8 0,.int .u8 0,.int .u8 0,.int .u8 0,.int .u8 0,.int .u8 0,.int .u8 0,.int .u8 0,.int .u8 0,.int .u8 0,.int .u8 0,.int .u8 0] 27)).alloc (.cells #[.int .i64 0,.int .i64 0] 32)).setRow y8.heap.size U).setRow (y8.heap.size+1) #[.int .i64 0,.int .i64 0]) (g0) V0 29):=M0.out.below (BB.out) M0.out.lt
 clear M0
 have M0:=M0n
 clear M0n
 have M1n:Hid (Lies ((((y8.alloc (.cells #[.string ⟨#[]⟩,.int .i64 0,.string ⟨#[]⟩,.int .u8 0,.int .u8 0,.int .u8 0,.int .u8 0,.int .u8 0,.int .u8 0,.int .u8 0,.int .u8 0,.int .u8 0,.int .u8 0,.int .u8 0,.int .u8 0,.int .u8 0,.int .u8 0,.int .u8 0,.int .u8 0] 27)).alloc (.cells #[.int .i64 0,.int .i64 0] 32)).setRow y8.heap.size U).setRow (y8.heap.size+1) #[.int .i64 0,.int .i64 0]) (y5.heap.size) V1 29):=M1.out.below (BB.out) M1.out.lt
 clear M1
 have M1:=M1n
 clear M1n
 have N1n:Hid (Lies ((((y8.alloc (.cells #[.string ⟨#[]⟩,.int .i64 0,.string ⟨#[]⟩,.int .u8 0,.int .u8 0,.int .u8 0,.int .u8 0,.int .u8 0,.int .u8 0,.int .u8 0,.int .u8 0,.int .u8 0,.int .u8 0,.int .u8 0,.int .u8 0,.int .u8 0,.int .u8 0,.int .u8 0,.int .u8 0] 27)).alloc (.cells #[.int .i64 0,.int .i64 0] 32)).setRow y8.heap.size U).setRow (y8.heap.size+1) #[.int .i64 0,.int .i64 0]) (y5.heap.size+1) #[.int .i64 0,.int .i64 0] 32):=N1.out.below (BB.out) N1.out.lt
 clear N1
 have N1:=N1n
 clear N1n
 have M2n:Hid (Lies ((((y8.alloc (.cells #[.string ⟨#[]⟩,.int .i64 0,.string ⟨#[]⟩,.int .u8 0,.int .u8 0,.int .u8 0,.int .u8 0,.int .u8 0,.int .u8 0,.int .u8 0,.int .u8 0,.int .u8 0,.int .u8 0,.int .u8 0,.int .u8 0,.int .u8 0,.int .u8 0,.int .u8 0,.int .u8 0] 27)).alloc (.cells #[.int .i64 0,.int .i64 0] 32)).setRow y8.heap.size U).setRow (y8.heap.size+1) #[.int .i64 0,.int .i64 0]) (y6.heap.size) V2 29):=M2.out.below (BB.out) M2.out.lt
 clear M2
 have M2:=M2n
 clear M2n
 have N2n:Hid (Lies ((((y8.alloc (.cells #[.string ⟨#[]⟩,.int .i64 0,.string ⟨#[]⟩,.int .u8 0,.int .u8 0,.int .u8 0,.int .u8 0,.int .u8 0,.int .u8 0,.int .u8 0,.int .u8 0,.int .u8 0,.int .u8 0,.int .u8 0,.int .u8 0,.int .u8 0,.int .u8 0,.int .u8 0,.int .u8 0] 27)).alloc (.cells #[.int .i64 0,.int .i64 0] 32)).setRow y8.heap.size U).setRow (y8.heap.size+1) #[.int .i64 0,.int .i64 0]) (y6.heap.size+1) #[.int .i64 0,.int .i64 0] 32):=N2.out.below (BB.out) N2.out.lt
 clear N2
 have N2:=N2n
 clear N2n
 have P0n:Hid (PA p V0 ((((y8.alloc (.cells #[.string ⟨#[]⟩,.int .i64 0,.string ⟨#[]⟩,.int .u8 0,.int .u8 0,.int .u8 0,.int .u8 0,.int .u8 0,.int .u8 0,.int .u8 0,.int .u8 0,.int .u8 0,.int .u8 0,.int .u8 0,.int .u8 0,.int .u8 0,.int .u8 0,.int .u8 0,.int .u8 0] 27)).alloc (.cells #[.int .i64 0,.int .i64 0] 32)).setRow y8.heap.size U).setRow (y8.heap.size+1) #[.int .i64 0,.int .i64 0])):=P0.out.below (BB.out)
 clear P0
 have P0:=P0n
 clear P0n
 have P1n:Hid (PA p V1 ((((y8.alloc (.cells #[.string ⟨#[]⟩,.int .i64 0,.string ⟨#[]⟩,.int .u8 0,.int .u8 0,.int .u8 0,.int .u8 0,.int .u8 0,.int .u8 0,.int .u8 0,.int .u8 0,.int .u8 0,.int .u8 0,.int .u8 0,.int .u8 0,.int .u8 0,.int .u8 0,.int .u8 0,.int .u8 0] 27)).alloc (.cells #[.int .i64 0,.int .i64 0] 32)).setRow y8.heap.size U).setRow (y8.heap.size+1) #[.int .i64 0,.int .i64 0])):=P1.out.below (BB.out)
 clear P1
 have P1:=P1n
 clear P1n
 have P2n:Hid (PA p V2 ((((y8.alloc (.cells #[.string ⟨#[]⟩,.int .i64 0,.string ⟨#[]⟩,.int .u8 0,.int .u8 0,.int .u8 0,.int .u8 0,.int .u8 0,.int .u8 0,.int .u8 0,.int .u8 0,.int .u8 0,.int .u8 0,.int .u8 0,.int .u8 0,.int .u8 0,.int .u8 0,.int .u8 0,.int .u8 0] 27)).alloc (.cells #[.int .i64 0,.int .i64 0] 32)).setRow y8.heap.size U).setRow (y8.heap.size+1) #[.int .i64 0,.int .i64 0])):=P2.out.below (BB.out)
 clear P2
 have P2:=P2n
 clear P2n
 clear KB12
 go_upto_region 11 with(first|(refine wpList_store_row rfl 27 _ _ rfl y8.heap.size rfl #[.string ⟨#[]⟩,.int .i64 0,.string ⟨#[]⟩,.int .u8 0,.int .u8 0,.int .u8 0,.int .u8 0,.int .u8 0,.int .u8 0,.int .u8 0,.int .u8 0,.int .u8 0,.int .u8 0,.int .u8 0,.int .u8 0,.int .u8 0,.int .u8 0,.int .u8 0,.int .u8 0] U rfl 27 A.out (by rw[HUZ.out];exact infoBx) (by rw[HUZ.out];rfl) HUO.out rfl ?_)|(refine wpList_store_row rfl 32 _ _ rfl (y8.heap.size+1) rfl #[.int .i64 0,.int .i64 0] #[.int .i64 0,.int .i64 0] rfl 32 (B.out.row_other (by omega) _) infoSp rfl (by simp[Value.oneCell']) rfl ?_))
 generalize hv8:(((y8.alloc (.cells #[.string ⟨#[]⟩,.int .i64 0,.string ⟨#[]⟩,.int .u8 0,.int .u8 0,.int .u8 0,.int .u8 0,.int .u8 0,.int .u8 0,.int .u8 0,.int .u8 0,.int .u8 0,.int .u8 0,.int .u8 0,.int .u8 0,.int .u8 0,.int .u8 0,.int .u8 0,.int .u8 0] 27)).alloc (.cells #[.int .i64 0,.int .i64 0] 32)).setRow y8.heap.size U).setRow (y8.heap.size+1) #[.int .i64 0,.int .i64 0]=v8 at M8 N8 KB13 M0 M1 N1 M2 N2 P0 P1 P2 ⊢
 clear hv8 A B BB
 refine wp_region_lit ?_
 refine wpList_load_row9 (by rfl) 29 _ rfl (y5.heap.size) rfl V1 29 _ M1.out Tryz.underlying29 rfl (by rw[z1.out];exact infoPt) ?_
 simp only[Act.put,pA,pB,pC]
 refine wpList_load_row9 (by rfl) 29 _ rfl (g0) rfl V0 29 _ M0.out Tryz.underlying29 rfl (by rw[z0.out];exact infoPt) ?_
 simp only[Act.put,pA,pB,pC]
 refine wpList_onG (by rfl) ?_
 go_simp
 refine Calls.mono (HSM.out _ _ _ P1.out P0.out) ?_
 rintro e y9 ⟨rfl,hc⟩
 have KB14:Hid (Below w.heap.size w y9):=KB13.out.trans ((hc).mono KB13.out.size)
 have M0n:Hid (Lies y9 (g0) V0 29):=M0.out.below (hc) M0.out.lt
 clear M0
 have M0:=M0n
 clear M0n
 have M1n:Hid (Lies y9 (y5.heap.size) V1 29):=M1.out.below (hc) M1.out.lt
 clear M1
 have M1:=M1n
 clear M1n
 have N1n:Hid (Lies y9 (y5.heap.size+1) #[.int .i64 0,.int .i64 0] 32):=N1.out.below (hc) N1.out.lt
 clear N1
 have N1:=N1n
 clear N1n
 have M2n:Hid (Lies y9 (y6.heap.size) V2 29):=M2.out.below (hc) M2.out.lt
 clear M2
 have M2:=M2n
 clear M2n
 have N2n:Hid (Lies y9 (y6.heap.size+1) #[.int .i64 0,.int .i64 0] 32):=N2.out.below (hc) N2.out.lt
 clear N2
 have N2:=N2n
 clear N2n
 have M8n:Hid (Lies y9 (y8.heap.size) U 27):=M8.out.below (hc) M8.out.lt
 clear M8
 have M8:=M8n
 clear M8n
 have N8n:Hid (Lies y9 (y8.heap.size+1) #[.int .i64 0,.int .i64 0] 32):=N8.out.below (hc) N8.out.lt
 clear N8
 have N8:=N8n
 clear N8n
 have P0n:Hid (PA p V0 y9):=P0.out.below (hc)
 clear P0
 have P0:=P0n
 clear P0n
 have P1n:Hid (PA p V1 y9):=P1.out.below (hc)
 clear P1
 have P1:=P1n
 clear P1n
 have P2n:Hid (PA p V2 y9):=P2.out.below (hc)
 clear P2
 have P2:=P2n
 clear P2n
 clear KB13
 clear hc
 refine wpList_yieldG (.bool true) (by rfl) ?hy ?_
 case hy=>(go_simp<;>(first|with_reducible rfl|omega|skip))
 simp only[Act.put,pA,pB,pC]
 refine wpList_load_row9 (by rfl) 29 _ rfl (y6.heap.size) rfl V2 29 _ M2.out Tryz.underlying29 rfl (by rw[z2.out];exact infoPt) ?_
 simp only[Act.put,pA,pB,pC]
 refine wpList_load_row9 (by rfl) 29 _ rfl (g0) rfl V0 29 _ M0.out Tryz.underlying29 rfl (by rw[z0.out];exact infoPt) ?_
 simp only[Act.put,pA,pB,pC]
 refine wpList_onG (by rfl) ?_
 go_simp
 refine Calls.mono (HSM.out _ _ _ P2.out P0.out) ?_
 rintro e yA ⟨rfl,hc⟩
 have KB15:Hid (Below w.heap.size w yA):=KB14.out.trans ((hc).mono KB14.out.size)
 have M0n:Hid (Lies yA (g0) V0 29):=M0.out.below (hc) M0.out.lt
 clear M0
 have M0:=M0n
 clear M0n
 have M1n:Hid (Lies yA (y5.heap.size) V1 29):=M1.out.below (hc) M1.out.lt
 clear M1
 have M1:=M1n
 clear M1n
 have N1n:Hid (Lies yA (y5.heap.size+1) #[.int .i64 0,.int .i64 0] 32):=N1.out.below (hc) N1.out.lt
 clear N1
 have N1:=N1n
 clear N1n
 have M2n:Hid (Lies yA (y6.heap.size) V2 29):=M2.out.below (hc) M2.out.lt
 clear M2
 have M2:=M2n
 clear M2n
 have N2n:Hid (Lies yA (y6.heap.size+1) #[.int .i64 0,.int .i64 0] 32):=N2.out.below (hc) N2.out.lt
 clear N2
 have N2:=N2n
 clear N2n
 have M8n:Hid (Lies yA (y8.heap.size) U 27):=M8.out.below (hc) M8.out.lt
 clear M8
 have M8:=M8n
 clear M8n
 have N8n:Hid (Lies yA (y8.heap.size+1) #[.int .i64 0,.int .i64 0] 32):=N8.out.below (hc) N8.out.lt
 clear N8
 have N8:=N8n
 clear N8n
 have P0n:Hid (PA p V0 yA):=P0.out.below (hc)
 clear P0
 have P0:=P0n
 clear P0n
 have P1n:Hid (PA p V1 yA):=P1.out.below (hc)
 clear P1
 have P1:=P1n
 clear P1n
 have P2n:Hid (PA p V2 yA):=P2.out.below (hc)
 clear P2
 have P2:=P2n
 clear P2n
 clear KB14
 clear hc
 refine wpList_yieldG (.bool true) (by rfl) ?hy ?_
 case hy=>(go_simp<;>(first|with_reducible rfl|omega|skip))
 simp only[Act.put,pA,pB,pC]
 refine wpList_yieldG (.bool true) (by rfl) ?hy ?_
 case hy=>(go_simp<;>(first|with_reducible rfl|omega|skip))
 simp only[Act.put,pA,pB,pC]
 refine wpList_yieldG (.int .i64 (T.size:Int)) (by rfl) ?hy ?_
 case hy=>(go_simp<;>(first|with_reducible rfl|omega|skip))
 simp only[Act.put,pA,pB,pC]
 refine wpList_yieldG (.string T) (by rfl) ?hy ?_
 case hy=>(go_simp<;>(first|with_reducible rfl|omega|skip))
 simp only[Act.put,pA,pB,pC]
 refine wpList_yieldG (.int .i64 (T.size:Int)) (by rfl) ?hy ?_
 case hy=>(go_simp<;>(first|with_reducible rfl|omega|skip))
 simp only[Act.put,pA,pB,pC]
 refine wpList_yieldG (.bool true) (by rfl) ?hy ?_
 case hy=>(go_simp<;>(first|with_reducible rfl|omega|skip))
 simp only[Act.put,pA,pB,pC]
 refine wpList_yieldG (.bool true) (by rfl) ?hy ?_
 case hy=>(go_simp<;>(first|with_reducible rfl|omega|skip))
 simp only[Act.put,pA,pB,pC]
 refine wpList_yieldG (.bool true) (by rfl) ?hy ?_
 case hy=>(go_simp<;>(first|with_reducible rfl|omega|skip))
 simp only[Act.put,pA,pB,pC]
 refine wpList_yieldG (.int .i64 (T.size:Int)) (by rfl) ?hy ?_
 case hy=>(go_simp<;>(first|with_reducible rfl|omega|skip))
 simp only[Act.put,pA,pB,pC]
 refine wpList_yieldG (.string T) (by rfl) ?hy ?_
 case hy=>(go_simp<;>(first|with_reducible rfl|omega|skip))
 simp only[Act.put,pA,pB,pC]
 refine wpList_yieldG (.int .i64 (T.size:Int)) (by rfl) ?hy ?_
 case hy=>(go_simp<;>(first|with_reducible rfl|omega|skip))
 simp only[Act.put,pA,pB,pC]
 refine wpList_yieldG (.bool true) (by rfl) ?hy ?_
 case hy=>(go_simp<;>(first|with_reducible rfl|omega|skip))
 simp only[Act.put,pA,pB,pC]
 refine wpList_yieldG (.bool true) (by rfl) ?hy ?_
 case hy=>(go_simp<;>(first|with_reducible rfl|omega|skip))
 simp only[Act.put,pA,pB,pC]
 refine wpList_yieldG (.bool true) (by rfl) ?hy ?_
 case hy=>(go_simp<;>(first|with_reducible rfl|omega|skip))
 simp only[Act.put,pA,pB,pC]
 refine wpList_load_row9 (by rfl) 32 _ rfl (y5.heap.size+1) rfl #[.int .i64 0,.int .i64 0] 32 _ N1.out Tryz.underlying32 rfl infoSp ?_
 simp only[Act.put,pA,pB,pC]
 refine wpList_yieldG (.agg #[.int .i64 0,.int .i64 0]) (by rfl) ?hy ?_
 case hy=>(go_simp<;>(first|with_reducible rfl|omega|skip))
 simp only[Act.put,pA,pB,pC]
 refine wpList_yieldG (.bool true) (by rfl) ?hy ?_
 case hy=>(go_simp<;>(first|with_reducible rfl|omega|skip))
 simp only[Act.put,pA,pB,pC]
 refine wpList_yieldG (.bool true) (by rfl) ?hy ?_
 case hy=>(go_simp<;>(first|with_reducible rfl|omega|skip))
 simp only[Act.put,pA,pB,pC]
 refine wpList_yieldG (.bool true) (by rfl) ?hy ?_
 case hy=>(go_simp<;>(first|with_reducible rfl|omega|skip))
 simp only[Act.put,pA,pB,pC]
 refine wpList_load_row9 (by rfl) 32 _ rfl (y6.heap.size+1) rfl #[.int .i64 0,.int .i64 0] 32 _ N2.out Tryz.underlying32 rfl infoSp ?_
 simp only[Act.put,pA,pB,pC]
 refine wpList_yieldG (.agg #[.int .i64 0,.int .i64 0]) (by rfl) ?hy ?_
 case hy=>(go_simp<;>(first|with_reducible rfl|omega|skip))
 simp only[Act.put,pA,pB,pC]
 refine wpList_yieldG (.bool true) (by rfl) ?hy ?_
 case hy=>(go_simp<;>(first|with_reducible rfl|omega|skip))
 simp only[Act.put,pA,pB,pC]
 refine wpList_yieldG (.bool true) (by rfl) ?hy ?_
 case hy=>(go_simp<;>(first|with_reducible rfl|omega|skip))
 simp only[Act.put,pA,pB,pC]
 refine wpList_yieldG (.bool true) (by rfl) ?hy ?_
 case hy=>(go_simp<;>(first|with_reducible rfl|omega|skip))
 simp only[Act.put,pA,pB,pC]
 refine wpList_yieldG (.int .i64 0) (by rfl) ?hy ?_
 case hy=>(go_simp<;>(first|with_reducible rfl|omega|skip))
 simp only[Act.put,pA,pB,pC]
 refine wpList_yieldG (.bool true) (by rfl) ?hy ?_
 case hy=>(go_simp<;>(first|with_reducible rfl|omega|skip))
 simp only[Act.put,pA,pB,pC]
 refine wpList_yieldG (.bool true) (by rfl) ?hy ?_
 case hy=>(go_simp<;>(first|with_reducible rfl|omega|skip))
 simp only[Act.put,pA,pB,pC]
 refine wpList_yieldG (.bool true) (by rfl) ?hy ?_
 case hy=>(go_simp<;>(first|with_reducible rfl|omega|skip))
 simp only[Act.put,pA,pB,pC]
 refine wpList_load_row9 (by rfl) 27 _ rfl (y8.heap.size) rfl U 27 _ M8.out Tryz.underlying27 rfl (by rw[HUZ.out];exact infoBx) ?_
 simp only[Act.put,pA,pB,pC]
 refine wpList_yieldG (.pointer (some ⟨g0,2,none⟩)) (by rfl) ?hy ?_
 case hy=>(go_simp<;>(first|with_reducible rfl|omega|skip))
 simp only[Act.put,pA,pB,pC]
 have RG:Hid (yA.rangeAt g0 2 U.toList):=fun j v hv=>(M0.out.cell (2+j)).trans (x0.out j v hv)
 refine wpList_load_mid9 (by rfl) 27 _ rfl g0 2 rfl U.toList _ RG.out Tryz.underlying27 rfl (by rw[Array.length_toList,HUZ.out];exact infoBx) ?_
 rw[show U.toList.toArray=U from by simp]
 simp only[Act.put,pA,pB,pC]
 refine wpList_yieldG (.bool true) (by rfl) ?hy ?_
 case hy=>exact(exec_eql_box _ _ _ rfl p.l p.l p.h p.h (by show Value.agg U=_;rw[HUU.out]) (by show Value.agg U=_;rw[HUU.out]) HAL.out HAL.out).trans (by rw[decide_eq_true rfl,decide_eq_true rfl];rfl)
 simp only[Act.put,pA,pB,pC]
 refine wpList_yieldG (.bool true) (by rfl) ?hy ?_
 case hy=>(go_simp<;>(first|with_reducible rfl|omega|skip))
 simp only[Act.put,pA,pB,pC]
 refine wpList_yieldG (.bool true) (by rfl) ?hy ?_
 case hy=>(go_simp<;>(first|with_reducible rfl|omega|skip))
 simp only[Act.put,pA,pB,pC]
 refine wpList_load_row9 (by rfl) 32 _ rfl (y8.heap.size+1) rfl #[.int .i64 0,.int .i64 0] 32 _ N8.out Tryz.underlying32 rfl infoSp ?_
 simp only[Act.put,pA,pB,pC]
 refine wpList_yieldG (.agg #[.int .i64 0,.int .i64 0]) (by rfl) ?hy ?_
 case hy=>(go_simp<;>(first|with_reducible rfl|omega|skip))
 simp only[Act.put,pA,pB,pC]
 refine wpList_yieldG (.bool true) (by rfl) ?hy ?_
 case hy=>(go_simp<;>(first|with_reducible rfl|omega|skip))
 simp only[Act.put,pA,pB,pC]
 refine wpList_yieldG (.bool true) (by rfl) ?hy ?_
 case hy=>(go_simp<;>(first|with_reducible rfl|omega|skip))
 simp only[Act.put,pA,pB,pC]
 refine wpList_yieldG (.bool true) (by rfl) ?hy ?_
 case hy=>(go_simp<;>(first|with_reducible rfl|omega|skip))
 simp only[Act.put,pA,pB,pC]
 refine wpList_yieldG (.string T) (by rfl) ?hy ?_
 case hy=>(go_simp<;>(first|with_reducible rfl|omega|skip))
 simp only[Act.put,pA,pB,pC]
 refine wpList_yieldG (.int .i64 (T.size:Int)) (by rfl) ?hy ?_
 case hy=>(go_simp<;>(first|with_reducible rfl|omega|skip))
 simp only[Act.put,pA,pB,pC]
 refine wpList_yieldG (.bool true) (by rfl) ?hy ?_
 case hy=>(go_simp<;>(first|with_reducible rfl|omega|skip))
 simp only[Act.put,pA,pB,pC]
 refine wpList_yieldG (.bool true) (by rfl) ?hy ?_
 case hy=>(go_simp<;>(first|with_reducible rfl|omega|skip))
 simp only[Act.put,pA,pB,pC]
 refine wpList_yieldG (.bool true) (by rfl) ?hy ?_
 case hy=>(go_simp<;>(first|with_reducible rfl|omega|skip))
 simp only[Act.put,pA,pB,pC]
 refine wpList_nil ?_
 go_wp2
 go_ret
 exact⟨rfl,KB15.out⟩
theorem walk (L S:ByteArray) (a:List Nat) (k:Int) (sp:Option Addr) (rt:List ByteArray) (cap:Nat) {w:World} (b:(a.length=16∧∀n∈a,n<256)∧Sts w sp rt∧rt.length≤maxLen) (s:L.data.toList.length≤140737488351232∧S.data.toList.length≤140737488351232∧∀t∈rt,t.size≤140737488351232) (wide:Bool) (rest:ByteArray) (sr:rest.size≤140737488351232) (ht:Td w∧10≤w.heap.size):
  Calls Tryz.prog 7 #[.agg (rawC L.data.toList S.data.toList a k (.slice sp rt.length cap)),.bool wide,.string rest] w fun e w'=>e=.returned (.bool true)∧Below w.heap.size w w':=by
 obtain⟨⟨ha,hb⟩,hst,hrl⟩:=b
 obtain⟨s1,s2,s3⟩:=s
 have HT:∀wx,Below w.heap.size w wx→Td wx∧10≤wx.heap.size:=fun wx hb=>⟨ht.1.below hb,Nat.le_trans ht.2 hb.size⟩
 have hz:(rawC L.data.toList S.data.toList a k (.slice sp rt.length cap)).size=20:=by
  unfold rawC
  have hz:(bytesV a).size=16:=by rw[bytesV_size,ha]
  simp only[Array.size_append,hz]
  rfl
 obtain⟨p,hpp⟩:∃p,p=madeP (Int.tmod k 4) a S.data.toList L.data.toList (rt.map (·.data.toList)):=⟨_,rfl⟩
 have mk:=fun x=>made_ok (Int.tmod k 4) a ha hb S.data.toList L.data.toList (rt.map (·.data.toList)) x
 rw[←hpp]at mk
 have hk3:p.k=3:=by rw[hpp];rfl
 obtain⟨ok,hc,h256⟩:=mk wide
 have hc1:=(mk true).2.1
 have hin:=ckP_in ok hc
 have hwd:=ckP_nar (mk false).2.1
 obtain⟨h16,hrr,hl,hh⟩:=(ckB_box hk3).1 (ckP_is hc).1
 obtain⟨_,_,hl1,hh1⟩:=(ckB_box hk3).1 (ckP_is hc1).1
 have hpb:printB p.l p.h=(wrB p.l p.h,0):=by
  unfold printB
  rw[if_pos ((ckB_box (p:=⟨3,[],p.l,p.h⟩) rfl).2 ⟨Nat.zero_le _,fun x hx=>(by cases hx),hl1,hh1⟩)]
 have hi1:=hin.nm
 have hi2:=hin.loc
 have hwl:(wrB p.l p.h).length≤1000000:=by
  have:=box_back hl1 ok.2 hh1
  have q1:=(ckL_is hl1).2.1
  have q2:=(ok_n _ _ ok.2 hh1).2.1
  unfold wrB
  rw[List.length_append,List.length_cons]
  omega
 have hrd:∀back:Bool,pth wide back (txt (wrP p)++rest).data.toList=.ok (p,(txt (wrP p)).size):=fun back=>by
  rw[ByteArray.data_append,Array.toList_append,txt_list,txt_size]
  exact pth_back ok hk3 hc back _
 have hrz:(txt (wrP p)++rest).size≤140737488355328:=by
  rw[ByteArray.size_append,txt_size]
  omega
 refine walkW _ hz wide rest (txt (wrP p)) (txt (wrB p.l p.h)) p hin (by rw[txt_size];exact h256) sr w (fun wx hx=>head_any wx (HT wx hx).1 (HT wx hx).2) (fun wx hx=>?_) (fun wx V hx hV=>?_) (fun wx V hx hV=>?_) (fun wx V hx hV=>?_) (fun wx V V1 hV hV1=>same_pa hin hV hV1) (fun wx hx=>?_) (fun wx hx=>?_) (fun wx hx=>?_) (fun wx hx=>?_)
 ·rw[hpp]
  exact made_any _ _ a k sp rt cap ha (by omega) (by omega) wx (hst.below hx) hrl (fun t htt=>Nat.le_trans (s3 t htt) (by omega))
 ·have:=print_pa hin hV (HT wx hx).1
  rw[printP_ok hc1]at this
  exact this
 ·have:=check_pa hin hV (HT wx hx).1 wide
  rw[hc]at this
  exact this
 ·have:=wide_pa hin hV (HT wx hx).1
  rw[hwd]at this
  exact this
 ·have:=rev_pv (txt (wrP p)++rest) hrz wide wx (HT wx hx).1 (HT wx hx).2
  rw[hrd true]at this
  exact this
 ·have:=fwd_pv (txt (wrP p)++rest) hrz wide wx (HT wx hx).1 (HT wx hx).2
  rw[hrd false]at this
  exact this
 ·have:=ppbox_any p.l p.h wx ok.2 (by omega) (by omega) (HT wx hx).1 (rep_in hin (HT wx hx).1)
  rw[hpb]at this
  exact this
 ·have:=pbx_any (txt (wrB p.l p.h)) (by rw[txt_size];omega) wide wx (HT wx hx).1 (HT wx hx).2
  rw[txt_list,box_back hl ok.2 hh]at this
  exact this
set_option maxRecDepth 100000 in
theorem contract (H:Type) (enc:TypeId×Value→H) (W:World) (base:Nat) (args:Array Value) (ds gs:List (DataW H)) (before:List MemPlace)
  (hval:∀(j:Nat) t v,Tryz.f7.params[j]?=some t→args[j]?=some v→Value.okWide Tryz.prog W .any base t v)
  (hW:DataW.Whole enc Tryz.prog Tryz.f7.params.toList Rows.pathBackSpec.vars false W args.toList ds gs before)
  (hsz:(DataW.weightsEach Tryz.prog (Tryz.f7.params.toList++(OpenSpec.ofChange Rows.pathBackSpec).bare.plain.varTypes Tryz.prog) (ds++gs)).all (· ≤reachBytes)=true)
  (hL:laidMetH Tryz.prog Rows.pathBackRow.laid W) (hsh:W.ShapedOpen Tryz.prog):
  Calls Tryz.prog 7 args W fun e W'=>∃v,e=.returned v∧Rows.pathBackSpec.post enc Tryz.prog Tryz.f7 false true false false W args v W':=by
 have hW':=hW
 obtain⟨p,q,hA0,hV,rfl,hfz,hnd⟩:=hW
 have hA:DataW.TrodAll enc Tryz.prog W 0 (fun _=>true) true Tryz.f7.params.toList args.toList ds p:=hA0
 rw[Tryz.params7]at hA hval hsz
 obtain⟨v0,vs0,d0,ds0,p0,q0,hargs,rfl,rfl,h0,r0⟩:=trodAll_cons hA
 obtain⟨v1,vs1,d1,ds1,p1,q1,rfl,rfl,rfl,h1,r1⟩:=trodAll_cons r0
 obtain⟨v2,vs2,d2,ds2,p2,q2,rfl,rfl,rfl,h2,r2⟩:=trodAll_cons r1
 obtain⟨rfl,rfl,rfl⟩:=trodAll_nil r2
 obtain rfl:args=#[v0,v1,v2]:=by cases args;simp_all
 obtain⟨rfl,rfl⟩:=trodVars_none hV
 have k0:=h0
 have lt0:∀x∈p0,x.block<W.heap.size:=by obtain⟨m,hm⟩:=k0;exact DataW.trod_lt m _ _ _ hm
 obtain⟨L0,S0,a0,n0,sp0,rt0,cap0,rfl,b0,e0⟩:=open_raw (hval 0 52 v0 rfl rfl) h0
 obtain⟨a1,rfl,rfl,rfl⟩:=open_bool Tryz.underlying4 (hval 1 4 v1 rfl rfl) h1
 obtain⟨a2,rfl,rfl,rfl,w2⟩:=open_string Tryz.underlying9 (hval 2 9 v2 rfl rfl) h2
 clear hA0
 have s0:=raw_size (j:=0) hsz rfl rfl e0
 have s2:=sized_string hsz (j:=2) (t:=9) rfl rfl
 simp only[reachBytes,Array.length_toList]at s2
 refine(walk L0 S0 a0 n0 sp0 rt0 cap0 b0 s0 a1 a2 s2 (tabs9_of hL hsh)).mono fun e W' ⟨he,bel⟩=>?_
 subst he
 exact⟨_,rfl,_,_,_,[],_,[],hW',trodAll_mk1 (shut_bool Tryz.underlying4 _),trodAll_cons_mk (Below.trod laidOut (by kernel_rfl) (of_decide_eq_true (by kernel_rfl)) k0 bel lt0) (trodAll_cons_mk (shut_bool Tryz.underlying4 _) (trodAll_cons_mk (shut_string Tryz.underlying9 w2) trodAll_mk0)),rfl,bel.frame _,fun h=>by cases h⟩
set_option maxRecDepth 100000 in
theorem laid_met (os:Os):laidMet Tryz.prog Rows.pathBackRow.laid ((laidWorld9 os).forCall (fun _ _=>0) ⟨#[],#[.agg #[.string ByteArray.empty,.string ByteArray.empty,.int .u8 0,.int .u8 0,.int .u8 0,.int .u8 0,.int .u8 0,.int .u8 0,.int .u8 0,.int .u8 0,.int .u8 0,.int .u8 0,.int .u8 0,.int .u8 0,.int .u8 0,.int .u8 0,.int .u8 0,.int .u8 0,.int .i64 0,.slice none 0 0],.bool false,.string ByteArray.empty],[]⟩).memory:=
 laidMet_of_run' 8 (by kernel_rfl) (by kernel_rfl)
set_option maxRecDepth 100000 in
theorem reads (os:Os) {H:Type} (enc:TypeId×Value→H):∃places,DataW.whole enc Tryz.prog ((laidWorld9 os).forCall (fun _ _=>0) ⟨#[],#[.agg #[.string ByteArray.empty,.string ByteArray.empty,.int .u8 0,.int .u8 0,.int .u8 0,.int .u8 0,.int .u8 0,.int .u8 0,.int .u8 0,.int .u8 0,.int .u8 0,.int .u8 0,.int .u8 0,.int .u8 0,.int .u8 0,.int .u8 0,.int .u8 0,.int .u8 0,.int .i64 0,.slice none 0 0],.bool false,.string ByteArray.empty],[]⟩).memory Tryz.f7.params.toList Rows.pathBackSpec.vars false #[Value.agg #[.string ByteArray.empty,.string ByteArray.empty,.int .u8 0,.int .u8 0,.int .u8 0,.int .u8 0,.int .u8 0,.int .u8 0,.int .u8 0,.int .u8 0,.int .u8 0,.int .u8 0,.int .u8 0,.int .u8 0,.int .u8 0,.int .u8 0,.int .u8 0,.int .u8 0,.int .i64 0,.slice none 0 0],Value.bool false,Value.string ByteArray.empty].toList 8=some ([.agg [.lit (.string []),.lit (.string []),.agg [.lit (.int .u8 0),.lit (.int .u8 0),.lit (.int .u8 0),.lit (.int .u8 0),.lit (.int .u8 0),.lit (.int .u8 0),.lit (.int .u8 0),.lit (.int .u8 0),.lit (.int .u8 0),.lit (.int .u8 0),.lit (.int .u8 0),.lit (.int .u8 0),.lit (.int .u8 0),.lit (.int .u8 0),.lit (.int .u8 0),.lit (.int .u8 0)],.lit (.int .i64 0),.nil],.lit (.bool false),.lit (.string [])],[],places):=
 ⟨[],by kernel_rfl⟩
set_option maxRecDepth 100000 in
theorem lifted (os:Os) (started:os.Started) (H:Type) (enc:TypeId×Value→H) (F:Stop.Interp):
  ReturnsInHanded {} Tryz.checked os 7 .any ((OpenSpec.ofChange Rows.pathBackSpec).preRow enc Tryz.prog Tryz.f7 Rows.pathBackRow.domain false Rows.pathBackRow.laid) (((OpenSpec.ofChange Rows.pathBackSpec).at F).post enc Tryz.prog Tryz.f7 false true false false):=by
 obtain⟨places,hx⟩:=reads os enc
 refine returnsInHanded_of_row (C:=Tryz.checked) (s:=OpenSpec.ofChange Rows.pathBackSpec) own started (by kernel_rfl) Tryz.func7
  (witness_row_at (enc:=enc) (C:=Tryz.checked) false (laidWorld9 os) #[.agg #[.string ByteArray.empty,.string ByteArray.empty,.int .u8 0,.int .u8 0,.int .u8 0,.int .u8 0,.int .u8 0,.int .u8 0,.int .u8 0,.int .u8 0,.int .u8 0,.int .u8 0,.int .u8 0,.int .u8 0,.int .u8 0,.int .u8 0,.int .u8 0,.int .u8 0,.int .i64 0,.slice none 0 0],.bool false,.string ByteArray.empty] rfl (by kernel_rfl) (by kernel_rfl) (by kernel_rfl)
   (OpenSpec.preRow_of_cond 8 hx (by kernel_rfl) (fun k hk=>by cases hk) (by kernel_rfl) (laid_met os))) ?_
 intro W base args ds gs before hval hW _ _ hsz hL hsh _
 exact contract H enc W base args ds gs before hval hW hsz hL hsh
theorem said:Rows.PathBackSaid:=
 OpenClaim.holds_of_cond 7 Tryz.f7 rfl rfl rfl rfl rfl rfl rfl ⟨rfl,rfl,rfl,rfl,rfl⟩ rfl rfl rfl rfl rfl (by kernel_rfl) Tryz.func7 (by kernel_rfl)
  (of_decide_eq_true (by kernel_rfl)) (by unfold Func.isWrapper;first|(rw[if_pos (by decide+kernel)];kernel_rfl)|(rw[if_neg (by decide+kernel)];exact⟨rfl,rfl⟩))
  (fun os started H enc _ F=>by rw[OpenClaim.pre_eq_preRow];exact lifted os started H enc F)
theorem plain (f:FuncId) (fn:Func) (hf:Tryz.pinned.checked.prog.funcNamed "posthorn/posthornlaw09.PathBack"=some f) (hfn:Tryz.pinned.checked.prog.funcs[f]?=some fn):
  true=Tryz.pinned.checked.prog.looks []∧∀(j:Nat) t,fn.params[j]?=some t→Tryz.pinned.checked.prog.wantsStandIn t=false:=by
 obtain rfl:f=7:=Option.some.inj ((show Tryz.prog.funcNamed "posthorn/posthornlaw09.PathBack"=some 7 by kernel_rfl).symm.trans hf) |>.symm
 obtain rfl:fn=Tryz.f7:=(Option.some.inj (Tryz.func7.symm.trans hfn)).symm
 refine⟨by kernel_rfl,fun j t ht=>?_⟩
 rw[Tryz.params7]at ht
 have hm:t∈[52,4,9]:=by simpa using Array.mem_of_getElem? ht
 have hall:([52,4,9].all fun u=>!Tryz.prog.wantsStandIn u)=true:=by kernel_rfl
 exact(show Tryz.prog.wantsStandIn t=false by simpa using List.all_eq_true.1 hall t hm)
theorem card:Rows.PathBackCardSaid:=
 Claim7.holds_tied_plain_at .later [] _ _ _ _ said (fun _ h=>by cases h) (by kernel_rfl) (fun _ h=>by cases h) pathBack_row_tie rfl ⟨rfl,rfl⟩ (by kernel_rfl) rfl plain (by kernel_rfl)
end Go.Proofs.YtfjpkfhbmldmfaaGreatDoor.pathBack
namespace Go.Proofs.YtfjpkfhbmldmfaaGreatDoor
theorem pathBack_card:Rows.PathBackCardSaid:=pathBack.card
#print axioms pathBack_card
end Go.Proofs.YtfjpkfhbmldmfaaGreatDoor
