/-
  For all that a path is made of the statement PathDressed returns true.
-/
import Derived.Test.YtfjpkfhbmldmfabGreatDoorUtfE
import Derived.Test.YtfjpkfhbmldmfabGreatDoorXv9
import Derived.Test.YtfjpkfhbmldmfabGreatDoorXz9
import Derived.Test.YtfjpkfhbmldmfabGreatDoorCardR
import Derived.ProofKit
import Derived.ChangeMaps5
import Derived.OpenShut
import Derived.ShutString
import Derived.ChangeOld
import Derived.SizedLaws
namespace Go.Proofs.YtfjpkfhbmldmfabGreatDoor.pathDressed
open Go.ChangeShapes Go.WideShapes Go.ChangeAt Go.RowKit
theorem drsL_len:∀l:List UInt8,(drsL l).length=2*l.length
 |[]=>rfl
 |c::r=>by rw[drsL,List.length_cons,List.length_cons,drsL_len r,List.length_cons];omega
theorem pa_box {p:Pt} {V:Array Value} {w:World} (h:PA p V w):∀j v,(boxC p.l p.h).toList[j]?=some v→V[2+j]?=some v:=by
 obtain⟨sp,c,rfl,_⟩:=h
 intro j v hv
 rw[pth_box,Array.getElem?_append_right (by simp)]
 simpa using hv
theorem drsL_snoc:∀(l:List UInt8) (c:UInt8),drsL (l++[c])=drsL l++[92,c]
 |[],_=>rfl
 |x::r,c=>by rw[List.cons_append,drsL,drsL,drsL_snoc r c];rfl
set_option maxHeartbeats 16000000 in
set_option maxRecDepth 100000 in
theorem walkW (P:Array Value) (hPz:P.size=20) (p:Pt) (hp:p.In) (hl31:p.l.length≤31) (T1 T2 T3 Z:ByteArray) (h2s:2≤T2.size) (h2z:T2.size≤1000) (hT3:T2.extract 1 T2.size=T3) (hZ:txt (34::(drsL p.l++[34]))++T3=Z) (w:World)
  (HH:Hid (∀wx,Below w.heap.size w wx→Calls Tryz.prog 7 #[] wx fun e w'=>e=.returned (.bool true)∧Below wx.heap.size wx w'))
  (HM:Hid (∀wx,Below w.heap.size w wx→Calls Tryz.prog 13 #[.agg P] wx fun e w'=>∃V,e=.returned (.agg V)∧PA p V w'∧Below wx.heap.size wx w'))
  (HB1:Hid (∀wx,Below w.heap.size w wx→Calls Tryz.prog 14 #[.agg (boxC p.l p.h)] wx fun e w'=>e=.returned (.tuple #[.string T1,.int .i64 0])∧Below wx.heap.size wx w'))
  (HB2:Hid (∀wx,Below w.heap.size w wx→Calls Tryz.prog 14 #[.agg (#[.string ⟨#[97]⟩]++hostC p.h)] wx fun e w'=>e=.returned (.tuple #[.string T2,.int .i64 0])∧Below wx.heap.size wx w'))
  (HX:Hid (∀wx,Below w.heap.size w wx→Calls Tryz.prog 15 #[.string Z,.bool false] wx fun e w'=>e=.returned (.tuple #[.agg (boxC p.l p.h),.agg #[.int .i64 0,.int .i64 0]])∧Below wx.heap.size wx w')):
  Calls Tryz.prog 5 #[.agg P] w fun e w'=>e=.returned (.bool true)∧Below w.heap.size w w':=by
 have LR:Hid (Lies (w.alloc (.cells P 45)) w.heap.size P 45):=Lies.new w _ _
 have KB:Hid (Below w.heap.size w (w.alloc (.cells P 45))):=(Below.refl _ _).alloc (Nat.le_refl _) _
 have HUZ:Hid ((boxC p.l p.h).size=19):=boxC_size _ _ hp.ok.2.len
 have HUO:Hid ((boxC p.l p.h).all (·.oneCell')=true):=boxC_one _ _
 have HAL:Hid (p.h.a.length=16):=hp.ok.2.len
 obtain⟨U,hU⟩:∃U,U=boxC p.l p.h:=⟨_,rfl⟩
 have HUU:Hid (U=boxC p.l p.h):=hU
 have HVU:Hid (∀V wx,PA p V wx→∀j v,U.toList[j]?=some v→V[2+j]?=some v):=fun V wx h=>by rw[hU];exact pa_box h
 obtain⟨HC,hHC⟩:∃HC,HC=hostC p.h:=⟨_,rfl⟩
 have HU3:Hid (∀j v,HC.toList[j]?=some v→U.toList[1+j]?=some v):=fun j v hv=>by
  rw[hHC]at hv
  rw[hU]
  unfold boxC
  rw[Array.toList_append,List.getElem?_append_right (by simp)]
  simpa using hv
 have HU0:Hid (U.toList[0]?=some (.string (txt p.l))):=by
  show _=_
  rw[hU]
  unfold boxC
  simp
 have hCz:HC.size=18:=by rw[hHC];exact hostC_size _ hp.ok.2.len
 rw[←hU]at HUZ HUO HB1 HX
 rw[←hHC]at HB2
 have hbb:=build_box ⟨#[97]⟩ HC hCz
 clear hU hHC
 go_enter Tryz.func5,Tryz.ntmps5
 go_upto_region 1 with fail
 generalize w.alloc (.cells P 45)=v0 at LR KB ⊢
 go_wp2_with (first|(refine wpList_load_row9 (by rfl) 45 _ rfl (w.heap.size) rfl P 45 _ LR.out Tryz.underlying45 rfl (by rw[hPz];exact infoRaw) ?_))
 refine Calls.mono (HH.out _ KB.out) ?_
 rintro e y0 ⟨rfl,hc⟩
 have KB1:Hid (Below w.heap.size w y0):=KB.out.trans ((hc).mono KB.out.size)
 have LRn:Hid (Lies y0 (w.heap.size) P 45):=LR.out.below (hc) LR.out.lt
 clear LR
 have LR:=LRn
 clear LRn
 clear KB
 clear hc
 go_wp2_with (first|(refine wpList_load_row9 (by rfl) 45 _ rfl (w.heap.size) rfl P 45 _ LR.out Tryz.underlying45 rfl (by rw[hPz];exact infoRaw) ?_))
 refine Calls.mono (HM.out _ KB1.out) ?_
 rintro e y1 ⟨V0,rfl,hA,hc⟩
 clear LR
 have KB2:Hid (Below w.heap.size w y1):=KB1.out.trans ((hc).mono KB1.out.size)
 clear KB1
 have z0:Hid (V0.size=21):=hA.size hp.ok.2.len
 have o0:Hid (V0.all (·.oneCell')=true):=hA.one
 have x0:Hid (∀j v,U.toList[j]?=some v→V0[2+j]?=some v):=HVU.out V0 y1 hA
 clear hA hc HVU
 have A:Hid (Lies (y1.alloc (.cells #[.int .i64 0,.slice none 0 0,.string ⟨#[]⟩,.int .i64 0,.string ⟨#[]⟩,.int .u8 0,.int .u8 0,.int .u8 0,.int .u8 0,.int .u8 0,.int .u8 0,.int .u8 0,.int .u8 0,.int .u8 0,.int .u8 0,.int .u8 0,.int .u8 0,.int .u8 0,.int .u8 0,.int .u8 0,.int .u8 0] 32)) y1.heap.size #[.int .i64 0,.slice none 0 0,.string ⟨#[]⟩,.int .i64 0,.string ⟨#[]⟩,.int .u8 0,.int .u8 0,.int .u8 0,.int .u8 0,.int .u8 0,.int .u8 0,.int .u8 0,.int .u8 0,.int .u8 0,.int .u8 0,.int .u8 0,.int .u8 0,.int .u8 0,.int .u8 0,.int .u8 0,.int .u8 0] 32):=Lies.new y1 _ _
 have M0:Hid (Lies ((y1.alloc (.cells #[.int .i64 0,.slice none 0 0,.string ⟨#[]⟩,.int .i64 0,.string ⟨#[]⟩,.int .u8 0,.int .u8 0,.int .u8 0,.int .u8 0,.int .u8 0,.int .u8 0,.int .u8 0,.int .u8 0,.int .u8 0,.int .u8 0,.int .u8 0,.int .u8 0,.int .u8 0,.int .u8 0,.int .u8 0,.int .u8 0] 32)).setRow y1.heap.size V0) y1.heap.size V0 32):=A.out.row _
 have BB:Hid (Below y1.heap.size y1 ((y1.alloc (.cells #[.int .i64 0,.slice none 0 0,.string ⟨#[]⟩,.int .i64 0,.string ⟨#[]⟩,.int .u8 0,.int .u8 0,.int .u8 0,.int .u8 0,.int .u8 0,.int .u8 0,.int .u8 0,.int .u8 0,.int .u8 0,.int .u8 0,.int .u8 0,.int .u8 0,.int .u8 0,.int .u8 0,.int .u8 0,.int .u8 0] 32)).setRow y1.heap.size V0)):=below_row ((Below.refl _ _).alloc (Nat.le_refl _) _) (Nat.le_refl _) _
 have KB3:Hid (Below w.heap.size w ((y1.alloc (.cells #[.int .i64 0,.slice none 0 0,.string ⟨#[]⟩,.int .i64 0,.string ⟨#[]⟩,.int .u8 0,.int .u8 0,.int .u8 0,.int .u8 0,.int .u8 0,.int .u8 0,.int .u8 0,.int .u8 0,.int .u8 0,.int .u8 0,.int .u8 0,.int .u8 0,.int .u8 0,.int .u8 0,.int .u8 0,.int .u8 0] 32)).setRow y1.heap.size V0)):=KB2.out.trans ((BB.out).mono KB2.out.size)
 clear KB2
 go_upto_region 4 with(refine wpList_store_row rfl 32 _ _ rfl y1.heap.size rfl #[.int .i64 0,.slice none 0 0,.string ⟨#[]⟩,.int .i64 0,.string ⟨#[]⟩,.int .u8 0,.int .u8 0,.int .u8 0,.int .u8 0,.int .u8 0,.int .u8 0,.int .u8 0,.int .u8 0,.int .u8 0,.int .u8 0,.int .u8 0,.int .u8 0,.int .u8 0,.int .u8 0,.int .u8 0,.int .u8 0] V0 rfl 32 A.out (by rw[z0.out];exact infoPt) (by rw[z0.out];rfl) o0.out rfl ?_)
 generalize hv0:(y1.alloc (.cells #[.int .i64 0,.slice none 0 0,.string ⟨#[]⟩,.int .i64 0,.string ⟨#[]⟩,.int .u8 0,.int .u8 0,.int .u8 0,.int .u8 0,.int .u8 0,.int .u8 0,.int .u8 0,.int .u8 0,.int .u8 0,.int .u8 0,.int .u8 0,.int .u8 0,.int .u8 0,.int .u8 0,.int .u8 0,.int .u8 0] 32)).setRow y1.heap.size V0=v1 at M0 KB3 ⊢
 clear hv0 A BB HH HM
 generalize y1.heap.size=g0 at M0 ⊢
 have c02:v1.cell? ⟨g0,2,none⟩=some (.string (txt p.l)):=(M0.out.cell 2).trans (x0.out 0 _ HU0.out)
 obtain⟨L,hL⟩:∃L,L=txt p.l:=⟨_,rfl⟩
 have HLL:Hid (L.data.toList=p.l):=by show _=_;rw[hL,txt_list]
 have hLz:L.size≤31:=by rw[hL,txt_size];exact hl31
 rw[←hL]at c02
 have HWt:Hid (txt (34::(drsL p.l++[34]))++T3=Z):=hZ
 clear hL hZ HU0
 go_wp2_with fail
 have HB0:Hid (Below v1.heap.size v1 v1):=Below.refl _ _
 go_loopw [5,6] (fun u c wr=>∃(i:Nat) (acc:List UInt8),i≤L.size∧c=.int .i64 i∧acc.length=1+2*i∧Hid (acc=34::drsL (p.l.take i))∧Hid (wr.ownsRow v1.heap.size 5 1 u acc.length (cellsB acc))∧Hid (Below v1.heap.size v1 wr)) (fun _ c _=>L.size - (intOf c).toNat)
 case atStart=>exact⟨0,[34],Nat.zero_le _,by go_num,rfl,rfl,⟨rfl,.inr ⟨v1.heap.size,1,#[.int .u8 34],rfl,Nat.le_refl _,Lies.new v1 _ 5,Nat.le_refl _,by unfold maxLen;omega,rfl,rfl⟩⟩,(Below.refl _ _).alloc (Nat.le_refl _) _⟩
 case round=>
  obtain⟨i,acc,hi,rfl,hacc,HA,HO,HB⟩:=hrel
  obtain⟨sa,sc,hu,_⟩:=own_bts HO.out
  subst hu
  clear HB0 c02
  by_cases hlt:i<L.size
  ·have hlt':(i:Int)<(L.size:Int):=by omega
   have HAA:Hid (acc++[92,L[i]]=34::drsL (p.l.take (i+1))):=by
    show _=_
    have e:p.l.take (i+1)=p.l.take i++[L[i]]:=by
     rw[←HLL.out,List.take_add_one,Array.getElem?_toList,Array.getElem?_eq_getElem (show i<L.data.size from hlt)]
     rfl
    rw[HA.out,e,drsL_snoc]
    rfl
   have hc8:=L[i].toNat_lt
   go_wp2_with (at_builtin;refine wpList_append_bts rfl _ _ rfl v1.heap.size (.slice sa acc.length sc) acc.length acc rfl (HO.out.alloc _) (some ⟨wr.heap.size,0,none⟩) [92,L[i]] 2 rfl (.inr ⟨wr.heap.size,0,rfl,by simp,fun j hj=>by
    match j,hj with
    |0,_=>simp
    |1,_=>simp⟩) (fun e=>by cases e) (by simp;omega) (by have:=HB.out.size;simp;omega) ?_;intro v3 w3 hown3 hbel3)
   have HB3:Hid (Below v1.heap.size v1 w3):=hbel3 _ _ (HB.out.alloc HB.out.size _) (Nat.le_refl _)
   have HO3:Hid (w3.ownsRow v1.heap.size 5 1 v3 (acc++[92,L[i]]).length (cellsB (acc++[92,L[i]]))):=by
    show World.ownsRow _ _ _ _ _ _ _
    rw[List.length_append]
    exact hown3
   clear hown3 hbel3 HO HB HA
   go_wp2_with fail
   go_roundw
   case rel=>exact⟨i+1,acc++[92,L[i]],hlt,by go_num,by simp only[List.length_append,List.length_cons,List.length_nil];omega,HAA,HO3,HB3⟩
   case measure=>simp[intOf];omega
  ·have hlt':¬(i:Int)<(L.size:Int):=by omega
   have HD:Hid (acc=34::drsL p.l):=by
    show _=_
    rw[HA.out,List.take_of_length_le (by rw[←HLL.out,Array.length_toList];show L.size≤i;omega)]
   clear HA
   go_upto_region 11 with(at_builtin;refine wpList_append_byte rfl _ _ rfl v1.heap.size (.slice sa acc.length sc) acc.length acc rfl (HO.out.alloc _) wr 34 _ rfl rfl 1 rfl (by omega) HB.out.size ?_;intro v4 w4 hown4 hbel4)
   have HBW:Hid (Below v1.heap.size v1 w4):=hbel4 _ _ HB.out (Nat.le_refl _)
   have HOW:Hid (w4.ownsRow v1.heap.size 5 1 v4 (34::(drsL p.l++[34])).length (cellsB (34::(drsL p.l++[34])))):=by
    show World.ownsRow _ _ _ _ _ _ _
    have e:acc++[34]=34::(drsL p.l++[34]):=by rw[HD.out];rfl
    rw[←e,List.length_append,List.length_singleton]
    exact hown4
   obtain⟨sa,sc,rfl,_⟩:=own_bts HOW.out
   clear hown4 hbel4 HO HB HD
   have KBW:Hid (Below w.heap.size w w4):=KB3.out.trans (HBW.out.mono KB3.out.size)
   have M0w:Hid (Lies w4 g0 V0 32):=M0.out.below HBW.out M0.out.lt
   clear KB3 M0
   have M0:=M0w
   clear M0w HBW
   generalize hWd:(34::(drsL p.l++[34]))=Wd at HOW HWt
   have HWl:Hid (Wd.length≤64):=by
    show _≤_
    have:=drsL_len p.l
    rw[←hWd,List.length_cons,List.length_append,List.length_singleton,this]
    omega
   clear hWd
   have RGa:Hid (w4.rangeAt g0 2 U.toList):=fun j v hv=>(M0.out.cell (2+j)).trans (x0.out j v hv)
   refine wp_region_lit ?_
   refine wpList_yieldG (.pointer (some ⟨g0,2,none⟩)) (by rfl) ?hy ?_
   case hy=>(go_simp<;>(first|with_reducible rfl|omega|skip))
   simp only[Act.put,pA,pB,pC]
   refine wpList_load_mid9 (by rfl) 30 _ rfl g0 2 rfl U.toList _ RGa.out Tryz.underlying30 rfl (by rw[Array.length_toList,HUZ.out];exact infoBx) ?_
   rw[show U.toList.toArray=U from by simp]
   simp only[Act.put,pA,pB,pC]
   refine wpList_onG (by rfl) ?_
   go_simp
   refine Calls.mono (HB1.out _ KBW.out) ?_
   rintro e c1 ⟨rfl,hc⟩
   have hcK:=hc
   have KB5:Hid (Below w.heap.size w c1):=KBW.out.trans ((hc).mono KBW.out.size)
   have M0n:Hid (Lies c1 (g0) V0 32):=M0.out.below (hc) M0.out.lt
   clear M0
   have M0:=M0n
   clear M0n
   clear KBW
   clear hc
   have HO1:Hid (c1.ownsRow v1.heap.size 5 1 (.slice sa Wd.length sc) Wd.length (cellsB Wd)):=own_below HOW.out hcK
   clear HOW RGa hcK
   go_upto_region 14 with fail
   have RGb:Hid (c1.rangeAt g0 (2+1) HC.toList):=fun j v hv=>by
    rw[Nat.add_assoc]
    exact(M0.out.cell (2+(1+j))).trans (x0.out (1+j) v (HU3.out j v hv))
   refine wp_region_lit ?_
   refine wpList_yieldG (.pointer (some ⟨g0,2,none⟩)) (by rfl) ?hy ?_
   case hy=>(go_simp<;>(first|with_reducible rfl|omega|skip))
   simp only[Act.put,pA,pB,pC]
   refine wpList_yieldG (.pointer (some ⟨g0,2+1,none⟩)) (by rfl) ?hy ?_
   case hy=>(go_simp<;>(first|with_reducible rfl|omega|skip))
   simp only[Act.put,pA,pB,pC]
   refine wpList_load_mid9 (by rfl) 28 _ rfl g0 (2+1) rfl HC.toList _ RGb.out Tryz.underlying28 rfl (by rw[Array.length_toList,hCz];exact infoHo) ?_
   rw[show HC.toList.toArray=HC from by simp]
   simp only[Act.put,pA,pB,pC]
   refine wpList_yieldG (.agg (#[.string ⟨#[97]⟩]++HC)) (by rfl) ?hy ?_
   case hy=>(go_simp<;>(first|with_reducible rfl|omega|skip))
   simp only[Act.put,pA,pB,pC]
   refine wpList_onG (by rfl) ?_
   go_simp
   refine Calls.mono (HB2.out _ KB5.out) ?_
   rintro e c2 ⟨rfl,hc⟩
   have HO2:Hid (c2.ownsRow v1.heap.size 5 1 (.slice sa Wd.length sc) Wd.length (cellsB Wd)):=own_below HO1.out hc
   clear HO1
   have KB6:Hid (Below w.heap.size w c2):=KB5.out.trans ((hc).mono KB5.out.size)
   have M0n:Hid (Lies c2 (g0) V0 32):=M0.out.below (hc) M0.out.lt
   clear M0
   have M0:=M0n
   clear M0n
   clear KB5
   clear hc
   clear RGb hbb HB2
   have h2s':¬(T2.size:Int)<2:=by omega
   have h2t:(1:Int)≤(T2.size:Int):=by omega
   have h2u:1≤T2.size:=by omega
   go_upto_region 17 with fail
   have HCV:Hid (∀wx,Below c2.heap.size c2 wx→(convert 47 9 (.slice sa Wd.length sc)).run Tryz.prog wx=.ok (.string (txt Wd)) wx):=fun wx hx=>conv_own (own_below HO2.out hx)
   have HXB:Hid (∀wx,Below c2.heap.size c2 wx→Calls Tryz.prog 15 #[.string Z,.bool false] wx fun e w'=>e=.returned (.tuple #[.agg U,.agg #[.int .i64 0,.int .i64 0]])∧Below wx.heap.size wx w'):=fun wx hx=>HX.out wx (KB6.out.trans (hx.mono KB6.out.size))
   have h3z:T3.size≤1000:=by rw[←hT3,ByteArray.size_extract];omega
   have ad1:∀W,(Op.stringOp .add (txt Wd) T3).run Tryz.prog W=.ok (.string Z) W:=fun W=>by
    have:=run_string_add_sum (P:=Tryz.prog) W (txt Wd) T3 (by rw[txt_size];have:=HWl.out;omega)
    rw[HWt.out]at this
    exact this
   have HO3:=HO2.out
   generalize hWt2:txt Wd=Wt at HCV ad1
   generalize hDN:Wd.length=DN at HCV ⊢
   clear HX HO2 HO3 HWt hWt2 hDN HWl
   go_cut [11,12] (fun v4 v5 wx=>∃p4 p5:Nat,v4=.pointer (some ⟨p4,0,none⟩)∧v5=.pointer (some ⟨p5,0,none⟩)∧Hid (Lies wx p4 U 30)∧Hid (Lies wx p5 #[.int .i64 0,.int .i64 0] 35)∧p4≠p5∧c2.heap.size≤p4∧c2.heap.size≤p5∧Hid (Below c2.heap.size c2 wx))
   case first=>
    refine wp_region_late (fun wx=>Below c2.heap.size c2 wx) 13 (by kernel_rfl) (Below.refl _ c2).drew (fun hHeld=>?_)
    have k0:Below c2.heap.size c2 c2.drew:=(Below.refl _ c2).drew
    have q0:c2.heap.size≤c2.drew.heap.size:=Nat.le_refl _
    generalize c2.drew=W0 at hHeld k0 q0 ⊢
    refine tk9 0 (some 62) (.slice sa DN sc) ?_
    simp only[Act.put,pA,pB,pC]
    refine tk9 1 (some 63) (.string Wt) ?_ (hy:=?hy)
    case hy=>(intro w' hSw;have hq:=HCV.out w' hSw;go_simp<;>(first|with_reducible rfl|omega|skip))
    simp only[Act.put,pA,pB,pC]
    refine tk9 2 (some 64) (.string T2) ?_
    simp only[Act.put,pA,pB,pC]
    refine tk9 3 (some 65) (.string T3) ?_
    simp only[Act.put,pA,pB,pC]
    refine tk9 4 (some 66) (.string Z) ?_
    simp only[Act.put,pA,pB,pC]
    refine wpAnyE_three 5 9 10 (by kernel_rfl) rfl rfl rfl rfl rfl rfl ?_ ?_ ?_
    ·refine oper_call (some 67) 15 #[.string Z,.bool false] (fun v w'=>v=.tuple #[.agg U,.agg #[.int .i64 0,.int .i64 0]]∧Below W0.heap.size W0 w') rfl (by go_simp) ((HXB.out _ k0).mono (fun e w' q=>⟨_,q.1,rfl,q.2⟩)) ?_
     rintro v y1_ ⟨rfl,hy1_⟩
     have k1:=k0.trans (hy1_.mono k0.size)
     refine⟨Or.inr k1,?_⟩
     simp only[Act.put,pA,pB,pC]
     have z1_:=hy1_.size
     refine tk9 6 (some 61) (.tuple #[.agg U,.agg #[.int .i64 0,.int .i64 0]]) ?_
     simp only[Act.put,pA,pB,pC]
     refine tk9 7 (some 68) (.agg U) ?_
     simp only[Act.put,pA,pB,pC]
     refine tk9 8 (some 69) (.agg #[.int .i64 0,.int .i64 0]) ?_
     simp only[Act.put,pA,pB,pC]
     refine wpAnyE_two 9 10 (by kernel_rfl) rfl rfl rfl rfl ?_ ?_
     ·refine oper_valw (w':=y1_.alloc (.cells #[.string ⟨#[]⟩,.int .i64 0,.string ⟨#[]⟩,.int .u8 0,.int .u8 0,.int .u8 0,.int .u8 0,.int .u8 0,.int .u8 0,.int .u8 0,.int .u8 0,.int .u8 0,.int .u8 0,.int .u8 0,.int .u8 0,.int .u8 0,.int .u8 0,.int .u8 0,.int .u8 0] 30)) (some 11) (.pointer (some ⟨y1_.heap.size,0,none⟩)) rfl (by go_simp) ?_
      have k2:=k1.alloc k1.size (.cells #[.string ⟨#[]⟩,.int .i64 0,.string ⟨#[]⟩,.int .u8 0,.int .u8 0,.int .u8 0,.int .u8 0,.int .u8 0,.int .u8 0,.int .u8 0,.int .u8 0,.int .u8 0,.int .u8 0,.int .u8 0,.int .u8 0,.int .u8 0,.int .u8 0,.int .u8 0,.int .u8 0] 30)
      refine⟨Or.inr k2,?_⟩
      simp only[Act.put,pA,pB,pC]
      have ln2:=Lies.new y1_ #[.string ⟨#[]⟩,.int .i64 0,.string ⟨#[]⟩,.int .u8 0,.int .u8 0,.int .u8 0,.int .u8 0,.int .u8 0,.int .u8 0,.int .u8 0,.int .u8 0,.int .u8 0,.int .u8 0,.int .u8 0,.int .u8 0,.int .u8 0,.int .u8 0,.int .u8 0,.int .u8 0] 30
      have q2:=k1.size
      have ls2:=ln2.lt
      generalize y1_.alloc (.cells #[.string ⟨#[]⟩,.int .i64 0,.string ⟨#[]⟩,.int .u8 0,.int .u8 0,.int .u8 0,.int .u8 0,.int .u8 0,.int .u8 0,.int .u8 0,.int .u8 0,.int .u8 0,.int .u8 0,.int .u8 0,.int .u8 0,.int .u8 0,.int .u8 0,.int .u8 0,.int .u8 0] 30)=v2_ at k2 ln2 ls2 ⊢
      refine on9 10 ?_
      refine oper_valw (w':=v2_.alloc (.cells #[.int .i64 0,.int .i64 0] 35)) (some 12) (.pointer (some ⟨v2_.heap.size,0,none⟩)) rfl (by go_simp) ?_
      have k3:=k2.alloc k2.size (.cells #[.int .i64 0,.int .i64 0] 35)
      refine⟨Or.inr k3,?_⟩
      simp only[Act.put,pA,pB,pC]
      have ln3:=Lies.new v2_ #[.int .i64 0,.int .i64 0] 35
      have q3:=k2.size
      have l4_3:=ln2.alloc (.cells #[.int .i64 0,.int .i64 0] 35)
      have t4_3:=ln2.lt
      have ls3:=ln3.lt
      generalize v2_.alloc (.cells #[.int .i64 0,.int .i64 0] 35)=v3_ at k3 ln3 l4_3 ls3 ⊢
      refine on9 11 ?_
      refine oper_store_row 30 _ _ rfl (y1_.heap.size) rfl #[.string ⟨#[]⟩,.int .i64 0,.string ⟨#[]⟩,.int .u8 0,.int .u8 0,.int .u8 0,.int .u8 0,.int .u8 0,.int .u8 0,.int .u8 0,.int .u8 0,.int .u8 0,.int .u8 0,.int .u8 0,.int .u8 0,.int .u8 0,.int .u8 0,.int .u8 0,.int .u8 0] U rfl 30 l4_3 (by rw[HUZ.out];exact infoBx) (by rw[HUZ.out];rfl) HUO.out rfl ?_
      have hb25:=below_row k3 (show c2.heap.size≤y1_.heap.size by omega) U
      refine⟨Or.inr hb25,?_⟩
      refine on9 12 ?_
      refine oper_store_row 35 _ _ rfl (v2_.heap.size) rfl #[.int .i64 0,.int .i64 0] #[.int .i64 0,.int .i64 0] rfl 35 ((ln3).row_other (show v2_.heap.size≠y1_.heap.size by omega) _) infoSp rfl (by simp[Value.oneCell']) rfl ?_
      have hb26:=below_row hb25 (show c2.heap.size≤v2_.heap.size by omega) #[.int .i64 0,.int .i64 0]
      refine⟨Or.inr hb26,?_⟩
      refine wpAnyE_done (by kernel_rfl) ?_ _
      go_wp2_with fail
      go_meet
      exact⟨y1_.heap.size,v2_.heap.size,rfl,rfl,((l4_3).row U).row_other (show y1_.heap.size≠v2_.heap.size by omega) _,((ln3).row_other (show v2_.heap.size≠y1_.heap.size by omega) _).row _,by omega,by omega,by omega,hb26⟩
     ·refine oper_valw (w':=y1_.alloc (.cells #[.int .i64 0,.int .i64 0] 35)) (some 12) (.pointer (some ⟨y1_.heap.size,0,none⟩)) rfl (by go_simp) ?_
      have k4:=k1.alloc k1.size (.cells #[.int .i64 0,.int .i64 0] 35)
      refine⟨Or.inr k4,?_⟩
      simp only[Act.put,pA,pB,pC]
      have ln4:=Lies.new y1_ #[.int .i64 0,.int .i64 0] 35
      have q4:=k1.size
      have ls4:=ln4.lt
      generalize y1_.alloc (.cells #[.int .i64 0,.int .i64 0] 35)=v4_ at k4 ln4 ls4 ⊢
      refine on9 9 ?_
      refine oper_valw (w':=v4_.alloc (.cells #[.string ⟨#[]⟩,.int .i64 0,.string ⟨#[]⟩,.int .u8 0,.int .u8 0,.int .u8 0,.int .u8 0,.int .u8 0,.int .u8 0,.int .u8 0,.int .u8 0,.int .u8 0,.int .u8 0,.int .u8 0,.int .u8 0,.int .u8 0,.int .u8 0,.int .u8 0,.int .u8 0] 30)) (some 11) (.pointer (some ⟨v4_.heap.size,0,none⟩)) rfl (by go_simp) ?_
      have k5:=k4.alloc k4.size (.cells #[.string ⟨#[]⟩,.int .i64 0,.string ⟨#[]⟩,.int .u8 0,.int .u8 0,.int .u8 0,.int .u8 0,.int .u8 0,.int .u8 0,.int .u8 0,.int .u8 0,.int .u8 0,.int .u8 0,.int .u8 0,.int .u8 0,.int .u8 0,.int .u8 0,.int .u8 0,.int .u8 0] 30)
      refine⟨Or.inr k5,?_⟩
      simp only[Act.put,pA,pB,pC]
      have ln5:=Lies.new v4_ #[.string ⟨#[]⟩,.int .i64 0,.string ⟨#[]⟩,.int .u8 0,.int .u8 0,.int .u8 0,.int .u8 0,.int .u8 0,.int .u8 0,.int .u8 0,.int .u8 0,.int .u8 0,.int .u8 0,.int .u8 0,.int .u8 0,.int .u8 0,.int .u8 0,.int .u8 0,.int .u8 0] 30
      have q5:=k4.size
      have l5_5:=ln4.alloc (.cells #[.string ⟨#[]⟩,.int .i64 0,.string ⟨#[]⟩,.int .u8 0,.int .u8 0,.int .u8 0,.int .u8 0,.int .u8 0,.int .u8 0,.int .u8 0,.int .u8 0,.int .u8 0,.int .u8 0,.int .u8 0,.int .u8 0,.int .u8 0,.int .u8 0,.int .u8 0,.int .u8 0] 30)
      have t5_5:=ln4.lt
      have ls5:=ln5.lt
      generalize v4_.alloc (.cells #[.string ⟨#[]⟩,.int .i64 0,.string ⟨#[]⟩,.int .u8 0,.int .u8 0,.int .u8 0,.int .u8 0,.int .u8 0,.int .u8 0,.int .u8 0,.int .u8 0,.int .u8 0,.int .u8 0,.int .u8 0,.int .u8 0,.int .u8 0,.int .u8 0,.int .u8 0,.int .u8 0] 30)=v5_ at k5 ln5 l5_5 ls5 ⊢
      refine on9 11 ?_
      refine oper_store_row 30 _ _ rfl (v4_.heap.size) rfl #[.string ⟨#[]⟩,.int .i64 0,.string ⟨#[]⟩,.int .u8 0,.int .u8 0,.int .u8 0,.int .u8 0,.int .u8 0,.int .u8 0,.int .u8 0,.int .u8 0,.int .u8 0,.int .u8 0,.int .u8 0,.int .u8 0,.int .u8 0,.int .u8 0,.int .u8 0,.int .u8 0] U rfl 30 ln5 (by rw[HUZ.out];exact infoBx) (by rw[HUZ.out];rfl) HUO.out rfl ?_
      have hb25:=below_row k5 (show c2.heap.size≤v4_.heap.size by omega) U
      refine⟨Or.inr hb25,?_⟩
      refine on9 12 ?_
      refine oper_store_row 35 _ _ rfl (y1_.heap.size) rfl #[.int .i64 0,.int .i64 0] #[.int .i64 0,.int .i64 0] rfl 35 ((l5_5).row_other (show y1_.heap.size≠v4_.heap.size by omega) _) infoSp rfl (by simp[Value.oneCell']) rfl ?_
      have hb26:=below_row hb25 (show c2.heap.size≤y1_.heap.size by omega) #[.int .i64 0,.int .i64 0]
      refine⟨Or.inr hb26,?_⟩
      refine wpAnyE_done (by kernel_rfl) ?_ _
      go_wp2_with fail
      go_meet
      exact⟨v4_.heap.size,y1_.heap.size,rfl,rfl,((ln5).row U).row_other (show v4_.heap.size≠y1_.heap.size by omega) _,((l5_5).row_other (show y1_.heap.size≠v4_.heap.size by omega) _).row _,by omega,by omega,by omega,hb26⟩
    ·refine oper_valw (w':=W0.alloc (.cells #[.string ⟨#[]⟩,.int .i64 0,.string ⟨#[]⟩,.int .u8 0,.int .u8 0,.int .u8 0,.int .u8 0,.int .u8 0,.int .u8 0,.int .u8 0,.int .u8 0,.int .u8 0,.int .u8 0,.int .u8 0,.int .u8 0,.int .u8 0,.int .u8 0,.int .u8 0,.int .u8 0] 30)) (some 11) (.pointer (some ⟨W0.heap.size,0,none⟩)) rfl (by go_simp) ?_
     have k6:=k0.alloc k0.size (.cells #[.string ⟨#[]⟩,.int .i64 0,.string ⟨#[]⟩,.int .u8 0,.int .u8 0,.int .u8 0,.int .u8 0,.int .u8 0,.int .u8 0,.int .u8 0,.int .u8 0,.int .u8 0,.int .u8 0,.int .u8 0,.int .u8 0,.int .u8 0,.int .u8 0,.int .u8 0,.int .u8 0] 30)
     refine⟨Or.inr k6,?_⟩
     simp only[Act.put,pA,pB,pC]
     have ln6:=Lies.new W0 #[.string ⟨#[]⟩,.int .i64 0,.string ⟨#[]⟩,.int .u8 0,.int .u8 0,.int .u8 0,.int .u8 0,.int .u8 0,.int .u8 0,.int .u8 0,.int .u8 0,.int .u8 0,.int .u8 0,.int .u8 0,.int .u8 0,.int .u8 0,.int .u8 0,.int .u8 0,.int .u8 0] 30
     have q6:=k0.size
     have ls6:=ln6.lt
     generalize W0.alloc (.cells #[.string ⟨#[]⟩,.int .i64 0,.string ⟨#[]⟩,.int .u8 0,.int .u8 0,.int .u8 0,.int .u8 0,.int .u8 0,.int .u8 0,.int .u8 0,.int .u8 0,.int .u8 0,.int .u8 0,.int .u8 0,.int .u8 0,.int .u8 0,.int .u8 0,.int .u8 0,.int .u8 0] 30)=v6_ at k6 ln6 ls6 ⊢
     refine wpAnyE_two 5 10 (by kernel_rfl) rfl rfl rfl rfl ?_ ?_
     ·refine oper_call (some 67) 15 #[.string Z,.bool false] (fun v w'=>v=.tuple #[.agg U,.agg #[.int .i64 0,.int .i64 0]]∧Below v6_.heap.size v6_ w') rfl (by go_simp) ((HXB.out _ k6).mono (fun e w' q=>⟨_,q.1,rfl,q.2⟩)) ?_
      rintro v y7_ ⟨rfl,hy7_⟩
      have k7:=k6.trans (hy7_.mono k6.size)
      refine⟨Or.inr k7,?_⟩
      simp only[Act.put,pA,pB,pC]
      have z7_:=hy7_.size
      have l4_7:=ln6.below hy7_ ln6.lt
      refine tk9 6 (some 61) (.tuple #[.agg U,.agg #[.int .i64 0,.int .i64 0]]) ?_
      simp only[Act.put,pA,pB,pC]
      refine tk9 7 (some 68) (.agg U) ?_
      simp only[Act.put,pA,pB,pC]
      refine tk9 8 (some 69) (.agg #[.int .i64 0,.int .i64 0]) ?_
      simp only[Act.put,pA,pB,pC]
      refine on9 10 ?_
      refine oper_valw (w':=y7_.alloc (.cells #[.int .i64 0,.int .i64 0] 35)) (some 12) (.pointer (some ⟨y7_.heap.size,0,none⟩)) rfl (by go_simp) ?_
      have k8:=k7.alloc k7.size (.cells #[.int .i64 0,.int .i64 0] 35)
      refine⟨Or.inr k8,?_⟩
      simp only[Act.put,pA,pB,pC]
      have ln8:=Lies.new y7_ #[.int .i64 0,.int .i64 0] 35
      have q8:=k7.size
      have l4_8:=l4_7.alloc (.cells #[.int .i64 0,.int .i64 0] 35)
      have t4_8:=l4_7.lt
      have ls8:=ln8.lt
      generalize y7_.alloc (.cells #[.int .i64 0,.int .i64 0] 35)=v8_ at k8 ln8 l4_8 ls8 ⊢
      refine on9 11 ?_
      refine oper_store_row 30 _ _ rfl (W0.heap.size) rfl #[.string ⟨#[]⟩,.int .i64 0,.string ⟨#[]⟩,.int .u8 0,.int .u8 0,.int .u8 0,.int .u8 0,.int .u8 0,.int .u8 0,.int .u8 0,.int .u8 0,.int .u8 0,.int .u8 0,.int .u8 0,.int .u8 0,.int .u8 0,.int .u8 0,.int .u8 0,.int .u8 0] U rfl 30 l4_8 (by rw[HUZ.out];exact infoBx) (by rw[HUZ.out];rfl) HUO.out rfl ?_
      have hb25:=below_row k8 (show c2.heap.size≤W0.heap.size by omega) U
      refine⟨Or.inr hb25,?_⟩
      refine on9 12 ?_
      refine oper_store_row 35 _ _ rfl (y7_.heap.size) rfl #[.int .i64 0,.int .i64 0] #[.int .i64 0,.int .i64 0] rfl 35 ((ln8).row_other (show y7_.heap.size≠W0.heap.size by omega) _) infoSp rfl (by simp[Value.oneCell']) rfl ?_
      have hb26:=below_row hb25 (show c2.heap.size≤y7_.heap.size by omega) #[.int .i64 0,.int .i64 0]
      refine⟨Or.inr hb26,?_⟩
      refine wpAnyE_done (by kernel_rfl) ?_ _
      go_wp2_with fail
      go_meet
      exact⟨W0.heap.size,y7_.heap.size,rfl,rfl,((l4_8).row U).row_other (show W0.heap.size≠y7_.heap.size by omega) _,((ln8).row_other (show y7_.heap.size≠W0.heap.size by omega) _).row _,by omega,by omega,by omega,hb26⟩
     ·refine oper_valw (w':=v6_.alloc (.cells #[.int .i64 0,.int .i64 0] 35)) (some 12) (.pointer (some ⟨v6_.heap.size,0,none⟩)) rfl (by go_simp) ?_
      have k9:=k6.alloc k6.size (.cells #[.int .i64 0,.int .i64 0] 35)
      refine⟨Or.inr k9,?_⟩
      simp only[Act.put,pA,pB,pC]
      have ln9:=Lies.new v6_ #[.int .i64 0,.int .i64 0] 35
      have q9:=k6.size
      have l4_9:=ln6.alloc (.cells #[.int .i64 0,.int .i64 0] 35)
      have t4_9:=ln6.lt
      have ls9:=ln9.lt
      generalize v6_.alloc (.cells #[.int .i64 0,.int .i64 0] 35)=v9_ at k9 ln9 l4_9 ls9 ⊢
      refine on9 5 ?_
      refine oper_call (some 67) 15 #[.string Z,.bool false] (fun v w'=>v=.tuple #[.agg U,.agg #[.int .i64 0,.int .i64 0]]∧Below v9_.heap.size v9_ w') rfl (by go_simp) ((HXB.out _ k9).mono (fun e w' q=>⟨_,q.1,rfl,q.2⟩)) ?_
      rintro v y10_ ⟨rfl,hy10_⟩
      have k10:=k9.trans (hy10_.mono k9.size)
      refine⟨Or.inr k10,?_⟩
      simp only[Act.put,pA,pB,pC]
      have z10_:=hy10_.size
      have l4_10:=l4_9.below hy10_ l4_9.lt
      have l5_10:=ln9.below hy10_ ln9.lt
      refine tk9 6 (some 61) (.tuple #[.agg U,.agg #[.int .i64 0,.int .i64 0]]) ?_
      simp only[Act.put,pA,pB,pC]
      refine tk9 7 (some 68) (.agg U) ?_
      simp only[Act.put,pA,pB,pC]
      refine tk9 8 (some 69) (.agg #[.int .i64 0,.int .i64 0]) ?_
      simp only[Act.put,pA,pB,pC]
      refine on9 11 ?_
      refine oper_store_row 30 _ _ rfl (W0.heap.size) rfl #[.string ⟨#[]⟩,.int .i64 0,.string ⟨#[]⟩,.int .u8 0,.int .u8 0,.int .u8 0,.int .u8 0,.int .u8 0,.int .u8 0,.int .u8 0,.int .u8 0,.int .u8 0,.int .u8 0,.int .u8 0,.int .u8 0,.int .u8 0,.int .u8 0,.int .u8 0,.int .u8 0] U rfl 30 l4_10 (by rw[HUZ.out];exact infoBx) (by rw[HUZ.out];rfl) HUO.out rfl ?_
      have hb25:=below_row k10 (show c2.heap.size≤W0.heap.size by omega) U
      refine⟨Or.inr hb25,?_⟩
      refine on9 12 ?_
      refine oper_store_row 35 _ _ rfl (v6_.heap.size) rfl #[.int .i64 0,.int .i64 0] #[.int .i64 0,.int .i64 0] rfl 35 ((l5_10).row_other (show v6_.heap.size≠W0.heap.size by omega) _) infoSp rfl (by simp[Value.oneCell']) rfl ?_
      have hb26:=below_row hb25 (show c2.heap.size≤v6_.heap.size by omega) #[.int .i64 0,.int .i64 0]
      refine⟨Or.inr hb26,?_⟩
      refine wpAnyE_done (by kernel_rfl) ?_ _
      go_wp2_with fail
      go_meet
      exact⟨W0.heap.size,v6_.heap.size,rfl,rfl,((l4_10).row U).row_other (show W0.heap.size≠v6_.heap.size by omega) _,((l5_10).row_other (show v6_.heap.size≠W0.heap.size by omega) _).row _,by omega,by omega,by omega,hb26⟩
    ·refine oper_valw (w':=W0.alloc (.cells #[.int .i64 0,.int .i64 0] 35)) (some 12) (.pointer (some ⟨W0.heap.size,0,none⟩)) rfl (by go_simp) ?_
     have k11:=k0.alloc k0.size (.cells #[.int .i64 0,.int .i64 0] 35)
     refine⟨Or.inr k11,?_⟩
     simp only[Act.put,pA,pB,pC]
     have ln11:=Lies.new W0 #[.int .i64 0,.int .i64 0] 35
     have q11:=k0.size
     have ls11:=ln11.lt
     generalize W0.alloc (.cells #[.int .i64 0,.int .i64 0] 35)=v11_ at k11 ln11 ls11 ⊢
     refine wpAnyE_two 5 9 (by kernel_rfl) rfl rfl rfl rfl ?_ ?_
     ·refine oper_call (some 67) 15 #[.string Z,.bool false] (fun v w'=>v=.tuple #[.agg U,.agg #[.int .i64 0,.int .i64 0]]∧Below v11_.heap.size v11_ w') rfl (by go_simp) ((HXB.out _ k11).mono (fun e w' q=>⟨_,q.1,rfl,q.2⟩)) ?_
      rintro v y12_ ⟨rfl,hy12_⟩
      have k12:=k11.trans (hy12_.mono k11.size)
      refine⟨Or.inr k12,?_⟩
      simp only[Act.put,pA,pB,pC]
      have z12_:=hy12_.size
      have l5_12:=ln11.below hy12_ ln11.lt
      refine tk9 6 (some 61) (.tuple #[.agg U,.agg #[.int .i64 0,.int .i64 0]]) ?_
      simp only[Act.put,pA,pB,pC]
      refine tk9 7 (some 68) (.agg U) ?_
      simp only[Act.put,pA,pB,pC]
      refine tk9 8 (some 69) (.agg #[.int .i64 0,.int .i64 0]) ?_
      simp only[Act.put,pA,pB,pC]
      refine on9 9 ?_
      refine oper_valw (w':=y12_.alloc (.cells #[.string ⟨#[]⟩,.int .i64 0,.string ⟨#[]⟩,.int .u8 0,.int .u8 0,.int .u8 0,.int .u8 0,.int .u8 0,.int .u8 0,.int .u8 0,.int .u8 0,.int .u8 0,.int .u8 0,.int .u8 0,.int .u8 0,.int .u8 0,.int .u8 0,.int .u8 0,.int .u8 0] 30)) (some 11) (.pointer (some ⟨y12_.heap.size,0,none⟩)) rfl (by go_simp) ?_
      have k13:=k12.alloc k12.size (.cells #[.string ⟨#[]⟩,.int .i64 0,.string ⟨#[]⟩,.int .u8 0,.int .u8 0,.int .u8 0,.int .u8 0,.int .u8 0,.int .u8 0,.int .u8 0,.int .u8 0,.int .u8 0,.int .u8 0,.int .u8 0,.int .u8 0,.int .u8 0,.int .u8 0,.int .u8 0,.int .u8 0] 30)
      refine⟨Or.inr k13,?_⟩
      simp only[Act.put,pA,pB,pC]
      have ln13:=Lies.new y12_ #[.string ⟨#[]⟩,.int .i64 0,.string ⟨#[]⟩,.int .u8 0,.int .u8 0,.int .u8 0,.int .u8 0,.int .u8 0,.int .u8 0,.int .u8 0,.int .u8 0,.int .u8 0,.int .u8 0,.int .u8 0,.int .u8 0,.int .u8 0,.int .u8 0,.int .u8 0,.int .u8 0] 30
      have q13:=k12.size
      have l5_13:=l5_12.alloc (.cells #[.string ⟨#[]⟩,.int .i64 0,.string ⟨#[]⟩,.int .u8 0,.int .u8 0,.int .u8 0,.int .u8 0,.int .u8 0,.int .u8 0,.int .u8 0,.int .u8 0,.int .u8 0,.int .u8 0,.int .u8 0,.int .u8 0,.int .u8 0,.int .u8 0,.int .u8 0,.int .u8 0] 30)
      have t5_13:=l5_12.lt
      have ls13:=ln13.lt
      generalize y12_.alloc (.cells #[.string ⟨#[]⟩,.int .i64 0,.string ⟨#[]⟩,.int .u8 0,.int .u8 0,.int .u8 0,.int .u8 0,.int .u8 0,.int .u8 0,.int .u8 0,.int .u8 0,.int .u8 0,.int .u8 0,.int .u8 0,.int .u8 0,.int .u8 0,.int .u8 0,.int .u8 0,.int .u8 0] 30)=v13_ at k13 ln13 l5_13 ls13 ⊢
      refine on9 11 ?_
      refine oper_store_row 30 _ _ rfl (y12_.heap.size) rfl #[.string ⟨#[]⟩,.int .i64 0,.string ⟨#[]⟩,.int .u8 0,.int .u8 0,.int .u8 0,.int .u8 0,.int .u8 0,.int .u8 0,.int .u8 0,.int .u8 0,.int .u8 0,.int .u8 0,.int .u8 0,.int .u8 0,.int .u8 0,.int .u8 0,.int .u8 0,.int .u8 0] U rfl 30 ln13 (by rw[HUZ.out];exact infoBx) (by rw[HUZ.out];rfl) HUO.out rfl ?_
      have hb25:=below_row k13 (show c2.heap.size≤y12_.heap.size by omega) U
      refine⟨Or.inr hb25,?_⟩
      refine on9 12 ?_
      refine oper_store_row 35 _ _ rfl (W0.heap.size) rfl #[.int .i64 0,.int .i64 0] #[.int .i64 0,.int .i64 0] rfl 35 ((l5_13).row_other (show W0.heap.size≠y12_.heap.size by omega) _) infoSp rfl (by simp[Value.oneCell']) rfl ?_
      have hb26:=below_row hb25 (show c2.heap.size≤W0.heap.size by omega) #[.int .i64 0,.int .i64 0]
      refine⟨Or.inr hb26,?_⟩
      refine wpAnyE_done (by kernel_rfl) ?_ _
      go_wp2_with fail
      go_meet
      exact⟨y12_.heap.size,W0.heap.size,rfl,rfl,((ln13).row U).row_other (show y12_.heap.size≠W0.heap.size by omega) _,((l5_13).row_other (show W0.heap.size≠y12_.heap.size by omega) _).row _,by omega,by omega,by omega,hb26⟩
     ·refine oper_valw (w':=v11_.alloc (.cells #[.string ⟨#[]⟩,.int .i64 0,.string ⟨#[]⟩,.int .u8 0,.int .u8 0,.int .u8 0,.int .u8 0,.int .u8 0,.int .u8 0,.int .u8 0,.int .u8 0,.int .u8 0,.int .u8 0,.int .u8 0,.int .u8 0,.int .u8 0,.int .u8 0,.int .u8 0,.int .u8 0] 30)) (some 11) (.pointer (some ⟨v11_.heap.size,0,none⟩)) rfl (by go_simp) ?_
      have k14:=k11.alloc k11.size (.cells #[.string ⟨#[]⟩,.int .i64 0,.string ⟨#[]⟩,.int .u8 0,.int .u8 0,.int .u8 0,.int .u8 0,.int .u8 0,.int .u8 0,.int .u8 0,.int .u8 0,.int .u8 0,.int .u8 0,.int .u8 0,.int .u8 0,.int .u8 0,.int .u8 0,.int .u8 0,.int .u8 0] 30)
      refine⟨Or.inr k14,?_⟩
      simp only[Act.put,pA,pB,pC]
      have ln14:=Lies.new v11_ #[.string ⟨#[]⟩,.int .i64 0,.string ⟨#[]⟩,.int .u8 0,.int .u8 0,.int .u8 0,.int .u8 0,.int .u8 0,.int .u8 0,.int .u8 0,.int .u8 0,.int .u8 0,.int .u8 0,.int .u8 0,.int .u8 0,.int .u8 0,.int .u8 0,.int .u8 0,.int .u8 0] 30
      have q14:=k11.size
      have l5_14:=ln11.alloc (.cells #[.string ⟨#[]⟩,.int .i64 0,.string ⟨#[]⟩,.int .u8 0,.int .u8 0,.int .u8 0,.int .u8 0,.int .u8 0,.int .u8 0,.int .u8 0,.int .u8 0,.int .u8 0,.int .u8 0,.int .u8 0,.int .u8 0,.int .u8 0,.int .u8 0,.int .u8 0,.int .u8 0] 30)
      have t5_14:=ln11.lt
      have ls14:=ln14.lt
      generalize v11_.alloc (.cells #[.string ⟨#[]⟩,.int .i64 0,.string ⟨#[]⟩,.int .u8 0,.int .u8 0,.int .u8 0,.int .u8 0,.int .u8 0,.int .u8 0,.int .u8 0,.int .u8 0,.int .u8 0,.int .u8 0,.int .u8 0,.int .u8 0,.int .u8 0,.int .u8 0,.int .u8 0,.int .u8 0] 30)=v14_ at k14 ln14 l5_14 ls14 ⊢
      refine on9 5 ?_
      refine oper_call (some 67) 15 #[.string Z,.bool false] (fun v w'=>v=.tuple #[.agg U,.agg #[.int .i64 0,.int .i64 0]]∧Below v14_.heap.size v14_ w') rfl (by go_simp) ((HXB.out _ k14).mono (fun e w' q=>⟨_,q.1,rfl,q.2⟩)) ?_
      rintro v y15_ ⟨rfl,hy15_⟩
      have k15:=k14.trans (hy15_.mono k14.size)
      refine⟨Or.inr k15,?_⟩
      simp only[Act.put,pA,pB,pC]
      have z15_:=hy15_.size
      have l4_15:=ln14.below hy15_ ln14.lt
      have l5_15:=l5_14.below hy15_ l5_14.lt
      refine tk9 6 (some 61) (.tuple #[.agg U,.agg #[.int .i64 0,.int .i64 0]]) ?_
      simp only[Act.put,pA,pB,pC]
      refine tk9 7 (some 68) (.agg U) ?_
      simp only[Act.put,pA,pB,pC]
      refine tk9 8 (some 69) (.agg #[.int .i64 0,.int .i64 0]) ?_
      simp only[Act.put,pA,pB,pC]
      refine on9 11 ?_
      refine oper_store_row 30 _ _ rfl (v11_.heap.size) rfl #[.string ⟨#[]⟩,.int .i64 0,.string ⟨#[]⟩,.int .u8 0,.int .u8 0,.int .u8 0,.int .u8 0,.int .u8 0,.int .u8 0,.int .u8 0,.int .u8 0,.int .u8 0,.int .u8 0,.int .u8 0,.int .u8 0,.int .u8 0,.int .u8 0,.int .u8 0,.int .u8 0] U rfl 30 l4_15 (by rw[HUZ.out];exact infoBx) (by rw[HUZ.out];rfl) HUO.out rfl ?_
      have hb25:=below_row k15 (show c2.heap.size≤v11_.heap.size by omega) U
      refine⟨Or.inr hb25,?_⟩
      refine on9 12 ?_
      refine oper_store_row 35 _ _ rfl (W0.heap.size) rfl #[.int .i64 0,.int .i64 0] #[.int .i64 0,.int .i64 0] rfl 35 ((l5_15).row_other (show W0.heap.size≠v11_.heap.size by omega) _) infoSp rfl (by simp[Value.oneCell']) rfl ?_
      have hb26:=below_row hb25 (show c2.heap.size≤W0.heap.size by omega) #[.int .i64 0,.int .i64 0]
      refine⟨Or.inr hb26,?_⟩
      refine wpAnyE_done (by kernel_rfl) ?_ _
      go_wp2_with fail
      go_meet
      exact⟨v11_.heap.size,W0.heap.size,rfl,rfl,((l4_15).row U).row_other (show v11_.heap.size≠W0.heap.size by omega) _,((l5_15).row_other (show W0.heap.size≠v11_.heap.size by omega) _).row _,by omega,by omega,by omega,hb26⟩
   case rest=>
    obtain⟨p4,p5,rfl,rfl,M4,N5,_,_,_,HBc⟩:=hcut
    have KB7:Hid (Below w.heap.size w wc):=KB6.out.trans ((HBc.out).mono KB6.out.size)
    have M0n:Hid (Lies wc (g0) V0 32):=M0.out.below (HBc.out) M0.out.lt
    clear M0
    have M0:=M0n
    clear M0n
    clear KB6
    clear HBc HCV HXB ad1
    go_upto_region 18 with fail
    refine wp_region_lit ?_
    refine wpList_load_row9 (by rfl) 30 _ rfl (p4) rfl U 30 _ M4.out Tryz.underlying30 rfl (by rw[HUZ.out];exact infoBx) ?_
    simp only[Act.put,pA,pB,pC]
    refine wpList_onG (by rfl) ?_
    go_simp
    refine Calls.mono (HB1.out _ KB7.out) ?_
    rintro e c3 ⟨rfl,hc⟩
    have KB8:Hid (Below w.heap.size w c3):=KB7.out.trans ((hc).mono KB7.out.size)
    have M4n:Hid (Lies c3 (p4) U 30):=M4.out.below (hc) M4.out.lt
    clear M4
    have M4:=M4n
    clear M4n
    have N5n:Hid (Lies c3 (p5) #[.int .i64 0,.int .i64 0] 35):=N5.out.below (hc) N5.out.lt
    clear N5
    have N5:=N5n
    clear N5n
    have M0n:Hid (Lies c3 (g0) V0 32):=M0.out.below (hc) M0.out.lt
    clear M0
    have M0:=M0n
    clear M0n
    clear KB7
    clear hc
    clear HB1
    go_upto_region 19 with fail
    have RGc:Hid (c3.rangeAt g0 2 U.toList):=fun j v hv=>(M0.out.cell (2+j)).trans (x0.out j v hv)
    refine wp_region_lit ?_
    refine wpList_load_row9 (by rfl) 30 _ rfl (p4) rfl U 30 _ M4.out Tryz.underlying30 rfl (by rw[HUZ.out];exact infoBx) ?_
    simp only[Act.put,pA,pB,pC]
    refine wpList_yieldG (.pointer (some ⟨g0,2,none⟩)) (by rfl) ?hy ?_
    case hy=>(go_simp<;>(first|with_reducible rfl|omega|skip))
    simp only[Act.put,pA,pB,pC]
    refine wpList_load_mid9 (by rfl) 30 _ rfl g0 2 rfl U.toList _ RGc.out Tryz.underlying30 rfl (by rw[Array.length_toList,HUZ.out];exact infoBx) ?_
    rw[show U.toList.toArray=U from by simp]
    simp only[Act.put,pA,pB,pC]
    refine wpList_yieldG (.bool true) (by rfl) ?hy ?_
    case hy=>exact(exec_eql_box _ _ _ rfl p.l p.l p.h p.h (by show Value.agg U=_;rw[HUU.out]) (by show Value.agg U=_;rw[HUU.out]) HAL.out HAL.out).trans (by rw[decide_eq_true rfl,decide_eq_true rfl];rfl)
    simp only[Act.put,pA,pB,pC]
    refine wpList_yieldG (.bool true) (by rfl) ?hy ?_
    case hy=>(go_simp<;>(first|with_reducible rfl|omega|skip))
    simp only[Act.put,pA,pB,pC]
    refine wpList_load_row9 (by rfl) 35 _ rfl (p5) rfl #[.int .i64 0,.int .i64 0] 35 _ N5.out Tryz.underlying35 rfl infoSp ?_
    simp only[Act.put,pA,pB,pC]
    refine wpList_yieldG (.agg #[.int .i64 0,.int .i64 0]) (by rfl) ?hy ?_
    case hy=>(go_simp<;>(first|with_reducible rfl|omega|skip))
    simp only[Act.put,pA,pB,pC]
    refine wpList_yieldG (.bool true) (by rfl) ?hy ?_
    case hy=>(go_simp<;>(first|with_reducible rfl|omega|skip))
    simp only[Act.put,pA,pB,pC]
    refine wpList_yieldG (.bool true) (by rfl) ?hy ?_
    case hy=>(go_simp<;>(first|with_reducible rfl|omega|skip))
    simp only[Act.put,pA,pB,pC]
    refine wpList_yieldG (.bool true) (by rfl) ?hy ?_
    case hy=>(go_simp<;>(first|with_reducible rfl|omega|skip))
    simp only[Act.put,pA,pB,pC]
    refine wpList_yieldG (.int .i64 0) (by rfl) ?hy ?_
    case hy=>(go_simp<;>(first|with_reducible rfl|omega|skip))
    simp only[Act.put,pA,pB,pC]
    refine wpList_yieldG (.bool true) (by rfl) ?hy ?_
    case hy=>(go_simp<;>(first|with_reducible rfl|omega|skip))
    simp only[Act.put,pA,pB,pC]
    refine wpList_yieldG (.bool true) (by rfl) ?hy ?_
    case hy=>(go_simp<;>(first|with_reducible rfl|omega|skip))
    simp only[Act.put,pA,pB,pC]
    refine wpList_yieldG (.bool true) (by rfl) ?hy ?_
    case hy=>(go_simp<;>(first|with_reducible rfl|omega|skip))
    simp only[Act.put,pA,pB,pC]
    refine wpList_yieldG (.string T1) (by rfl) ?hy ?_
    case hy=>(go_simp<;>(first|with_reducible rfl|omega|skip))
    simp only[Act.put,pA,pB,pC]
    refine wpList_yieldG (.string T1) (by rfl) ?hy ?_
    case hy=>(go_simp<;>(first|with_reducible rfl|omega|skip))
    simp only[Act.put,pA,pB,pC]
    refine wpList_yieldG (.bool true) (by rfl) ?hy ?_
    case hy=>(go_simp<;>(first|with_reducible rfl|omega|skip))
    simp only[Act.put,pA,pB,pC]
    refine wpList_yieldG (.bool true) (by rfl) ?hy ?_
    case hy=>(go_simp<;>(first|with_reducible rfl|omega|skip))
    simp only[Act.put,pA,pB,pC]
    refine wpList_yieldG (.bool true) (by rfl) ?hy ?_
    case hy=>(go_simp<;>(first|with_reducible rfl|omega|skip))
    simp only[Act.put,pA,pB,pC]
    refine wpList_nil ?_
    go_wp2
    go_ret
    exact⟨rfl,KB8.out⟩
theorem walk (L S:ByteArray) (a:List Nat) (k:Int) (sp:Option Addr) (rt:List ByteArray) (cap:Nat) {w:World} (b:(a.length=16∧∀n∈a,n<256)∧Sts w sp rt∧rt.length≤maxLen) (s:L.data.toList.length≤140737488351232∧S.data.toList.length≤140737488351232∧∀t∈rt,t.size≤140737488351232) (ht:Td w∧10≤w.heap.size):
  Calls Tryz.prog 5 #[.agg (rawC L.data.toList S.data.toList a k (.slice sp rt.length cap))] w fun e w'=>e=.returned (.bool true)∧Below w.heap.size w w':=by
 obtain⟨⟨ha,hb⟩,hst,hrl⟩:=b
 obtain⟨s1,s2,s3⟩:=s
 have HT:∀wx,Below w.heap.size w wx→Td wx∧10≤wx.heap.size:=fun wx hb=>⟨ht.1.below hb,Nat.le_trans ht.2 hb.size⟩
 have hz:(rawC L.data.toList S.data.toList a k (.slice sp rt.length cap)).size=20:=by
  unfold rawC
  have hz:(bytesV a).size=16:=by rw[bytesV_size,ha]
  simp only[Array.size_append,hz]
  rfl
 obtain⟨sl,ss⟩:=shwn_is L.data.toList 31
 obtain⟨p,hpp⟩:∃p,p=madeP (Int.tmod k 4) a S.data.toList L.data.toList (rt.map (·.data.toList)):=⟨_,rfl⟩
 have mk:=fun x=>made_ok (Int.tmod k 4) a ha hb S.data.toList L.data.toList (rt.map (·.data.toList)) x
 rw[←hpp]at mk
 have hk3:p.k=3:=by rw[hpp];rfl
 have hpl:p.l=shwn L.data.toList 31:=by rw[hpp];rfl
 rw[←hpl]at sl ss
 obtain⟨ok,hc,h256⟩:=mk false
 have hc1:=(mk true).2.1
 have hin:=ckP_in ok hc
 obtain⟨h16,hrr,hl,hh⟩:=(ckB_box hk3).1 (ckP_is hc).1
 obtain⟨_,_,hl1,hh1⟩:=(ckB_box hk3).1 (ckP_is hc1).1
 have hb1:∀l,ckL l true=0→printB l p.h=(wrB l p.h,0):=fun l hl=>by
  unfold printB
  rw[if_pos ((ckB_box (p:=⟨3,[],l,p.h⟩) rfl).2 ⟨Nat.zero_le _,fun x hx=>(by cases hx),hl,hh1⟩)]
 have ha1:ckL [97] true=0:=by decide
 have hi1:=hin.nm
 have hi2:=hin.loc
 have hwl:=(ok_n _ _ ok.2 hh1).2.1
 have hwa:wrB [97] p.h=97::64::wrH p.h:=by
  unfold wrB
  rw[show wrL [97]=[97] from by decide]
  rfl
 have e3:(txt (97::64::wrH p.h)).extract 1 (txt (97::64::wrH p.h)).size=txt (64::wrH p.h):=by
  rw[txt_size,show(97::64::wrH p.h).length=1+(64::wrH p.h).length from by simp only[List.length_cons];omega,ext_txt,txt_list,List.drop_succ_cons,List.drop_zero,List.take_length]
 refine walkW _ hz p hin sl (txt (wrB p.l p.h)) (txt (97::64::wrH p.h)) (txt (64::wrH p.h)) _ (by rw[txt_size,List.length_cons,List.length_cons];omega) (by rw[txt_size,List.length_cons,List.length_cons];omega) e3 rfl w (fun wx hx=>head_any wx (HT wx hx).1 (HT wx hx).2) (fun wx hx=>?_) (fun wx hx=>?_) (fun wx hx=>?_) (fun wx hx=>?_)
 ·rw[hpp]
  exact made_any _ _ a k sp rt cap ha (by omega) (by omega) wx (hst.below hx) hrl (fun t htt=>Nat.le_trans (s3 t htt) (by omega))
 ·have:=ppbox_any p.l p.h wx ok.2 (by omega) (by omega) (HT wx hx).1 (rep_in hin (HT wx hx).1)
  rw[hb1 _ hl1]at this
  exact this
 ·have:=ppbox_any [97] p.h wx ok.2 (by omega) (by simp) (HT wx hx).1 (RepOk.small _ (by rw[txt_size];simp) wx (HT wx hx).1.ml)
  rw[hb1 _ ha1,hwa]at this
  exact this
 ·have hdl:=drsL_len p.l
  have:=pbx_any (txt (34::(drsL p.l++[34]))++txt (64::wrH p.h)) (by rw[ByteArray.size_append,txt_size,txt_size];simp only[List.length_cons,List.length_append,List.length_nil];omega) false wx (HT wx hx).1 (HT wx hx).2
  rw[ByteArray.data_append,Array.toList_append,txt_list,txt_list,box_drs sl ss ok.2 hh]at this
  exact this
set_option maxRecDepth 100000 in
theorem contract (H:Type) (enc:TypeId×Value→H) (W:World) (base:Nat) (args:Array Value) (ds gs:List (DataW H)) (before:List MemPlace)
  (hval:∀(j:Nat) t v,Tryz.f5.params[j]?=some t→args[j]?=some v→Value.okWide Tryz.prog W .any base t v)
  (hW:DataW.Whole enc Tryz.prog Tryz.f5.params.toList Rows.pathDressedSpec.vars false W args.toList ds gs before)
  (hsz:(DataW.weightsEach Tryz.prog (Tryz.f5.params.toList++(OpenSpec.ofChange Rows.pathDressedSpec).bare.plain.varTypes Tryz.prog) (ds++gs)).all (· ≤reachBytes)=true)
  (hL:laidMetH Tryz.prog Rows.pathDressedRow.laid W) (hsh:W.ShapedOpen Tryz.prog):
  Calls Tryz.prog 5 args W fun e W'=>∃v,e=.returned v∧Rows.pathDressedSpec.post enc Tryz.prog Tryz.f5 false true false false W args v W':=by
 have hW':=hW
 obtain⟨p,q,hA0,hV,rfl,hfz,hnd⟩:=hW
 have hA:DataW.TrodAll enc Tryz.prog W 0 (fun _=>true) true Tryz.f5.params.toList args.toList ds p:=hA0
 rw[Tryz.params5]at hA hval hsz
 obtain⟨v0,vs0,d0,ds0,p0,q0,hargs,rfl,rfl,h0,r0⟩:=trodAll_cons hA
 obtain⟨rfl,rfl,rfl⟩:=trodAll_nil r0
 obtain rfl:args=#[v0]:=by cases args;simp_all
 obtain⟨rfl,rfl⟩:=trodVars_none hV
 have k0:=h0
 have lt0:∀x∈p0,x.block<W.heap.size:=by obtain⟨m,hm⟩:=k0;exact DataW.trod_lt m _ _ _ hm
 obtain⟨L0,S0,a0,n0,sp0,rt0,cap0,rfl,b0,e0⟩:=open_raw (hval 0 45 v0 rfl rfl) h0
 clear hA0
 have s0:=raw_size (j:=0) hsz rfl rfl e0
 refine(walk L0 S0 a0 n0 sp0 rt0 cap0 b0 s0 (tabs9_of hL hsh)).mono fun e W' ⟨he,bel⟩=>?_
 subst he
 exact⟨_,rfl,_,_,_,[],_,[],hW',trodAll_mk1 (shut_bool Tryz.underlying4 _),trodAll_cons_mk (Below.trod laidOut (by kernel_rfl) (of_decide_eq_true (by kernel_rfl)) k0 bel lt0) trodAll_mk0,rfl,bel.frame _,fun h=>by cases h⟩
set_option maxRecDepth 100000 in
theorem laid_met (os:Os):laidMet Tryz.prog Rows.pathDressedRow.laid ((laidWorld9 os).forCall (fun _ _=>0) ⟨#[],#[.agg #[.string ByteArray.empty,.string ByteArray.empty,.int .u8 0,.int .u8 0,.int .u8 0,.int .u8 0,.int .u8 0,.int .u8 0,.int .u8 0,.int .u8 0,.int .u8 0,.int .u8 0,.int .u8 0,.int .u8 0,.int .u8 0,.int .u8 0,.int .u8 0,.int .u8 0,.int .i64 0,.slice none 0 0]],[]⟩).memory:=
 laidMet_of_run' 8 (by kernel_rfl) (by kernel_rfl)
set_option maxRecDepth 100000 in
theorem reads (os:Os) {H:Type} (enc:TypeId×Value→H):∃places,DataW.whole enc Tryz.prog ((laidWorld9 os).forCall (fun _ _=>0) ⟨#[],#[.agg #[.string ByteArray.empty,.string ByteArray.empty,.int .u8 0,.int .u8 0,.int .u8 0,.int .u8 0,.int .u8 0,.int .u8 0,.int .u8 0,.int .u8 0,.int .u8 0,.int .u8 0,.int .u8 0,.int .u8 0,.int .u8 0,.int .u8 0,.int .u8 0,.int .u8 0,.int .i64 0,.slice none 0 0]],[]⟩).memory Tryz.f5.params.toList Rows.pathDressedSpec.vars false #[Value.agg #[.string ByteArray.empty,.string ByteArray.empty,.int .u8 0,.int .u8 0,.int .u8 0,.int .u8 0,.int .u8 0,.int .u8 0,.int .u8 0,.int .u8 0,.int .u8 0,.int .u8 0,.int .u8 0,.int .u8 0,.int .u8 0,.int .u8 0,.int .u8 0,.int .u8 0,.int .i64 0,.slice none 0 0]].toList 8=some ([.agg [.lit (.string []),.lit (.string []),.agg [.lit (.int .u8 0),.lit (.int .u8 0),.lit (.int .u8 0),.lit (.int .u8 0),.lit (.int .u8 0),.lit (.int .u8 0),.lit (.int .u8 0),.lit (.int .u8 0),.lit (.int .u8 0),.lit (.int .u8 0),.lit (.int .u8 0),.lit (.int .u8 0),.lit (.int .u8 0),.lit (.int .u8 0),.lit (.int .u8 0),.lit (.int .u8 0)],.lit (.int .i64 0),.nil]],[],places):=
 ⟨[],by kernel_rfl⟩
set_option maxRecDepth 100000 in
theorem lifted (os:Os) (started:os.Started) (H:Type) (enc:TypeId×Value→H) (F:Stop.Interp):
  ReturnsInHanded {} Tryz.checked os 5 .any ((OpenSpec.ofChange Rows.pathDressedSpec).preRow enc Tryz.prog Tryz.f5 Rows.pathDressedRow.domain false Rows.pathDressedRow.laid) (((OpenSpec.ofChange Rows.pathDressedSpec).at F).post enc Tryz.prog Tryz.f5 false true false false):=by
 obtain⟨places,hx⟩:=reads os enc
 refine returnsInHanded_of_row (C:=Tryz.checked) (s:=OpenSpec.ofChange Rows.pathDressedSpec) own started (by kernel_rfl) Tryz.func5
  (witness_row_at (enc:=enc) (C:=Tryz.checked) false (laidWorld9 os) #[.agg #[.string ByteArray.empty,.string ByteArray.empty,.int .u8 0,.int .u8 0,.int .u8 0,.int .u8 0,.int .u8 0,.int .u8 0,.int .u8 0,.int .u8 0,.int .u8 0,.int .u8 0,.int .u8 0,.int .u8 0,.int .u8 0,.int .u8 0,.int .u8 0,.int .u8 0,.int .i64 0,.slice none 0 0]] rfl (by kernel_rfl) (by kernel_rfl) (by kernel_rfl)
   (OpenSpec.preRow_of_cond 8 hx (by kernel_rfl) (fun k hk=>by cases hk) (by kernel_rfl) (laid_met os))) ?_
 intro W base args ds gs before hval hW _ _ hsz hL hsh _
 exact contract H enc W base args ds gs before hval hW hsz hL hsh
theorem said:Rows.PathDressedSaid:=
 OpenClaim.holds_of_cond 5 Tryz.f5 rfl rfl rfl rfl rfl rfl rfl ⟨rfl,rfl,rfl,rfl,rfl⟩ rfl rfl rfl rfl rfl (by kernel_rfl) Tryz.func5 (by kernel_rfl)
  (of_decide_eq_true (by kernel_rfl)) (by unfold Func.isWrapper;first|(rw[if_pos (by decide+kernel)];kernel_rfl)|(rw[if_neg (by decide+kernel)];exact⟨rfl,rfl⟩))
  (fun os started H enc _ F=>by rw[OpenClaim.pre_eq_preRow];exact lifted os started H enc F)
theorem plain (f:FuncId) (fn:Func) (hf:Tryz.pinned.checked.prog.funcNamed "posthorn/posthornlaw09.PathDressed"=some f) (hfn:Tryz.pinned.checked.prog.funcs[f]?=some fn):
  true=Tryz.pinned.checked.prog.looks []∧∀(j:Nat) t,fn.params[j]?=some t→Tryz.pinned.checked.prog.wantsStandIn t=false:=by
 obtain rfl:f=5:=Option.some.inj ((show Tryz.prog.funcNamed "posthorn/posthornlaw09.PathDressed"=some 5 by kernel_rfl).symm.trans hf) |>.symm
 obtain rfl:fn=Tryz.f5:=(Option.some.inj (Tryz.func5.symm.trans hfn)).symm
 refine⟨by kernel_rfl,fun j t ht=>?_⟩
 rw[Tryz.params5]at ht
 have hm:t∈[45]:=by simpa using Array.mem_of_getElem? ht
 have hall:([45].all fun u=>!Tryz.prog.wantsStandIn u)=true:=by kernel_rfl
 exact(show Tryz.prog.wantsStandIn t=false by simpa using List.all_eq_true.1 hall t hm)
theorem card:Rows.PathDressedCardSaid:=
 Claim7.holds_tied_plain_at .later [] _ _ _ _ said (fun _ h=>by cases h) (by kernel_rfl) (fun _ h=>by cases h) pathDressed_row_tie rfl ⟨rfl,rfl⟩ (by kernel_rfl) rfl plain (by kernel_rfl)
end Go.Proofs.YtfjpkfhbmldmfabGreatDoor.pathDressed
namespace Go.Proofs.YtfjpkfhbmldmfabGreatDoor
theorem pathDressed_card:Rows.PathDressedCardSaid:=pathDressed.card
#print axioms pathDressed_card
end Go.Proofs.YtfjpkfhbmldmfabGreatDoor
