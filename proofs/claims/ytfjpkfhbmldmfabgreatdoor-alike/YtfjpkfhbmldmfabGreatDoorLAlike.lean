/-
  For all that a path is made of, every text and every mask the statement PathAlike returns true.
-/
import Derived.Test.YtfjpkfhbmldmfabGreatDoorUtfE
import Derived.Test.YtfjpkfhbmldmfabGreatDoorNum
import Derived.Test.YtfjpkfhbmldmfabGreatDoorYe9
import Derived.Test.YtfjpkfhbmldmfabGreatDoorCardR
import Derived.ProofKit
import Derived.ChangeMaps5
import Derived.OpenShut
import Derived.ShutString
import Derived.ChangeOld
import Derived.SizedLaws
namespace Go.Proofs.YtfjpkfhbmldmfabGreatDoor.pathAlike
open Go.ChangeShapes Go.WideShapes Go.ChangeAt Go.RowKit
open Go.ChangeMaps (open_string shut_string)
set_option maxRecDepth 100000 in
theorem part_box (k:Int) (sl:Value) (l:List UInt8) (h:Ho) (ha:h.a.length=16) (w:World):(part 30 (pthC k sl l h) 2).run Tryz.prog w=.ok (.agg (boxC l h)) w:=by
 obtain⟨i,hi,hs⟩:∃i,Tryz.prog.info? 30=some i∧i.size=19:=by
  have h5:(Tryz.prog.info? 30).map (·.size)=some 19:=by kernel_rfl
  cases hq:Tryz.prog.info? 30 with
  |none=>simp[hq]at h5
  |some i=>exact⟨i,rfl,by simpa [hq] using h5⟩
 have hz:=boxC_size l h ha
 have e:(pthC k sl l h).extract 2 21=boxC l h:=by
  apply Array.ext'
  rw[pth_box,Array.toList_extract]
  simp
  rw[List.take_of_length_le (by simp[hz])]
 have hz':(pthC k sl l h).size=21:=pthC_size k sl l h ha
 simp[part,isAgg,run_underlying Tryz.underlying30,sizeOf,typeInfo,hi,hs,e,hz']
theorem field_box (V U:Array Value) (W:World) (h:(part 30 V 2).run Tryz.prog W=.ok (.agg U) W):(Instr.field 32 (.agg V) 2).run Tryz.prog W=.ok (.agg U) W:=by
 simp[Instr.field,asAgg,run_underlying Tryz.underlying32,h]
theorem hostC_setn (h:Ho) (n:List UInt8) (l:List UInt8):(boxC l h).setIfInBounds 2 (.string (txt n))=boxC l ⟨h.k,n,h.a⟩:=by
 unfold boxC hostC txt
 simp
theorem boxC_12 (l:List UInt8) (h:Ho):(boxC l h)[1]?=some (.int .i64 h.k)∧(boxC l h)[2]?=some (.string (txt h.n)):=by
 unfold boxC hostC txt
 simp
theorem box_hst (l:List UInt8) (h:Ho):∀j v,(hostC h).toList[j]?=some v→(boxC l h)[1+j]?=some v:=fun j v hv=>by
 unfold boxC
 rw[Array.getElem?_append_right (by simp)]
 simpa using hv
def capN (c:Nat→Bool) (l:List UInt8) (i:Nat):List UInt8:=capL c 0 (l.take i)++l.drop i
theorem capN_len (c:Nat→Bool) (l:List UInt8) (i:Nat):(capN c l i).length=l.length:=by
 unfold capN
 rw[List.length_append,capL_len,List.length_take,List.length_drop]
 omega
theorem capN_at (c:Nat→Bool) (l:List UInt8) (i:Nat) (hi:i<l.length):(capN c l i)[i]'(by rw[capN_len];exact hi)=l[i]:=by
 have h:(capN c l i)[i]?=some l[i]:=by
  unfold capN
  rw[List.getElem?_append_right (by rw[capL_len,List.length_take];omega),capL_len,List.length_take,Nat.min_eq_left (by omega),Nat.sub_self,List.getElem?_drop,Nat.add_zero,List.getElem?_eq_getElem hi]
 rw[List.getElem?_eq_getElem (by rw[capN_len];exact hi)]at h
 exact Option.some.inj h
theorem capN_set (c:Nat→Bool) (l:List UInt8) (i:Nat) (hi:i<l.length):(capN c l i).set i (capB (c i) l[i])=capN c l (i+1):=by
 have hd:l.drop i=l[i]::l.drop (i+1):=List.drop_eq_getElem_cons hi
 have hl:(capL c 0 (l.take i)).length=i:=by rw[capL_len,List.length_take];omega
 have ht:l.take (i+1)=l.take i++[l[i]]:=by rw[List.take_add_one,List.getElem?_eq_getElem hi];rfl
 unfold capN
 rw[List.set_append_right _ _ (by omega),hl,Nat.sub_self,hd,List.set_cons_zero,ht,capL_app,List.length_take,Nat.min_eq_left (by omega),Nat.zero_add]
 simp[capL]
theorem capN_same (c:Nat→Bool) (l:List UInt8) (i:Nat) (hi:i<l.length) (h:capB (c i) l[i]=l[i]):capN c l i=capN c l (i+1):=by
 rw[←capN_set c l i hi,h]
 apply List.ext_getElem?
 intro j
 rw[List.getElem?_set]
 split
 ·rename_i e
  subst e
  rw[if_pos (by rw[capN_len];exact hi),List.getElem?_eq_getElem (by rw[capN_len];exact hi),capN_at c l i hi]
 ·rfl
theorem xor_fin:∀k:Fin 256,bits BinOp.xor .u8 (k.val:Int) 32=((UInt8.ofNat k.val ^^^ 32).toNat:Int):=by decide+kernel
theorem xor_b (b:UInt8):bits BinOp.xor .u8 (b.toNat:Int) 32=((b ^^^ 32).toNat:Int):=by
 have h:=xor_fin ⟨b.toNat,b.toNat_lt⟩
 have e:UInt8.ofNat b.toNat=b:=by simp
 simp only[e]at h
 exact h
theorem capB_yes {c:Bool} {b:UInt8} (h:capsB b=true) (hc:c=true):capB c b=b ^^^ 32:=if_pos ⟨h,hc⟩
theorem capB_no {c:Bool} {b:UInt8} (h:¬(capsB b=true∧c=true)):capB c b=b:=if_neg h
theorem capsB_iff (b:UInt8):capsB b=true↔(97≤b.toNat∧b.toNat≤122)∨(65≤b.toNat∧b.toNat≤90):=by
 unfold capsB
 simp
theorem capN_all (c:Nat→Bool) (l:List UInt8) (i:Nat) (h:l.length≤i):capN c l i=capL c 0 l:=by
 unfold capN
 rw[List.take_of_length_le h,List.drop_of_length_le h,List.append_nil]
theorem FzB.under {w w':World} {g:Nat} {l:List UInt8} (h:FzB w g l) (hb:Below w.heap.size w w'):FzB w' g l:=by
 have hl:=h.lt
 obtain⟨cs,fr,h1,h2⟩:=h
 exact⟨cs,fr,(hb.block g hl).trans h1,h2⟩
theorem FzB.below0 {w w':World} {g:Nat} {l:List UInt8} (h:FzB w g l) (hb:Below w.heap.size w w'):FzB w' g l:=by
 have hl:=h.lt
 obtain⟨cs,fr,h1,h2⟩:=h
 exact⟨cs,fr,(hb.block g hl).trans h1,h2⟩
set_option maxHeartbeats 16000000 in
set_option maxRecDepth 100000 in
theorem walkW (P:Array Value) (hPz:P.size=20) (p:Pt) (hp:p.In) (c:Nat→Bool) (LT:ByteArray) (mask:Int) (_hm:0≤mask∧mask≤18446744073709551615) (hcm:∀i:Nat,c i=decide (Int.tmod (mask / 2 ^ (i % 64)) 2=1)) (r1 r2:Bool) (w:World)
  (HH:Hid (∀wx,Below w.heap.size w wx→Calls Tryz.prog 7 #[] wx fun e w'=>e=.returned (.bool true)∧Below wx.heap.size wx w'))
  (HM:Hid (∀wx,Below w.heap.size w wx→Calls Tryz.prog 13 #[.agg P] wx fun e w'=>∃V,e=.returned (.agg V)∧PA p V w'∧Below wx.heap.size wx w'))
  (H1:Hid (∀wx,Below w.heap.size w wx→Calls Tryz.prog 16 #[.agg (boxC p.l p.h),.agg (boxC p.l p.h)] wx fun e w'=>e=.returned (.bool true)∧Below wx.heap.size wx w'))
  (H2:Hid (∀wx,Below w.heap.size w wx→Calls Tryz.prog 16 #[.agg (boxC p.l p.h),.agg (boxC p.l (hostK c p.h))] wx fun e w'=>e=.returned (.bool true)∧Below wx.heap.size wx w'))
  (H3:Hid (∀wx,Below w.heap.size w wx→Calls Tryz.prog 16 #[.agg (boxC p.l (hostK c p.h)),.agg (boxC p.l p.h)] wx fun e w'=>e=.returned (.bool true)∧Below wx.heap.size wx w'))
  (H4:Hid (∀wx,Below w.heap.size w wx→Calls Tryz.prog 16 #[.agg (#[.string ⟨#[112,111,115,116,77,65,83,84,69,82]⟩]++hostC p.h),.agg (#[.string ⟨#[80,111,115,116,109,97,115,116,101,114]⟩]++hostC (hostK c p.h))] wx fun e w'=>e=.returned (.bool true)∧Below wx.heap.size wx w'))
  (H5:Hid (∀wx,Below w.heap.size w wx→Calls Tryz.prog 16 #[.agg (boxC p.l p.h),.agg (#[.string LT]++hostC (hostK c p.h))] wx fun e w'=>e=.returned (.bool r1)∧Below wx.heap.size wx w'))
  (H6:Hid (∀wx,Below w.heap.size w wx→Calls Tryz.prog 16 #[.agg (#[.string LT]++hostC (hostK c p.h)),.agg (boxC p.l p.h)] wx fun e w'=>e=.returned (.bool r1)∧Below wx.heap.size wx w'))
  (H7:Hid ((LT.toList==(txt p.l).toList)=r2)) (H8:Hid (r2=true→r1=true)):
  Calls Tryz.prog 6 #[.agg P,.string LT,.int .u64 mask] w fun e w'=>e=.returned (.bool true)∧Below w.heap.size w w':=by
 have LR:Hid (Lies (w.alloc (.cells P 45)) w.heap.size P 45):=Lies.new w _ _
 have KB:Hid (Below w.heap.size w (w.alloc (.cells P 45))):=(Below.refl _ _).alloc (Nat.le_refl _) _
 have hal:p.h.a.length=16:=hp.ok.2.len
 have hal2:(hostK c p.h).a.length=16:=by unfold hostK;split<;>exact hal
 have HNZ:Hid (p.h.n.length≤1000):=hp.nm
 obtain⟨U,hU⟩:∃U,U=boxC p.l p.h:=⟨_,rfl⟩
 have HUZ:Hid (U.size=19):=by show _=_;rw[hU];exact boxC_size _ _ hal
 have HUO:Hid (U.all (·.oneCell')=true):=by show _=_;rw[hU];exact boxC_one _ _
 have HUU:Hid (U=boxC p.l p.h):=hU
 obtain⟨U2,hU2⟩:∃U2,U2=boxC p.l (hostK c p.h):=⟨_,rfl⟩
 have HUU2:Hid (U2=boxC p.l (hostK c p.h)):=hU2
 have HUZ2:Hid (U2.size=19):=by show _=_;rw[hU2];exact boxC_size _ _ hal2
 have HPT:Hid (∀V wx,PA p V wx→∀W,(Instr.field 32 (.agg V) 2).run Tryz.prog W=.ok (.agg U) W):=fun V wx h W=>field_box V U W (by
  obtain⟨s1,s2,rfl,_⟩:=h
  rw[hU]
  exact part_box _ _ _ _ hal W)
 rw[←hU]at H1 H2 H3 H5 H6
 rw[←hU2]at H2 H3
 clear hU hU2
 go_enter Tryz.func6,Tryz.ntmps6
 go_upto_region 1 with fail
 generalize w.alloc (.cells P 45)=v0 at LR KB ⊢
 go_wp2_with (first|(refine wpList_load_row9 (by rfl) 45 _ rfl (w.heap.size) rfl P 45 _ LR.out Tryz.underlying45 rfl (by rw[hPz];exact infoRaw) ?_))
 refine Calls.mono (HH.out _ KB.out) ?_
 rintro e y0 ⟨rfl,hc⟩
 have KB1:Hid (Below w.heap.size w y0):=KB.out.trans ((hc).mono KB.out.size)
 have LRn:Hid (Lies y0 (w.heap.size) P 45):=LR.out.below (hc) LR.out.lt
 clear LR
 have LR:=LRn
 clear LRn
 clear KB
 clear hc
 go_wp2_with (first|(refine wpList_load_row9 (by rfl) 45 _ rfl (w.heap.size) rfl P 45 _ LR.out Tryz.underlying45 rfl (by rw[hPz];exact infoRaw) ?_))
 refine Calls.mono (HM.out _ KB1.out) ?_
 rintro e y1 ⟨V0,rfl,hA,hc⟩
 clear LR
 have KB2:Hid (Below w.heap.size w y1):=KB1.out.trans ((hc).mono KB1.out.size)
 clear KB1
 have hpt:=HPT.out V0 y1 hA
 clear hA hc HPT HM HH
 have A:Hid (Lies (y1.alloc (.cells #[.string ⟨#[]⟩,.int .i64 0,.string ⟨#[]⟩,.int .u8 0,.int .u8 0,.int .u8 0,.int .u8 0,.int .u8 0,.int .u8 0,.int .u8 0,.int .u8 0,.int .u8 0,.int .u8 0,.int .u8 0,.int .u8 0,.int .u8 0,.int .u8 0,.int .u8 0,.int .u8 0] 30)) y1.heap.size #[.string ⟨#[]⟩,.int .i64 0,.string ⟨#[]⟩,.int .u8 0,.int .u8 0,.int .u8 0,.int .u8 0,.int .u8 0,.int .u8 0,.int .u8 0,.int .u8 0,.int .u8 0,.int .u8 0,.int .u8 0,.int .u8 0,.int .u8 0,.int .u8 0,.int .u8 0,.int .u8 0] 30):=Lies.new y1 _ _
 have M7:Hid (Lies ((y1.alloc (.cells #[.string ⟨#[]⟩,.int .i64 0,.string ⟨#[]⟩,.int .u8 0,.int .u8 0,.int .u8 0,.int .u8 0,.int .u8 0,.int .u8 0,.int .u8 0,.int .u8 0,.int .u8 0,.int .u8 0,.int .u8 0,.int .u8 0,.int .u8 0,.int .u8 0,.int .u8 0,.int .u8 0] 30)).setRow y1.heap.size U) y1.heap.size U 30):=A.out.row _
 have BB:Hid (Below y1.heap.size y1 ((y1.alloc (.cells #[.string ⟨#[]⟩,.int .i64 0,.string ⟨#[]⟩,.int .u8 0,.int .u8 0,.int .u8 0,.int .u8 0,.int .u8 0,.int .u8 0,.int .u8 0,.int .u8 0,.int .u8 0,.int .u8 0,.int .u8 0,.int .u8 0,.int .u8 0,.int .u8 0,.int .u8 0,.int .u8 0] 30)).setRow y1.heap.size U)):=below_row ((Below.refl _ _).alloc (Nat.le_refl _) _) (Nat.le_refl _) _
 have KB3:Hid (Below w.heap.size w ((y1.alloc (.cells #[.string ⟨#[]⟩,.int .i64 0,.string ⟨#[]⟩,.int .u8 0,.int .u8 0,.int .u8 0,.int .u8 0,.int .u8 0,.int .u8 0,.int .u8 0,.int .u8 0,.int .u8 0,.int .u8 0,.int .u8 0,.int .u8 0,.int .u8 0,.int .u8 0,.int .u8 0,.int .u8 0] 30)).setRow y1.heap.size U)):=KB2.out.trans ((BB.out).mono KB2.out.size)
 clear KB2
 go_upto_region 4 with(refine wpList_store_row rfl 30 _ _ rfl y1.heap.size rfl #[.string ⟨#[]⟩,.int .i64 0,.string ⟨#[]⟩,.int .u8 0,.int .u8 0,.int .u8 0,.int .u8 0,.int .u8 0,.int .u8 0,.int .u8 0,.int .u8 0,.int .u8 0,.int .u8 0,.int .u8 0,.int .u8 0,.int .u8 0,.int .u8 0,.int .u8 0,.int .u8 0] U rfl 30 A.out (by rw[HUZ.out];exact infoBx) (by rw[HUZ.out];rfl) HUO.out rfl ?_)
 generalize hv0:(y1.alloc (.cells #[.string ⟨#[]⟩,.int .i64 0,.string ⟨#[]⟩,.int .u8 0,.int .u8 0,.int .u8 0,.int .u8 0,.int .u8 0,.int .u8 0,.int .u8 0,.int .u8 0,.int .u8 0,.int .u8 0,.int .u8 0,.int .u8 0,.int .u8 0,.int .u8 0,.int .u8 0,.int .u8 0] 30)).setRow y1.heap.size U=v1 at M7 KB3 ⊢
 clear hv0 A BB hpt
 generalize y1.heap.size=g7 at M7 ⊢
 have h78:g7<v1.heap.size:=M7.out.lt
 have hw8:w.heap.size≤v1.heap.size:=KB3.out.size
 have A:Hid (Lies (v1.alloc (.cells #[.string ⟨#[]⟩,.int .i64 0,.string ⟨#[]⟩,.int .u8 0,.int .u8 0,.int .u8 0,.int .u8 0,.int .u8 0,.int .u8 0,.int .u8 0,.int .u8 0,.int .u8 0,.int .u8 0,.int .u8 0,.int .u8 0,.int .u8 0,.int .u8 0,.int .u8 0,.int .u8 0] 30)) v1.heap.size #[.string ⟨#[]⟩,.int .i64 0,.string ⟨#[]⟩,.int .u8 0,.int .u8 0,.int .u8 0,.int .u8 0,.int .u8 0,.int .u8 0,.int .u8 0,.int .u8 0,.int .u8 0,.int .u8 0,.int .u8 0,.int .u8 0,.int .u8 0,.int .u8 0,.int .u8 0,.int .u8 0] 30):=Lies.new v1 _ _
 have M8:Hid (Lies ((v1.alloc (.cells #[.string ⟨#[]⟩,.int .i64 0,.string ⟨#[]⟩,.int .u8 0,.int .u8 0,.int .u8 0,.int .u8 0,.int .u8 0,.int .u8 0,.int .u8 0,.int .u8 0,.int .u8 0,.int .u8 0,.int .u8 0,.int .u8 0,.int .u8 0,.int .u8 0,.int .u8 0,.int .u8 0] 30)).setRow v1.heap.size U) v1.heap.size U 30):=A.out.row _
 have BB:Hid (Below v1.heap.size v1 ((v1.alloc (.cells #[.string ⟨#[]⟩,.int .i64 0,.string ⟨#[]⟩,.int .u8 0,.int .u8 0,.int .u8 0,.int .u8 0,.int .u8 0,.int .u8 0,.int .u8 0,.int .u8 0,.int .u8 0,.int .u8 0,.int .u8 0,.int .u8 0,.int .u8 0,.int .u8 0,.int .u8 0,.int .u8 0] 30)).setRow v1.heap.size U)):=below_row ((Below.refl _ _).alloc (Nat.le_refl _) _) (Nat.le_refl _) _
 have M7a:=M7
 have KB4:Hid (Below w.heap.size w ((v1.alloc (.cells #[.string ⟨#[]⟩,.int .i64 0,.string ⟨#[]⟩,.int .u8 0,.int .u8 0,.int .u8 0,.int .u8 0,.int .u8 0,.int .u8 0,.int .u8 0,.int .u8 0,.int .u8 0,.int .u8 0,.int .u8 0,.int .u8 0,.int .u8 0,.int .u8 0,.int .u8 0,.int .u8 0] 30)).setRow v1.heap.size U)):=KB3.out.trans ((BB.out).mono KB3.out.size)
 have M7n:Hid (Lies ((v1.alloc (.cells #[.string ⟨#[]⟩,.int .i64 0,.string ⟨#[]⟩,.int .u8 0,.int .u8 0,.int .u8 0,.int .u8 0,.int .u8 0,.int .u8 0,.int .u8 0,.int .u8 0,.int .u8 0,.int .u8 0,.int .u8 0,.int .u8 0,.int .u8 0,.int .u8 0,.int .u8 0,.int .u8 0] 30)).setRow v1.heap.size U) (g7) U 30):=M7.out.below (BB.out) M7.out.lt
 clear M7
 have M7:=M7n
 clear M7n
 clear KB3
 go_upto_region 5 with(first|(refine wpList_load_row9 (by rfl) 30 _ rfl g7 rfl U 30 _ M7a.out Tryz.underlying30 rfl (by rw[HUZ.out];exact infoBx) ?_)|(refine wpList_store_row rfl 30 _ _ rfl v1.heap.size rfl #[.string ⟨#[]⟩,.int .i64 0,.string ⟨#[]⟩,.int .u8 0,.int .u8 0,.int .u8 0,.int .u8 0,.int .u8 0,.int .u8 0,.int .u8 0,.int .u8 0,.int .u8 0,.int .u8 0,.int .u8 0,.int .u8 0,.int .u8 0,.int .u8 0,.int .u8 0,.int .u8 0] U rfl 30 A.out (by rw[HUZ.out];exact infoBx) (by rw[HUZ.out];rfl) HUO.out rfl ?_))
 generalize hv1:(v1.alloc (.cells #[.string ⟨#[]⟩,.int .i64 0,.string ⟨#[]⟩,.int .u8 0,.int .u8 0,.int .u8 0,.int .u8 0,.int .u8 0,.int .u8 0,.int .u8 0,.int .u8 0,.int .u8 0,.int .u8 0,.int .u8 0,.int .u8 0,.int .u8 0,.int .u8 0,.int .u8 0,.int .u8 0] 30)).setRow v1.heap.size U=v2 at M8 M7 KB4 ⊢
 clear hv1 A BB M7a
 generalize v1.heap.size=g8 at M8 h78 hw8 ⊢
 obtain⟨k1,k2⟩:=boxC_12 p.l p.h
 have c81:v2.cell? ⟨g8,1,none⟩=some (.int .i64 p.h.k):=(M8.out.cell 1).trans (by rw[HUU.out];exact k1)
 have c82:v2.cell? ⟨g8,2,none⟩=some (.string (txt p.h.n)):=(M8.out.cell 2).trans (by rw[HUU.out];exact k2)
 have f82:=M8.out.frozen 2
 have hg8:g8<v2.heap.size:=M8.out.lt
 clear k1 k2
 go_upto_if 24 with fail
 go_cut [24] (fun _ wx=>Hid (Lies wx g8 U2 30)∧Hid (But g8 v2 wx))
 case first=>
  by_cases hk:p.h.k=1
  ·have hkb:(p.h.k==1)=true:=by rw[hk];rfl
   obtain⟨cp,wB,hcv,hF,hcap,hbB⟩:=conv_fz v2 (txt p.h.n)
   obtain⟨NM,hNM⟩:∃NM,NM=txt p.h.n:=⟨_,rfl⟩
   have hNl:NM.data.toList=p.h.n:=by rw[hNM,txt_list]
   have hNz:NM.size≤1000:=by rw[hNM,txt_size];exact HNZ.out
   rw[←hNM]at hcv hF hcap c82
   have HNL:Hid (NM.data.toList=p.h.n):=hNl
   have HF0:Hid (FzB wB v2.heap.size (capN c NM.data.toList 0)):=by
    show FzB _ _ _
    unfold capN
    simpa [capL] using hF
   have HBB:Hid (Below v2.heap.size v2 wB):=hbB
   clear hNM hNl hF hbB hcap
   go_upto_region 8 with fail
   go_loopw [31] (fun u wr=>∃i:Nat,i≤NM.size∧u=.int .i64 i∧Hid (FzB wr v2.heap.size (capN c NM.data.toList i))∧Hid (Below v2.heap.size v2 wr)) (fun u _=>NM.size - (intOf u).toNat)
   case atStart=>exact⟨0,Nat.zero_le _,by go_num,HF0,HBB⟩
   case round=>
    obtain⟨i,hi,rfl,HF,HB⟩:=hrel
    clear HF0 HBB c81 hcv
    by_cases hlt:i<NM.size
    ·have hlt':(i:Int)<(NM.size:Int):=by omega
     have hil:i<NM.data.toList.length:=by rw[Array.length_toList];exact hlt
     obtain⟨b,hb⟩:∃b,b=NM.data.toList[i]:=⟨_,rfl⟩
     have cb:wr.cell? ⟨v2.heap.size,i,none⟩=some (.int .u8 (b.toNat:Int)):=by
      rw[HF.out.cell i (by rw[capN_len];exact hil),capN_at c _ i hil,hb]
     have fb:=HF.out.open' i (by rw[capN_len];exact hil)
     have hb8:=b.toNat_lt
     have HST:Hid (∀x:UInt8,capB (c i) b=x→FzB (wr.setCell ⟨v2.heap.size,i,none⟩ (.int .u8 (x.toNat:Int))) v2.heap.size (capN c NM.data.toList (i+1))):=fun x hx=>by
      have:=HF.out.set i (capB (c i) b)
      rw[hb,capN_set c _ i hil,←hb,hx]at this
      exact this
     have HSN:Hid (capB (c i) b=b→FzB wr v2.heap.size (capN c NM.data.toList (i+1))):=fun h=>by
      rw[←capN_same c _ i hil (by rw[←hb];exact h)]
      exact HF.out
     have HCI:Hid (c i=decide (Int.tmod (mask / 2 ^ (i % 64)) 2=1)):=hcm i
     have HXB:Hid (bits BinOp.xor .u8 (b.toNat:Int) 32=((b ^^^ 32).toNat:Int)):=xor_b b
     have HCB:Hid (capsB b=true↔(97≤b.toNat∧b.toNat≤122)∨(65≤b.toNat∧b.toNat≤90)):=capsB_iff b
     have HBN:Hid (Below v2.heap.size v2 (wr.setCell ⟨v2.heap.size,i,none⟩ (.int .u8 (bits BinOp.xor .u8 (b.toNat:Int) 32)))):=HB.out.setCell (Nat.le_refl _) _
     clear hb hil HF
     by_cases h97:97≤b.toNat
     ·by_cases h122:b.toNat≤122
      ·have q0:(97:Int)≤(b.toNat:Int):=by omega
       have q1:(b.toNat:Int)≤122:=by omega
       by_cases hcc:Int.tmod (mask / 2 ^ (i % 64)) 2=1
       ·have hcb:((Int.tmod (mask / 2 ^ (i % 64)) 2)==1)=true:=by rw[beq_iff_eq];exact hcc
        have HY:Hid (FzB (wr.setCell ⟨v2.heap.size,i,none⟩ (.int .u8 (bits BinOp.xor .u8 (b.toNat:Int) 32))) v2.heap.size (capN c NM.data.toList (i+1))):=by
         show FzB _ _ _
         rw[HXB.out]
         exact HST.out _ (capB_yes (HCB.out.2 (by omega)) (by rw[HCI.out,decide_eq_true hcc]))
        clear hcc HST HSN HCI HCB HXB
        go_wp2_with fail
        go_roundw
        case rel=>exact⟨i+1,hlt,by go_num,HY,HBN⟩
        case measure=>simp[intOf];omega
       ·have hcb:((Int.tmod (mask / 2 ^ (i % 64)) 2)==1)=false:=by rw[beq_eq_false_iff_ne];exact hcc
        have HY:Hid (FzB wr v2.heap.size (capN c NM.data.toList (i+1))):=HSN.out (capB_no (fun h=>hcc (by have:=h.2;rw[HCI.out]at this;exact of_decide_eq_true this)))
        clear hcc HST HSN HCI HCB HXB
        go_wp2_with fail
        go_roundw
        case rel=>exact⟨i+1,hlt,by go_num,HY,HB⟩
        case measure=>simp[intOf];omega
      ·have q0:(97:Int)≤(b.toNat:Int):=by omega
       have q1:¬(b.toNat:Int)≤122:=by omega
       have q2:(65:Int)≤(b.toNat:Int):=by omega
       have q3:¬(b.toNat:Int)≤90:=by omega
       have HY:Hid (FzB wr v2.heap.size (capN c NM.data.toList (i+1))):=HSN.out (capB_no (fun h=>by have:=HCB.out.1 h.1;omega))
       clear HST HSN HCI HCB HXB
       go_wp2_with fail
       go_roundw
       case rel=>exact⟨i+1,hlt,by go_num,HY,HB⟩
       case measure=>simp[intOf];omega
     ·by_cases h65:65≤b.toNat
      ·by_cases h90:b.toNat≤90
       ·have q0:¬(97:Int)≤(b.toNat:Int):=by omega
        have q1:(65:Int)≤(b.toNat:Int):=by omega
        have q2:(b.toNat:Int)≤90:=by omega
        by_cases hcc:Int.tmod (mask / 2 ^ (i % 64)) 2=1
        ·have hcb:((Int.tmod (mask / 2 ^ (i % 64)) 2)==1)=true:=by rw[beq_iff_eq];exact hcc
         have HY:Hid (FzB (wr.setCell ⟨v2.heap.size,i,none⟩ (.int .u8 (bits BinOp.xor .u8 (b.toNat:Int) 32))) v2.heap.size (capN c NM.data.toList (i+1))):=by
          show FzB _ _ _
          rw[HXB.out]
          exact HST.out _ (capB_yes (HCB.out.2 (by omega)) (by rw[HCI.out,decide_eq_true hcc]))
         clear hcc HST HSN HCI HCB HXB
         go_wp2_with fail
         go_roundw
         case rel=>exact⟨i+1,hlt,by go_num,HY,HBN⟩
         case measure=>simp[intOf];omega
        ·have hcb:((Int.tmod (mask / 2 ^ (i % 64)) 2)==1)=false:=by rw[beq_eq_false_iff_ne];exact hcc
         have HY:Hid (FzB wr v2.heap.size (capN c NM.data.toList (i+1))):=HSN.out (capB_no (fun h=>hcc (by have:=h.2;rw[HCI.out]at this;exact of_decide_eq_true this)))
         clear hcc HST HSN HCI HCB HXB
         go_wp2_with fail
         go_roundw
         case rel=>exact⟨i+1,hlt,by go_num,HY,HB⟩
         case measure=>simp[intOf];omega
       ·have q0:¬(97:Int)≤(b.toNat:Int):=by omega
        have q1:(65:Int)≤(b.toNat:Int):=by omega
        have q2:¬(b.toNat:Int)≤90:=by omega
        have HY:Hid (FzB wr v2.heap.size (capN c NM.data.toList (i+1))):=HSN.out (capB_no (fun h=>by have:=HCB.out.1 h.1;omega))
        clear HST HSN HCI HCB HXB
        go_wp2_with fail
        go_roundw
        case rel=>exact⟨i+1,hlt,by go_num,HY,HB⟩
        case measure=>simp[intOf];omega
      ·have q0:¬(97:Int)≤(b.toNat:Int):=by omega
       have q1:¬(65:Int)≤(b.toNat:Int):=by omega
       have HY:Hid (FzB wr v2.heap.size (capN c NM.data.toList (i+1))):=HSN.out (capB_no (fun h=>by have:=HCB.out.1 h.1;omega))
       clear HST HSN HCI HCB HXB
       go_wp2_with fail
       go_roundw
       case rel=>exact⟨i+1,hlt,by go_num,HY,HB⟩
       case measure=>simp[intOf];omega
    ·have hlt':¬(i:Int)<(NM.size:Int):=by omega
     have hie:i=NM.size:=by omega
     have hbk:(convert 47 9 (.slice (some ⟨v2.heap.size,0,none⟩) NM.size cp)).run Tryz.prog wr=.ok (.string (txt (capL c 0 p.h.n))) wr:=by
      have h1:=HF.out.bts
      have h2:=bts_back h1 cp
      rw[capN_len,Array.length_toList,capN_all c _ i (by rw[Array.length_toList];show NM.size≤i;omega),HNL.out]at h2
      exact h2
     have c82r:wr.cell? ⟨g8,2,none⟩=some (.string NM):=(HB.out.cell (p:=⟨g8,2,none⟩) hg8).trans c82
     have M8r:Hid (Lies wr g8 U 30):=M8.out.below HB.out hg8
     have f82r:=M8r.out.frozen 2
     have HLo:Hid (Lies (wr.setCell ⟨g8,2,none⟩ (.string (txt (capL c 0 p.h.n)))) g8 U2 30):=by
      have h1:=M8r.out.set 2 (.string (txt (capL c 0 p.h.n)))
      have e:hostK c p.h=⟨p.h.k,capL c 0 p.h.n,p.h.a⟩:=if_pos hk
      rw[HUU.out,hostC_setn,←e,←HUU2.out]at h1
      exact h1
     have HBo:Hid (But g8 v2 (wr.setCell ⟨g8,2,none⟩ (.string (txt (capL c 0 p.h.n))))):=(But.of_below HB.out).set _ _
     clear HF HB M8r hie c82
     generalize txt (capL c 0 p.h.n)=T2 at hbk HLo HBo
     go_wp2_with fail
     go_meet
     exact⟨HLo,HBo⟩
  ·have hkb:(p.h.k==1)=false:=by rw[beq_eq_false_iff_ne];exact hk
   have e:U2=U:=by
    have e:hostK c p.h=p.h:=if_neg hk
    rw[HUU2.out,e,HUU.out]
   have HLo:Hid (Lies v2 g8 U2 30):=by rw[e];exact M8.out
   clear e c82
   go_wp2_with fail
   go_meet
   exact⟨HLo,But.refl _ _⟩
 case rest=>
  obtain⟨M8c,HBo⟩:=hcut
  have M7c:Hid (Lies wc g7 U 30):=HBo.out.lies M7.out (by omega)
  have KBc:Hid (Below w.heap.size w wc):=KB4.out.trans (HBo.out.under (by omega) KB4.out.size)
  clear KB4 M7 M8 HBo c81 c82 f82
  have M7:=M7c
  have M8:=M8c
  clear M7c M8c
  obtain⟨C,hC⟩:∃C,C=hostC p.h:=⟨_,rfl⟩
  obtain⟨C2,hC2⟩:∃C2,C2=hostC (hostK c p.h):=⟨_,rfl⟩
  have hCz:C.size=18:=by rw[hC];exact hostC_size _ hal
  have hCz2:C2.size=18:=by rw[hC2];exact hostC_size _ hal2
  have HCO:Hid (C.all (·.oneCell')=true):=by show _=_;rw[hC];exact hostC_one _
  have HCO2:Hid (C2.all (·.oneCell')=true):=by show _=_;rw[hC2];exact hostC_one _
  have HR7:Hid (∀wx,Lies wx g7 U 30→wx.rangeAt g7 1 C.toList):=fun wx h j v hv=>(h.cell (1+j)).trans (by rw[HUU.out];exact box_hst p.l p.h j v (by rw[←hC];exact hv))
  have HR8:Hid (∀wx,Lies wx g8 U2 30→wx.rangeAt g8 1 C2.toList):=fun wx h j v hv=>(h.cell (1+j)).trans (by rw[HUU2.out];exact box_hst p.l (hostK c p.h) j v (by rw[←hC2];exact hv))
  have HL0:Hid (∀wx,Lies wx g7 U 30→wx.cell? ⟨g7,0,none⟩=some (.string (txt p.l))):=fun wx h=>(h.cell 0).trans (by rw[HUU.out];unfold boxC;rw[Array.getElem?_append_left (by simp)];rfl)
  rw[←hC,←hC2]at H4
  rw[←hC2]at H5 H6
  clear hC hC2 HUU HUU2 hcm
  have U6z:∀(x:ByteArray) (Q:Array Value),Q.size=18→(#[Value.string x]++Q).size=19:=fun x Q h=>by rw[Array.size_append,h];rfl
  have U6o:∀(x:ByteArray) (Q:Array Value),Q.all (·.oneCell')=true→(#[Value.string x]++Q).all (·.oneCell')=true:=fun x Q h=>by rw[Array.all_append,h];simp[Value.oneCell']
  go_upto_region 15 with fail
  have RG:Hid (wc.rangeAt g8 1 C2.toList):=HR8.out _ M8.out
  obtain⟨E5,hE5⟩:∃E5,E5=#[Value.string LT]++C2:=⟨_,rfl⟩
  have hbb:=build_box LT C2 hCz2
  rw[←hE5]at hbb
  have E5z:Hid (E5.size=19):=by show _=_;rw[hE5];exact U6z _ _ hCz2
  have E5o:Hid (E5.all (·.oneCell')=true):=by show _=_;rw[hE5];exact U6o _ _ HCO2.out
  have E5e:Hid (E5=#[Value.string LT]++C2):=hE5
  clear hE5
  refine wp_region_lit ?_
  refine wpList_yieldG (.string LT) (by rfl) ?hy ?_
  case hy=>(go_simp<;>(first|with_reducible rfl|omega|skip))
  simp only[Act.put,pA,pB,pC]
  refine wpList_yieldG (.pointer (some ⟨g8,1,none⟩)) (by rfl) ?hy ?_
  case hy=>(go_simp<;>(first|with_reducible rfl|omega|skip))
  simp only[Act.put,pA,pB,pC]
  refine wpList_load_mid9 (by rfl) 28 _ rfl g8 1 rfl C2.toList _ RG.out Tryz.underlying28 rfl (by rw[Array.length_toList,hCz2];exact infoHo) ?_
  rw[show C2.toList.toArray=C2 from by simp]
  simp only[Act.put,pA,pB,pC]
  refine wpList_yieldG (.agg E5) (by rfl) ?hy ?_
  case hy=>(go_simp<;>(first|with_reducible rfl|omega|skip))
  simp only[Act.put,pA,pB,pC]
  have A:Hid (Lies (wc.alloc (.cells #[.string ⟨#[]⟩,.int .i64 0,.string ⟨#[]⟩,.int .u8 0,.int .u8 0,.int .u8 0,.int .u8 0,.int .u8 0,.int .u8 0,.int .u8 0,.int .u8 0,.int .u8 0,.int .u8 0,.int .u8 0,.int .u8 0,.int .u8 0,.int .u8 0,.int .u8 0,.int .u8 0] 30)) wc.heap.size #[.string ⟨#[]⟩,.int .i64 0,.string ⟨#[]⟩,.int .u8 0,.int .u8 0,.int .u8 0,.int .u8 0,.int .u8 0,.int .u8 0,.int .u8 0,.int .u8 0,.int .u8 0,.int .u8 0,.int .u8 0,.int .u8 0,.int .u8 0,.int .u8 0,.int .u8 0,.int .u8 0] 30):=Lies.new wc _ _
  have N12:Hid (Lies ((wc.alloc (.cells #[.string ⟨#[]⟩,.int .i64 0,.string ⟨#[]⟩,.int .u8 0,.int .u8 0,.int .u8 0,.int .u8 0,.int .u8 0,.int .u8 0,.int .u8 0,.int .u8 0,.int .u8 0,.int .u8 0,.int .u8 0,.int .u8 0,.int .u8 0,.int .u8 0,.int .u8 0,.int .u8 0] 30)).setRow wc.heap.size E5) wc.heap.size E5 30):=A.out.row _
  have BB:Hid (Below wc.heap.size wc ((wc.alloc (.cells #[.string ⟨#[]⟩,.int .i64 0,.string ⟨#[]⟩,.int .u8 0,.int .u8 0,.int .u8 0,.int .u8 0,.int .u8 0,.int .u8 0,.int .u8 0,.int .u8 0,.int .u8 0,.int .u8 0,.int .u8 0,.int .u8 0,.int .u8 0,.int .u8 0,.int .u8 0,.int .u8 0] 30)).setRow wc.heap.size E5)):=below_row ((Below.refl _ _).alloc (Nat.le_refl _) _) (Nat.le_refl _) _
  clear hbb RG
  have KB5:Hid (Below w.heap.size w ((wc.alloc (.cells #[.string ⟨#[]⟩,.int .i64 0,.string ⟨#[]⟩,.int .u8 0,.int .u8 0,.int .u8 0,.int .u8 0,.int .u8 0,.int .u8 0,.int .u8 0,.int .u8 0,.int .u8 0,.int .u8 0,.int .u8 0,.int .u8 0,.int .u8 0,.int .u8 0,.int .u8 0,.int .u8 0] 30)).setRow wc.heap.size E5)):=KBc.out.trans ((BB.out).mono KBc.out.size)
  have M7n:Hid (Lies ((wc.alloc (.cells #[.string ⟨#[]⟩,.int .i64 0,.string ⟨#[]⟩,.int .u8 0,.int .u8 0,.int .u8 0,.int .u8 0,.int .u8 0,.int .u8 0,.int .u8 0,.int .u8 0,.int .u8 0,.int .u8 0,.int .u8 0,.int .u8 0,.int .u8 0,.int .u8 0,.int .u8 0,.int .u8 0] 30)).setRow wc.heap.size E5) (g7) U 30):=M7.out.below (BB.out) M7.out.lt
  clear M7
  have M7:=M7n
  clear M7n
  have M8n:Hid (Lies ((wc.alloc (.cells #[.string ⟨#[]⟩,.int .i64 0,.string ⟨#[]⟩,.int .u8 0,.int .u8 0,.int .u8 0,.int .u8 0,.int .u8 0,.int .u8 0,.int .u8 0,.int .u8 0,.int .u8 0,.int .u8 0,.int .u8 0,.int .u8 0,.int .u8 0,.int .u8 0,.int .u8 0,.int .u8 0] 30)).setRow wc.heap.size E5) (g8) U2 30):=M8.out.below (BB.out) M8.out.lt
  clear M8
  have M8:=M8n
  clear M8n
  clear KBc
  go_upto_region 16 with(refine wpList_store_row rfl 30 _ _ rfl wc.heap.size rfl #[.string ⟨#[]⟩,.int .i64 0,.string ⟨#[]⟩,.int .u8 0,.int .u8 0,.int .u8 0,.int .u8 0,.int .u8 0,.int .u8 0,.int .u8 0,.int .u8 0,.int .u8 0,.int .u8 0,.int .u8 0,.int .u8 0,.int .u8 0,.int .u8 0,.int .u8 0,.int .u8 0] E5 rfl 30 A.out (by rw[E5z.out];exact infoBx) (by rw[E5z.out];rfl) E5o.out rfl ?_)
  generalize hv:(wc.alloc (.cells #[.string ⟨#[]⟩,.int .i64 0,.string ⟨#[]⟩,.int .u8 0,.int .u8 0,.int .u8 0,.int .u8 0,.int .u8 0,.int .u8 0,.int .u8 0,.int .u8 0,.int .u8 0,.int .u8 0,.int .u8 0,.int .u8 0,.int .u8 0,.int .u8 0,.int .u8 0,.int .u8 0] 30)).setRow wc.heap.size E5=x12 at N12 KB5 M7 M8 ⊢
  clear hv A BB
  generalize wc.heap.size=g12 at N12 ⊢
  have RG:Hid (x12.rangeAt g7 1 C.toList):=HR7.out _ M7.out
  obtain⟨E6,hE6⟩:∃E6,E6=#[Value.string ⟨#[112,111,115,116,77,65,83,84,69,82]⟩]++C:=⟨_,rfl⟩
  have hbb:=build_box ⟨#[112,111,115,116,77,65,83,84,69,82]⟩ C hCz
  rw[←hE6]at hbb
  have E6z:Hid (E6.size=19):=by show _=_;rw[hE6];exact U6z _ _ hCz
  have E6o:Hid (E6.all (·.oneCell')=true):=by show _=_;rw[hE6];exact U6o _ _ HCO.out
  have E6e:Hid (E6=#[Value.string ⟨#[112,111,115,116,77,65,83,84,69,82]⟩]++C):=hE6
  clear hE6
  refine wp_region_lit ?_
  refine wpList_yieldG (.pointer (some ⟨g7,1,none⟩)) (by rfl) ?hy ?_
  case hy=>(go_simp<;>(first|with_reducible rfl|omega|skip))
  simp only[Act.put,pA,pB,pC]
  refine wpList_load_mid9 (by rfl) 28 _ rfl g7 1 rfl C.toList _ RG.out Tryz.underlying28 rfl (by rw[Array.length_toList,hCz];exact infoHo) ?_
  rw[show C.toList.toArray=C from by simp]
  simp only[Act.put,pA,pB,pC]
  refine wpList_yieldG (.agg E6) (by rfl) ?hy ?_
  case hy=>(go_simp<;>(first|with_reducible rfl|omega|skip))
  simp only[Act.put,pA,pB,pC]
  have A:Hid (Lies (x12.alloc (.cells #[.string ⟨#[]⟩,.int .i64 0,.string ⟨#[]⟩,.int .u8 0,.int .u8 0,.int .u8 0,.int .u8 0,.int .u8 0,.int .u8 0,.int .u8 0,.int .u8 0,.int .u8 0,.int .u8 0,.int .u8 0,.int .u8 0,.int .u8 0,.int .u8 0,.int .u8 0,.int .u8 0] 30)) x12.heap.size #[.string ⟨#[]⟩,.int .i64 0,.string ⟨#[]⟩,.int .u8 0,.int .u8 0,.int .u8 0,.int .u8 0,.int .u8 0,.int .u8 0,.int .u8 0,.int .u8 0,.int .u8 0,.int .u8 0,.int .u8 0,.int .u8 0,.int .u8 0,.int .u8 0,.int .u8 0,.int .u8 0] 30):=Lies.new x12 _ _
  have N13:Hid (Lies ((x12.alloc (.cells #[.string ⟨#[]⟩,.int .i64 0,.string ⟨#[]⟩,.int .u8 0,.int .u8 0,.int .u8 0,.int .u8 0,.int .u8 0,.int .u8 0,.int .u8 0,.int .u8 0,.int .u8 0,.int .u8 0,.int .u8 0,.int .u8 0,.int .u8 0,.int .u8 0,.int .u8 0,.int .u8 0] 30)).setRow x12.heap.size E6) x12.heap.size E6 30):=A.out.row _
  have BB:Hid (Below x12.heap.size x12 ((x12.alloc (.cells #[.string ⟨#[]⟩,.int .i64 0,.string ⟨#[]⟩,.int .u8 0,.int .u8 0,.int .u8 0,.int .u8 0,.int .u8 0,.int .u8 0,.int .u8 0,.int .u8 0,.int .u8 0,.int .u8 0,.int .u8 0,.int .u8 0,.int .u8 0,.int .u8 0,.int .u8 0,.int .u8 0] 30)).setRow x12.heap.size E6)):=below_row ((Below.refl _ _).alloc (Nat.le_refl _) _) (Nat.le_refl _) _
  clear hbb RG
  have KB6:Hid (Below w.heap.size w ((x12.alloc (.cells #[.string ⟨#[]⟩,.int .i64 0,.string ⟨#[]⟩,.int .u8 0,.int .u8 0,.int .u8 0,.int .u8 0,.int .u8 0,.int .u8 0,.int .u8 0,.int .u8 0,.int .u8 0,.int .u8 0,.int .u8 0,.int .u8 0,.int .u8 0,.int .u8 0,.int .u8 0,.int .u8 0] 30)).setRow x12.heap.size E6)):=KB5.out.trans ((BB.out).mono KB5.out.size)
  have M7n:Hid (Lies ((x12.alloc (.cells #[.string ⟨#[]⟩,.int .i64 0,.string ⟨#[]⟩,.int .u8 0,.int .u8 0,.int .u8 0,.int .u8 0,.int .u8 0,.int .u8 0,.int .u8 0,.int .u8 0,.int .u8 0,.int .u8 0,.int .u8 0,.int .u8 0,.int .u8 0,.int .u8 0,.int .u8 0,.int .u8 0] 30)).setRow x12.heap.size E6) (g7) U 30):=M7.out.below (BB.out) M7.out.lt
  clear M7
  have M7:=M7n
  clear M7n
  have M8n:Hid (Lies ((x12.alloc (.cells #[.string ⟨#[]⟩,.int .i64 0,.string ⟨#[]⟩,.int .u8 0,.int .u8 0,.int .u8 0,.int .u8 0,.int .u8 0,.int .u8 0,.int .u8 0,.int .u8 0,.int .u8 0,.int .u8 0,.int .u8 0,.int .u8 0,.int .u8 0,.int .u8 0,.int .u8 0,.int .u8 0] 30)).setRow x12.heap.size E6) (g8) U2 30):=M8.out.below (BB.out) M8.out.lt
  clear M8
  have M8:=M8n
  clear M8n
  have N12n:Hid (Lies ((x12.alloc (.cells #[.string ⟨#[]⟩,.int .i64 0,.string ⟨#[]⟩,.int .u8 0,.int .u8 0,.int .u8 0,.int .u8 0,.int .u8 0,.int .u8 0,.int .u8 0,.int .u8 0,.int .u8 0,.int .u8 0,.int .u8 0,.int .u8 0,.int .u8 0,.int .u8 0,.int .u8 0,.int .u8 0] 30)).setRow x12.heap.size E6) (g12) E5 30):=N12.out.below (BB.out) N12.out.lt
  clear N12
  have N12:=N12n
  clear N12n
  clear KB5
  go_upto_region 17 with(refine wpList_store_row rfl 30 _ _ rfl x12.heap.size rfl #[.string ⟨#[]⟩,.int .i64 0,.string ⟨#[]⟩,.int .u8 0,.int .u8 0,.int .u8 0,.int .u8 0,.int .u8 0,.int .u8 0,.int .u8 0,.int .u8 0,.int .u8 0,.int .u8 0,.int .u8 0,.int .u8 0,.int .u8 0,.int .u8 0,.int .u8 0,.int .u8 0] E6 rfl 30 A.out (by rw[E6z.out];exact infoBx) (by rw[E6z.out];rfl) E6o.out rfl ?_)
  generalize hv:(x12.alloc (.cells #[.string ⟨#[]⟩,.int .i64 0,.string ⟨#[]⟩,.int .u8 0,.int .u8 0,.int .u8 0,.int .u8 0,.int .u8 0,.int .u8 0,.int .u8 0,.int .u8 0,.int .u8 0,.int .u8 0,.int .u8 0,.int .u8 0,.int .u8 0,.int .u8 0,.int .u8 0,.int .u8 0] 30)).setRow x12.heap.size E6=x13 at N13 KB6 M7 M8 N12 ⊢
  clear hv A BB
  generalize x12.heap.size=g13 at N13 ⊢
  have RG:Hid (x13.rangeAt g8 1 C2.toList):=HR8.out _ M8.out
  obtain⟨E7,hE7⟩:∃E7,E7=#[Value.string ⟨#[80,111,115,116,109,97,115,116,101,114]⟩]++C2:=⟨_,rfl⟩
  have hbb:=build_box ⟨#[80,111,115,116,109,97,115,116,101,114]⟩ C2 hCz2
  rw[←hE7]at hbb
  have E7z:Hid (E7.size=19):=by show _=_;rw[hE7];exact U6z _ _ hCz2
  have E7o:Hid (E7.all (·.oneCell')=true):=by show _=_;rw[hE7];exact U6o _ _ HCO2.out
  have E7e:Hid (E7=#[Value.string ⟨#[80,111,115,116,109,97,115,116,101,114]⟩]++C2):=hE7
  clear hE7
  refine wp_region_lit ?_
  refine wpList_yieldG (.pointer (some ⟨g8,1,none⟩)) (by rfl) ?hy ?_
  case hy=>(go_simp<;>(first|with_reducible rfl|omega|skip))
  simp only[Act.put,pA,pB,pC]
  refine wpList_load_mid9 (by rfl) 28 _ rfl g8 1 rfl C2.toList _ RG.out Tryz.underlying28 rfl (by rw[Array.length_toList,hCz2];exact infoHo) ?_
  rw[show C2.toList.toArray=C2 from by simp]
  simp only[Act.put,pA,pB,pC]
  refine wpList_yieldG (.agg E7) (by rfl) ?hy ?_
  case hy=>(go_simp<;>(first|with_reducible rfl|omega|skip))
  simp only[Act.put,pA,pB,pC]
  have A:Hid (Lies (x13.alloc (.cells #[.string ⟨#[]⟩,.int .i64 0,.string ⟨#[]⟩,.int .u8 0,.int .u8 0,.int .u8 0,.int .u8 0,.int .u8 0,.int .u8 0,.int .u8 0,.int .u8 0,.int .u8 0,.int .u8 0,.int .u8 0,.int .u8 0,.int .u8 0,.int .u8 0,.int .u8 0,.int .u8 0] 30)) x13.heap.size #[.string ⟨#[]⟩,.int .i64 0,.string ⟨#[]⟩,.int .u8 0,.int .u8 0,.int .u8 0,.int .u8 0,.int .u8 0,.int .u8 0,.int .u8 0,.int .u8 0,.int .u8 0,.int .u8 0,.int .u8 0,.int .u8 0,.int .u8 0,.int .u8 0,.int .u8 0,.int .u8 0] 30):=Lies.new x13 _ _
  have N14:Hid (Lies ((x13.alloc (.cells #[.string ⟨#[]⟩,.int .i64 0,.string ⟨#[]⟩,.int .u8 0,.int .u8 0,.int .u8 0,.int .u8 0,.int .u8 0,.int .u8 0,.int .u8 0,.int .u8 0,.int .u8 0,.int .u8 0,.int .u8 0,.int .u8 0,.int .u8 0,.int .u8 0,.int .u8 0,.int .u8 0] 30)).setRow x13.heap.size E7) x13.heap.size E7 30):=A.out.row _
  have BB:Hid (Below x13.heap.size x13 ((x13.alloc (.cells #[.string ⟨#[]⟩,.int .i64 0,.string ⟨#[]⟩,.int .u8 0,.int .u8 0,.int .u8 0,.int .u8 0,.int .u8 0,.int .u8 0,.int .u8 0,.int .u8 0,.int .u8 0,.int .u8 0,.int .u8 0,.int .u8 0,.int .u8 0,.int .u8 0,.int .u8 0,.int .u8 0] 30)).setRow x13.heap.size E7)):=below_row ((Below.refl _ _).alloc (Nat.le_refl _) _) (Nat.le_refl _) _
  clear hbb RG
  have KB7:Hid (Below w.heap.size w ((x13.alloc (.cells #[.string ⟨#[]⟩,.int .i64 0,.string ⟨#[]⟩,.int .u8 0,.int .u8 0,.int .u8 0,.int .u8 0,.int .u8 0,.int .u8 0,.int .u8 0,.int .u8 0,.int .u8 0,.int .u8 0,.int .u8 0,.int .u8 0,.int .u8 0,.int .u8 0,.int .u8 0,.int .u8 0] 30)).setRow x13.heap.size E7)):=KB6.out.trans ((BB.out).mono KB6.out.size)
  have M7n:Hid (Lies ((x13.alloc (.cells #[.string ⟨#[]⟩,.int .i64 0,.string ⟨#[]⟩,.int .u8 0,.int .u8 0,.int .u8 0,.int .u8 0,.int .u8 0,.int .u8 0,.int .u8 0,.int .u8 0,.int .u8 0,.int .u8 0,.int .u8 0,.int .u8 0,.int .u8 0,.int .u8 0,.int .u8 0,.int .u8 0] 30)).setRow x13.heap.size E7) (g7) U 30):=M7.out.below (BB.out) M7.out.lt
  clear M7
  have M7:=M7n
  clear M7n
  have M8n:Hid (Lies ((x13.alloc (.cells #[.string ⟨#[]⟩,.int .i64 0,.string ⟨#[]⟩,.int .u8 0,.int .u8 0,.int .u8 0,.int .u8 0,.int .u8 0,.int .u8 0,.int .u8 0,.int .u8 0,.int .u8 0,.int .u8 0,.int .u8 0,.int .u8 0,.int .u8 0,.int .u8 0,.int .u8 0,.int .u8 0] 30)).setRow x13.heap.size E7) (g8) U2 30):=M8.out.below (BB.out) M8.out.lt
  clear M8
  have M8:=M8n
  clear M8n
  have N12n:Hid (Lies ((x13.alloc (.cells #[.string ⟨#[]⟩,.int .i64 0,.string ⟨#[]⟩,.int .u8 0,.int .u8 0,.int .u8 0,.int .u8 0,.int .u8 0,.int .u8 0,.int .u8 0,.int .u8 0,.int .u8 0,.int .u8 0,.int .u8 0,.int .u8 0,.int .u8 0,.int .u8 0,.int .u8 0,.int .u8 0] 30)).setRow x13.heap.size E7) (g12) E5 30):=N12.out.below (BB.out) N12.out.lt
  clear N12
  have N12:=N12n
  clear N12n
  have N13n:Hid (Lies ((x13.alloc (.cells #[.string ⟨#[]⟩,.int .i64 0,.string ⟨#[]⟩,.int .u8 0,.int .u8 0,.int .u8 0,.int .u8 0,.int .u8 0,.int .u8 0,.int .u8 0,.int .u8 0,.int .u8 0,.int .u8 0,.int .u8 0,.int .u8 0,.int .u8 0,.int .u8 0,.int .u8 0,.int .u8 0] 30)).setRow x13.heap.size E7) (g13) E6 30):=N13.out.below (BB.out) N13.out.lt
  clear N13
  have N13:=N13n
  clear N13n
  clear KB6
  go_upto_region 18 with(refine wpList_store_row rfl 30 _ _ rfl x13.heap.size rfl #[.string ⟨#[]⟩,.int .i64 0,.string ⟨#[]⟩,.int .u8 0,.int .u8 0,.int .u8 0,.int .u8 0,.int .u8 0,.int .u8 0,.int .u8 0,.int .u8 0,.int .u8 0,.int .u8 0,.int .u8 0,.int .u8 0,.int .u8 0,.int .u8 0,.int .u8 0,.int .u8 0] E7 rfl 30 A.out (by rw[E7z.out];exact infoBx) (by rw[E7z.out];rfl) E7o.out rfl ?_)
  generalize hv:(x13.alloc (.cells #[.string ⟨#[]⟩,.int .i64 0,.string ⟨#[]⟩,.int .u8 0,.int .u8 0,.int .u8 0,.int .u8 0,.int .u8 0,.int .u8 0,.int .u8 0,.int .u8 0,.int .u8 0,.int .u8 0,.int .u8 0,.int .u8 0,.int .u8 0,.int .u8 0,.int .u8 0,.int .u8 0] 30)).setRow x13.heap.size E7=x14 at N14 KB7 M7 M8 N12 N13 ⊢
  clear hv A BB
  generalize x13.heap.size=g14 at N14 ⊢
  rw[←E5e.out]at H5 H6
  rw[←E6e.out,←E7e.out]at H4
  clear E5e E6e E7e HR7 HR8 HCO HCO2 hCz hCz2 U6z U6o
  have HLd:Hid (∀wx,Below x14.heap.size x14 wx→Lies wx g7 U 30∧Lies wx g8 U2 30∧Lies wx g12 E5 30∧Lies wx g13 E6 30∧Lies wx g14 E7 30):=fun wx h=>⟨M7.out.below h M7.out.lt,M8.out.below h M8.out.lt,N12.out.below h N12.out.lt,N13.out.below h N13.out.lt,N14.out.below h N14.out.lt⟩
  have HSB:Hid (∀wx,Below x14.heap.size x14 wx→Below w.heap.size w wx):=fun wx h=>KB7.out.trans (h.mono KB7.out.size)
  generalize hLl:txt p.l=Lt at H7 HL0
  clear hLl
  cases r2
  ·refine wp_region_late (fun wx=>Below x14.heap.size x14 wx) 39 (by kernel_rfl) (Below.refl _ x14).drew (fun hHeld=>?_)
   have k0:Below x14.heap.size x14 x14.drew:=(Below.refl _ x14).drew
   generalize x14.drew=W0 at hHeld k0 ⊢
   refine tk9 0 (some 91) (.agg U) ?_ (hy:=?hy)
   case hy=>(intro w' hSw;exact exec_load_row 30 _ rfl g7 rfl U 30 _ (HLd.out w' hSw).1 Tryz.underlying30 rfl (by rw[HUZ.out];exact infoBx))
   simp only[Act.put,pA,pB,pC]
   refine tk9 1 (some 92) (.agg U) ?_ (hy:=?hy)
   case hy=>(intro w' hSw;exact exec_load_row 30 _ rfl g7 rfl U 30 _ (HLd.out w' hSw).1 Tryz.underlying30 rfl (by rw[HUZ.out];exact infoBx))
   simp only[Act.put,pA,pB,pC]
   refine on9 2 ?_
   refine oper_call (some 93) 16 #[.agg U,.agg U] (fun v w'=>v=.bool true∧Below x14.heap.size x14 w') rfl (by go_simp) ((H1.out _ (HSB.out _ k0)).mono (fun e w' q=>⟨_,q.1,rfl,k0.trans (q.2.mono k0.size)⟩)) ?_
   rintro v z1_ ⟨rfl,k1_⟩
   refine⟨Or.inr k1_,?_⟩
   simp only[Act.put,pA,pB,pC]
   clear hHeld k0
   refine tk9 3 (some 94) (.bool true) ?_
   simp only[Act.put,pA,pB,pC]
   refine tk9 4 (some 95) (.agg U) ?_ (hy:=?hy)
   case hy=>(intro w' hSw;exact exec_load_row 30 _ rfl g7 rfl U 30 _ (HLd.out w' hSw).1 Tryz.underlying30 rfl (by rw[HUZ.out];exact infoBx))
   simp only[Act.put,pA,pB,pC]
   refine tk9 5 (some 96) (.agg U2) ?_ (hy:=?hy)
   case hy=>(intro w' hSw;exact exec_load_row 30 _ rfl g8 rfl U2 30 _ (HLd.out w' hSw).2.1 Tryz.underlying30 rfl (by rw[HUZ2.out];exact infoBx))
   simp only[Act.put,pA,pB,pC]
   refine on9 6 ?_
   refine oper_call (some 97) 16 #[.agg U,.agg U2] (fun v w'=>v=.bool true∧Below x14.heap.size x14 w') rfl (by go_simp) ((H2.out _ (HSB.out _ k1_)).mono (fun e w' q=>⟨_,q.1,rfl,k1_.trans (q.2.mono k1_.size)⟩)) ?_
   rintro v z2_ ⟨rfl,k2_⟩
   refine⟨Or.inr k2_,?_⟩
   simp only[Act.put,pA,pB,pC]
   clear k1_
   refine tk9 7 (some 98) (.bool true) ?_
   simp only[Act.put,pA,pB,pC]
   refine tk9 8 (some 99) (.bool true) ?_
   simp only[Act.put,pA,pB,pC]
   refine tk9 9 (some 100) (.agg U2) ?_ (hy:=?hy)
   case hy=>(intro w' hSw;exact exec_load_row 30 _ rfl g8 rfl U2 30 _ (HLd.out w' hSw).2.1 Tryz.underlying30 rfl (by rw[HUZ2.out];exact infoBx))
   simp only[Act.put,pA,pB,pC]
   refine tk9 10 (some 101) (.agg U) ?_ (hy:=?hy)
   case hy=>(intro w' hSw;exact exec_load_row 30 _ rfl g7 rfl U 30 _ (HLd.out w' hSw).1 Tryz.underlying30 rfl (by rw[HUZ.out];exact infoBx))
   simp only[Act.put,pA,pB,pC]
   refine on9 11 ?_
   refine oper_call (some 102) 16 #[.agg U2,.agg U] (fun v w'=>v=.bool true∧Below x14.heap.size x14 w') rfl (by go_simp) ((H3.out _ (HSB.out _ k2_)).mono (fun e w' q=>⟨_,q.1,rfl,k2_.trans (q.2.mono k2_.size)⟩)) ?_
   rintro v z3_ ⟨rfl,k3_⟩
   refine⟨Or.inr k3_,?_⟩
   simp only[Act.put,pA,pB,pC]
   clear k2_
   refine tk9 12 (some 103) (.bool true) ?_
   simp only[Act.put,pA,pB,pC]
   refine tk9 13 (some 104) (.bool true) ?_
   simp only[Act.put,pA,pB,pC]
   refine tk9 14 (some 105) (.agg E6) ?_ (hy:=?hy)
   case hy=>(intro w' hSw;exact exec_load_row 30 _ rfl g13 rfl E6 30 _ (HLd.out w' hSw).2.2.2.1 Tryz.underlying30 rfl (by rw[E6z.out];exact infoBx))
   simp only[Act.put,pA,pB,pC]
   refine tk9 15 (some 106) (.agg E7) ?_ (hy:=?hy)
   case hy=>(intro w' hSw;exact exec_load_row 30 _ rfl g14 rfl E7 30 _ (HLd.out w' hSw).2.2.2.2 Tryz.underlying30 rfl (by rw[E7z.out];exact infoBx))
   simp only[Act.put,pA,pB,pC]
   refine on9 16 ?_
   refine oper_call (some 107) 16 #[.agg E6,.agg E7] (fun v w'=>v=.bool true∧Below x14.heap.size x14 w') rfl (by go_simp) ((H4.out _ (HSB.out _ k3_)).mono (fun e w' q=>⟨_,q.1,rfl,k3_.trans (q.2.mono k3_.size)⟩)) ?_
   rintro v z4_ ⟨rfl,k4_⟩
   refine⟨Or.inr k4_,?_⟩
   simp only[Act.put,pA,pB,pC]
   clear k3_
   refine tk9 17 (some 108) (.bool true) ?_
   simp only[Act.put,pA,pB,pC]
   refine tk9 18 (some 109) (.bool true) ?_
   simp only[Act.put,pA,pB,pC]
   refine tk9 19 (some 110) (.agg U) ?_ (hy:=?hy)
   case hy=>(intro w' hSw;exact exec_load_row 30 _ rfl g7 rfl U 30 _ (HLd.out w' hSw).1 Tryz.underlying30 rfl (by rw[HUZ.out];exact infoBx))
   simp only[Act.put,pA,pB,pC]
   refine tk9 20 (some 111) (.agg E5) ?_ (hy:=?hy)
   case hy=>(intro w' hSw;exact exec_load_row 30 _ rfl g12 rfl E5 30 _ (HLd.out w' hSw).2.2.1 Tryz.underlying30 rfl (by rw[E5z.out];exact infoBx))
   simp only[Act.put,pA,pB,pC]
   refine tk9 22 (some 113) (.agg E5) ?_ (hy:=?hy)
   case hy=>(intro w' hSw;exact exec_load_row 30 _ rfl g12 rfl E5 30 _ (HLd.out w' hSw).2.2.1 Tryz.underlying30 rfl (by rw[E5z.out];exact infoBx))
   simp only[Act.put,pA,pB,pC]
   refine tk9 23 (some 114) (.agg U) ?_ (hy:=?hy)
   case hy=>(intro w' hSw;exact exec_load_row 30 _ rfl g7 rfl U 30 _ (HLd.out w' hSw).1 Tryz.underlying30 rfl (by rw[HUZ.out];exact infoBx))
   simp only[Act.put,pA,pB,pC]
   refine on9 21 ?_
   refine oper_call (some 112) 16 #[.agg U,.agg E5] (fun v w'=>v=.bool r1∧Below x14.heap.size x14 w') rfl (by go_simp) ((H5.out _ (HSB.out _ k4_)).mono (fun e w' q=>⟨_,q.1,rfl,k4_.trans (q.2.mono k4_.size)⟩)) ?_
   rintro v z5_ ⟨rfl,k5_⟩
   refine⟨Or.inr k5_,?_⟩
   simp only[Act.put,pA,pB,pC]
   clear k4_
   refine on9 24 ?_
   refine oper_call (some 115) 16 #[.agg E5,.agg U] (fun v w'=>v=.bool r1∧Below x14.heap.size x14 w') rfl (by go_simp) ((H6.out _ (HSB.out _ k5_)).mono (fun e w' q=>⟨_,q.1,rfl,k5_.trans (q.2.mono k5_.size)⟩)) ?_
   rintro v z6_ ⟨rfl,k6_⟩
   refine⟨Or.inr k6_,?_⟩
   simp only[Act.put,pA,pB,pC]
   clear k5_
   refine tk9 25 (some 116) (.bool true) ?_
   simp only[Act.put,pA,pB,pC]
   refine tk9 26 (some 117) (.bool true) ?_
   simp only[Act.put,pA,pB,pC]
   refine tk9 27 (some 118) (.bool true) ?_
   simp only[Act.put,pA,pB,pC]
   refine tk9 28 (some 119) (.string LT) ?_
   simp only[Act.put,pA,pB,pC]
   refine tk9 29 (some 120) (.pointer (some ⟨g7,0,none⟩)) ?_
   simp only[Act.put,pA,pB,pC]
   refine tk9 30 (some 121) (.string Lt) ?_ (hy:=?hy)
   case hy=>(intro w' hSw;have hq:=HL0.out w' (HLd.out w' hSw).1;go_simp<;>(first|with_reducible rfl|omega|skip))
   simp only[Act.put,pA,pB,pC]
   refine tk9 31 (some 122) (.bool true) ?_ (hy:=?hy)
   case hy=>(intro w' hSw;have hq:=H7.out;go_simp<;>(first|with_reducible rfl|omega|(simp[hq])|skip))
   simp only[Act.put,pA,pB,pC]
   refine tk9 32 (some 123) (.bool true) ?_
   simp only[Act.put,pA,pB,pC]
   refine wpAnyE_sk (i:=33) (d:=some 124) rfl (by kernel_rfl) (by kernel_rfl) (by kernel_rfl) rfl (fun _ _ _ h=>h) rfl rfl (by assumption) ?_
   simp only[Act.put,pA,pB,pC]
   refine wpAnyE_sk (i:=34) (d:=some 125) rfl (by kernel_rfl) (by kernel_rfl) (by kernel_rfl) rfl (fun _ _ _ h=>h) rfl rfl (by assumption) ?_
   simp only[Act.put,pA,pB,pC]
   refine wpAnyE_sk (i:=35) (d:=some 126) rfl (by kernel_rfl) (by kernel_rfl) (by kernel_rfl) rfl (fun _ _ _ h=>h) rfl rfl (by assumption) ?_
   simp only[Act.put,pA,pB,pC]
   refine tk9 36 (some 127) (.bool true) ?_
   simp only[Act.put,pA,pB,pC]
   refine tk9 37 (some 128) (.bool true) ?_
   simp only[Act.put,pA,pB,pC]
   refine tk9 38 (some 6) (.bool true) ?_
   simp only[Act.put,pA,pB,pC]
   refine wpAnyE_done (by kernel_rfl) ?_ _
   go_wp2_with fail
   go_ret
   exact⟨rfl,HSB.out _ k6_⟩
  ·have e1:=H8.out rfl
   subst e1
   refine wp_region_late (fun wx=>Below x14.heap.size x14 wx) 39 (by kernel_rfl) (Below.refl _ x14).drew (fun hHeld=>?_)
   have k0:Below x14.heap.size x14 x14.drew:=(Below.refl _ x14).drew
   generalize x14.drew=W0 at hHeld k0 ⊢
   refine tk9 0 (some 91) (.agg U) ?_ (hy:=?hy)
   case hy=>(intro w' hSw;exact exec_load_row 30 _ rfl g7 rfl U 30 _ (HLd.out w' hSw).1 Tryz.underlying30 rfl (by rw[HUZ.out];exact infoBx))
   simp only[Act.put,pA,pB,pC]
   refine tk9 1 (some 92) (.agg U) ?_ (hy:=?hy)
   case hy=>(intro w' hSw;exact exec_load_row 30 _ rfl g7 rfl U 30 _ (HLd.out w' hSw).1 Tryz.underlying30 rfl (by rw[HUZ.out];exact infoBx))
   simp only[Act.put,pA,pB,pC]
   refine on9 2 ?_
   refine oper_call (some 93) 16 #[.agg U,.agg U] (fun v w'=>v=.bool true∧Below x14.heap.size x14 w') rfl (by go_simp) ((H1.out _ (HSB.out _ k0)).mono (fun e w' q=>⟨_,q.1,rfl,k0.trans (q.2.mono k0.size)⟩)) ?_
   rintro v z1_ ⟨rfl,k1_⟩
   refine⟨Or.inr k1_,?_⟩
   simp only[Act.put,pA,pB,pC]
   clear hHeld k0
   refine tk9 3 (some 94) (.bool true) ?_
   simp only[Act.put,pA,pB,pC]
   refine tk9 4 (some 95) (.agg U) ?_ (hy:=?hy)
   case hy=>(intro w' hSw;exact exec_load_row 30 _ rfl g7 rfl U 30 _ (HLd.out w' hSw).1 Tryz.underlying30 rfl (by rw[HUZ.out];exact infoBx))
   simp only[Act.put,pA,pB,pC]
   refine tk9 5 (some 96) (.agg U2) ?_ (hy:=?hy)
   case hy=>(intro w' hSw;exact exec_load_row 30 _ rfl g8 rfl U2 30 _ (HLd.out w' hSw).2.1 Tryz.underlying30 rfl (by rw[HUZ2.out];exact infoBx))
   simp only[Act.put,pA,pB,pC]
   refine on9 6 ?_
   refine oper_call (some 97) 16 #[.agg U,.agg U2] (fun v w'=>v=.bool true∧Below x14.heap.size x14 w') rfl (by go_simp) ((H2.out _ (HSB.out _ k1_)).mono (fun e w' q=>⟨_,q.1,rfl,k1_.trans (q.2.mono k1_.size)⟩)) ?_
   rintro v z2_ ⟨rfl,k2_⟩
   refine⟨Or.inr k2_,?_⟩
   simp only[Act.put,pA,pB,pC]
   clear k1_
   refine tk9 7 (some 98) (.bool true) ?_
   simp only[Act.put,pA,pB,pC]
   refine tk9 8 (some 99) (.bool true) ?_
   simp only[Act.put,pA,pB,pC]
   refine tk9 9 (some 100) (.agg U2) ?_ (hy:=?hy)
   case hy=>(intro w' hSw;exact exec_load_row 30 _ rfl g8 rfl U2 30 _ (HLd.out w' hSw).2.1 Tryz.underlying30 rfl (by rw[HUZ2.out];exact infoBx))
   simp only[Act.put,pA,pB,pC]
   refine tk9 10 (some 101) (.agg U) ?_ (hy:=?hy)
   case hy=>(intro w' hSw;exact exec_load_row 30 _ rfl g7 rfl U 30 _ (HLd.out w' hSw).1 Tryz.underlying30 rfl (by rw[HUZ.out];exact infoBx))
   simp only[Act.put,pA,pB,pC]
   refine on9 11 ?_
   refine oper_call (some 102) 16 #[.agg U2,.agg U] (fun v w'=>v=.bool true∧Below x14.heap.size x14 w') rfl (by go_simp) ((H3.out _ (HSB.out _ k2_)).mono (fun e w' q=>⟨_,q.1,rfl,k2_.trans (q.2.mono k2_.size)⟩)) ?_
   rintro v z3_ ⟨rfl,k3_⟩
   refine⟨Or.inr k3_,?_⟩
   simp only[Act.put,pA,pB,pC]
   clear k2_
   refine tk9 12 (some 103) (.bool true) ?_
   simp only[Act.put,pA,pB,pC]
   refine tk9 13 (some 104) (.bool true) ?_
   simp only[Act.put,pA,pB,pC]
   refine tk9 14 (some 105) (.agg E6) ?_ (hy:=?hy)
   case hy=>(intro w' hSw;exact exec_load_row 30 _ rfl g13 rfl E6 30 _ (HLd.out w' hSw).2.2.2.1 Tryz.underlying30 rfl (by rw[E6z.out];exact infoBx))
   simp only[Act.put,pA,pB,pC]
   refine tk9 15 (some 106) (.agg E7) ?_ (hy:=?hy)
   case hy=>(intro w' hSw;exact exec_load_row 30 _ rfl g14 rfl E7 30 _ (HLd.out w' hSw).2.2.2.2 Tryz.underlying30 rfl (by rw[E7z.out];exact infoBx))
   simp only[Act.put,pA,pB,pC]
   refine on9 16 ?_
   refine oper_call (some 107) 16 #[.agg E6,.agg E7] (fun v w'=>v=.bool true∧Below x14.heap.size x14 w') rfl (by go_simp) ((H4.out _ (HSB.out _ k3_)).mono (fun e w' q=>⟨_,q.1,rfl,k3_.trans (q.2.mono k3_.size)⟩)) ?_
   rintro v z4_ ⟨rfl,k4_⟩
   refine⟨Or.inr k4_,?_⟩
   simp only[Act.put,pA,pB,pC]
   clear k3_
   refine tk9 17 (some 108) (.bool true) ?_
   simp only[Act.put,pA,pB,pC]
   refine tk9 18 (some 109) (.bool true) ?_
   simp only[Act.put,pA,pB,pC]
   refine tk9 19 (some 110) (.agg U) ?_ (hy:=?hy)
   case hy=>(intro w' hSw;exact exec_load_row 30 _ rfl g7 rfl U 30 _ (HLd.out w' hSw).1 Tryz.underlying30 rfl (by rw[HUZ.out];exact infoBx))
   simp only[Act.put,pA,pB,pC]
   refine tk9 20 (some 111) (.agg E5) ?_ (hy:=?hy)
   case hy=>(intro w' hSw;exact exec_load_row 30 _ rfl g12 rfl E5 30 _ (HLd.out w' hSw).2.2.1 Tryz.underlying30 rfl (by rw[E5z.out];exact infoBx))
   simp only[Act.put,pA,pB,pC]
   refine tk9 22 (some 113) (.agg E5) ?_ (hy:=?hy)
   case hy=>(intro w' hSw;exact exec_load_row 30 _ rfl g12 rfl E5 30 _ (HLd.out w' hSw).2.2.1 Tryz.underlying30 rfl (by rw[E5z.out];exact infoBx))
   simp only[Act.put,pA,pB,pC]
   refine tk9 23 (some 114) (.agg U) ?_ (hy:=?hy)
   case hy=>(intro w' hSw;exact exec_load_row 30 _ rfl g7 rfl U 30 _ (HLd.out w' hSw).1 Tryz.underlying30 rfl (by rw[HUZ.out];exact infoBx))
   simp only[Act.put,pA,pB,pC]
   refine on9 21 ?_
   refine oper_call (some 112) 16 #[.agg U,.agg E5] (fun v w'=>v=.bool true∧Below x14.heap.size x14 w') rfl (by go_simp) ((H5.out _ (HSB.out _ k4_)).mono (fun e w' q=>⟨_,q.1,rfl,k4_.trans (q.2.mono k4_.size)⟩)) ?_
   rintro v z5_ ⟨rfl,k5_⟩
   refine⟨Or.inr k5_,?_⟩
   simp only[Act.put,pA,pB,pC]
   clear k4_
   refine on9 24 ?_
   refine oper_call (some 115) 16 #[.agg E5,.agg U] (fun v w'=>v=.bool true∧Below x14.heap.size x14 w') rfl (by go_simp) ((H6.out _ (HSB.out _ k5_)).mono (fun e w' q=>⟨_,q.1,rfl,k5_.trans (q.2.mono k5_.size)⟩)) ?_
   rintro v z6_ ⟨rfl,k6_⟩
   refine⟨Or.inr k6_,?_⟩
   simp only[Act.put,pA,pB,pC]
   clear k5_
   refine tk9 25 (some 116) (.bool true) ?_
   simp only[Act.put,pA,pB,pC]
   refine tk9 26 (some 117) (.bool true) ?_
   simp only[Act.put,pA,pB,pC]
   refine tk9 27 (some 118) (.bool true) ?_
   simp only[Act.put,pA,pB,pC]
   refine tk9 28 (some 119) (.string LT) ?_
   simp only[Act.put,pA,pB,pC]
   refine tk9 29 (some 120) (.pointer (some ⟨g7,0,none⟩)) ?_
   simp only[Act.put,pA,pB,pC]
   refine tk9 30 (some 121) (.string Lt) ?_ (hy:=?hy)
   case hy=>(intro w' hSw;have hq:=HL0.out w' (HLd.out w' hSw).1;go_simp<;>(first|with_reducible rfl|omega|skip))
   simp only[Act.put,pA,pB,pC]
   refine tk9 31 (some 122) (.bool false) ?_ (hy:=?hy)
   case hy=>(intro w' hSw;have hq:=H7.out;go_simp<;>(first|with_reducible rfl|omega|(simp[hq])|skip))
   simp only[Act.put,pA,pB,pC]
   refine tk9 32 (some 123) (.bool false) ?_
   simp only[Act.put,pA,pB,pC]
   refine tk9 33 (some 124) (.agg U) ?_ (hy:=?hy)
   case hy=>(intro w' hSw;exact exec_load_row 30 _ rfl g7 rfl U 30 _ (HLd.out w' hSw).1 Tryz.underlying30 rfl (by rw[HUZ.out];exact infoBx))
   simp only[Act.put,pA,pB,pC]
   refine tk9 34 (some 125) (.agg E5) ?_ (hy:=?hy)
   case hy=>(intro w' hSw;exact exec_load_row 30 _ rfl g12 rfl E5 30 _ (HLd.out w' hSw).2.2.1 Tryz.underlying30 rfl (by rw[E5z.out];exact infoBx))
   simp only[Act.put,pA,pB,pC]
   refine on9 35 ?_
   refine oper_call (some 126) 16 #[.agg U,.agg E5] (fun v w'=>v=.bool true∧Below x14.heap.size x14 w') rfl (by go_simp) ((H5.out _ (HSB.out _ k6_)).mono (fun e w' q=>⟨_,q.1,rfl,k6_.trans (q.2.mono k6_.size)⟩)) ?_
   rintro v z7_ ⟨rfl,k7_⟩
   refine⟨Or.inr k7_,?_⟩
   simp only[Act.put,pA,pB,pC]
   clear k6_
   refine tk9 36 (some 127) (.bool true) ?_
   simp only[Act.put,pA,pB,pC]
   refine tk9 37 (some 128) (.bool true) ?_
   simp only[Act.put,pA,pB,pC]
   refine tk9 38 (some 6) (.bool true) ?_
   simp only[Act.put,pA,pB,pC]
   refine wpAnyE_done (by kernel_rfl) ?_ _
   go_wp2_with fail
   go_ret
   exact⟨rfl,HSB.out _ k7_⟩
theorem walk (L S:ByteArray) (a:List Nat) (k:Int) (sp:Option Addr) (rt:List ByteArray) (cap:Nat) {w:World} (b:(a.length=16∧∀n∈a,n<256)∧Sts w sp rt∧rt.length≤maxLen) (s:L.data.toList.length≤140737488351232∧S.data.toList.length≤140737488351232∧∀t∈rt,t.size≤140737488351232) (LT:ByteArray) (sl:LT.size≤140737488351232) (mask:Int) (bm:0≤mask∧mask≤18446744073709551615) (ht:Td w∧10≤w.heap.size):
  Calls Tryz.prog 6 #[.agg (rawC L.data.toList S.data.toList a k (.slice sp rt.length cap)),.string LT,.int .u64 mask] w fun e w'=>e=.returned (.bool true)∧Below w.heap.size w w':=by
 obtain⟨⟨ha,hb⟩,hst,hrl⟩:=b
 obtain⟨s1,s2,s3⟩:=s
 have HT:∀wx,Below w.heap.size w wx→Td wx∧10≤wx.heap.size:=fun wx hb=>⟨ht.1.below hb,Nat.le_trans ht.2 hb.size⟩
 have hz:(rawC L.data.toList S.data.toList a k (.slice sp rt.length cap)).size=20:=by
  unfold rawC
  have hz:(bytesV a).size=16:=by rw[bytesV_size,ha]
  simp only[Array.size_append,hz]
  rfl
 obtain⟨p,hpp⟩:∃p,p=madeP (Int.tmod k 4) a S.data.toList L.data.toList (rt.map (·.data.toList)):=⟨_,rfl⟩
 have mk:=made_ok (Int.tmod k 4) a ha hb S.data.toList L.data.toList (rt.map (·.data.toList)) true
 rw[←hpp]at mk
 obtain⟨ok,hc,_⟩:=mk
 have hin:=ckP_in ok hc
 have hph:p.h=hostM (Int.tmod k 4) a S.data.toList L.data.toList:=by rw[hpp];rfl
 obtain⟨ok2,q1,q2,q3⟩:=hostK_is asciiL (fun i=>decide (Int.tmod (mask / 2 ^ (i % 64)) 2=1)) (Int.tmod k 4) a ha hb S.data.toList L.data.toList
 rw[←hph]at ok2 q1 q2 q3
 have hi1:=hin.nm
 have hi2:=hin.loc
 have hi3:(hostK (fun i=>decide (Int.tmod (mask / 2 ^ (i % 64)) 2=1)) p.h).n.length≤1000:=by
  unfold hostK
  split
  ·rw[capL_len]
   exact hi1
  ·exact hi1
 have hlt:LT=txt LT.data.toList:=by unfold txt;simp
 have hll:LT.data.toList.length≤140737488351232:=by rw[Array.length_toList];exact sl
 have hsm:∀(l m:List UInt8) (x y:Ho),x.Ok→y.Ok→l.length≤140737488351232→m.length≤140737488351232→x.n.length≤1000→y.n.length≤1000→∀wx,Below w.heap.size w wx→Calls Tryz.prog 16 #[.agg (boxC l x),.agg (boxC m y)] wx fun e w'=>e=.returned (.bool (sameM asciiL l x m y))∧Below wx.heap.size wx w':=
  fun l m x y o1 o2 l1 l2 n1 n2 wx hx=>psame_any l m x y o1 o2 (by omega) (by omega) (by omega) (by omega) wx ⟨(HT wx hx).1.tb,(HT wx hx).1.pow,(HT wx hx).1.ml⟩
 have self:∀(l:List UInt8) {x y:Ho},same asciiL x y=true→sameM asciiL l x l y=true:=fun l x y h=>by
  rw[sameM_of h,decide_eq_true rfl]
  rfl
 refine walkW _ hz p hin (fun i=>decide (Int.tmod (mask / 2 ^ (i % 64)) 2=1)) LT mask bm (fun i=>rfl) (sameM asciiL p.l p.h LT.data.toList (hostK (fun i=>decide (Int.tmod (mask / 2 ^ (i % 64)) 2=1)) p.h)) (decide (LT.data.toList=p.l)) w (fun wx hx=>head_any wx (HT wx hx).1 (HT wx hx).2) (fun wx hx=>?_) (fun wx hx=>?_) (fun wx hx=>?_) (fun wx hx=>?_) (fun wx hx=>?_) (fun wx hx=>?_) (fun wx hx=>?_) ?_ (fun hr=>?_)
 ·rw[hpp]
  exact made_any _ _ a k sp rt cap ha (by omega) (by omega) wx (hst.below hx) hrl (fun t htt=>Nat.le_trans (s3 t htt) (by omega))
 ·have:=hsm p.l p.l p.h p.h ok.2 ok.2 (by omega) (by omega) hi1 hi1 wx hx
  rw[self _ q1]at this
  exact this
 ·have:=hsm p.l p.l p.h _ ok.2 ok2 (by omega) (by omega) hi1 hi3 wx hx
  rw[self _ q2]at this
  exact this
 ·have:=hsm p.l p.l _ p.h ok2 ok.2 (by omega) (by omega) hi3 hi1 wx hx
  rw[self _ q3]at this
  exact this
 ·have:=hsm [112,111,115,116,77,65,83,84,69,82] [80,111,115,116,109,97,115,116,101,114] p.h _ ok.2 ok2 (by decide) (by decide) hi1 hi3 wx hx
  rw[sameM_of q2,show(decide (([112,111,115,116,77,65,83,84,69,82]:List UInt8)=[80,111,115,116,109,97,115,116,101,114])||(decide (sml [112,111,115,116,77,65,83,84,69,82]=sml pmL)&&decide (sml [80,111,115,116,109,97,115,116,101,114]=sml pmL)))=true from by decide]at this
  exact this
 ·have:=hsm p.l LT.data.toList p.h _ ok.2 ok2 (by omega) hll hi1 hi3 wx hx
  unfold boxC at this ⊢
  rw[←hlt]at this
  exact this
 ·have:=hsm LT.data.toList p.l _ p.h ok2 ok.2 hll (by omega) hi3 hi1 wx hx
  rw[←sameM_turn q2 q3]at this
  unfold boxC at this ⊢
  rw[←hlt]at this
  exact this
 ·show _=_
  rw[ByteArray.toList_eq,ByteArray.toList_eq,txt_list,Bool.eq_iff_iff,beq_iff_eq,decide_eq_true_eq]
 ·have:=of_decide_eq_true hr
  rw[this]
  exact self _ q2
set_option maxRecDepth 100000 in
theorem contract (H:Type) (enc:TypeId×Value→H) (W:World) (base:Nat) (args:Array Value) (ds gs:List (DataW H)) (before:List MemPlace)
  (hval:∀(j:Nat) t v,Tryz.f6.params[j]?=some t→args[j]?=some v→Value.okWide Tryz.prog W .any base t v)
  (hW:DataW.Whole enc Tryz.prog Tryz.f6.params.toList Rows.pathAlikeSpec.vars false W args.toList ds gs before)
  (hsz:(DataW.weightsEach Tryz.prog (Tryz.f6.params.toList++(OpenSpec.ofChange Rows.pathAlikeSpec).bare.plain.varTypes Tryz.prog) (ds++gs)).all (· ≤reachBytes)=true)
  (hL:laidMetH Tryz.prog Rows.pathAlikeRow.laid W) (hsh:W.ShapedOpen Tryz.prog):
  Calls Tryz.prog 6 args W fun e W'=>∃v,e=.returned v∧Rows.pathAlikeSpec.post enc Tryz.prog Tryz.f6 false true false false W args v W':=by
 have hW':=hW
 obtain⟨p,q,hA0,hV,rfl,hfz,hnd⟩:=hW
 have hA:DataW.TrodAll enc Tryz.prog W 0 (fun _=>true) true Tryz.f6.params.toList args.toList ds p:=hA0
 rw[Tryz.params6]at hA hval hsz
 obtain⟨v0,vs0,d0,ds0,p0,q0,hargs,rfl,rfl,h0,r0⟩:=trodAll_cons hA
 obtain⟨v1,vs1,d1,ds1,p1,q1,rfl,rfl,rfl,h1,r1⟩:=trodAll_cons r0
 obtain⟨v2,vs2,d2,ds2,p2,q2,rfl,rfl,rfl,h2,r2⟩:=trodAll_cons r1
 obtain⟨rfl,rfl,rfl⟩:=trodAll_nil r2
 obtain rfl:args=#[v0,v1,v2]:=by cases args;simp_all
 obtain⟨rfl,rfl⟩:=trodVars_none hV
 have k0:=h0
 have lt0:∀x∈p0,x.block<W.heap.size:=by obtain⟨m,hm⟩:=k0;exact DataW.trod_lt m _ _ _ hm
 obtain⟨L0,S0,a0,n0,sp0,rt0,cap0,rfl,b0,e0⟩:=open_raw (hval 0 45 v0 rfl rfl) h0
 obtain⟨a1,rfl,rfl,rfl,w1⟩:=open_string Tryz.underlying9 (hval 1 9 v1 rfl rfl) h1
 obtain⟨a2,rfl,rfl,rfl,w2⟩:=open_int Tryz.underlying53 (hval 2 53 v2 rfl rfl) h2
 have b2:=bounds_u64 w2
 clear hA0
 have s0:=raw_size (j:=0) hsz rfl rfl e0
 have s1:=sized_string hsz (j:=1) (t:=9) rfl rfl
 simp only[reachBytes,Array.length_toList]at s1
 refine(walk L0 S0 a0 n0 sp0 rt0 cap0 b0 s0 a1 s1 a2 b2 (tabs9_of hL hsh)).mono fun e W' ⟨he,bel⟩=>?_
 subst he
 exact⟨_,rfl,_,_,_,[],_,[],hW',trodAll_mk1 (shut_bool Tryz.underlying4 _),trodAll_cons_mk (Below.trod laidOut (by kernel_rfl) (of_decide_eq_true (by kernel_rfl)) k0 bel lt0) (trodAll_cons_mk (shut_string Tryz.underlying9 w1) (trodAll_cons_mk (shut_int Tryz.underlying53 w2) trodAll_mk0)),rfl,bel.frame _,fun h=>by cases h⟩
set_option maxRecDepth 100000 in
theorem laid_met (os:Os):laidMet Tryz.prog Rows.pathAlikeRow.laid ((laidWorld9 os).forCall (fun _ _=>0) ⟨#[],#[.agg #[.string ByteArray.empty,.string ByteArray.empty,.int .u8 0,.int .u8 0,.int .u8 0,.int .u8 0,.int .u8 0,.int .u8 0,.int .u8 0,.int .u8 0,.int .u8 0,.int .u8 0,.int .u8 0,.int .u8 0,.int .u8 0,.int .u8 0,.int .u8 0,.int .u8 0,.int .i64 0,.slice none 0 0],.string ByteArray.empty,.int .u64 0],[]⟩).memory:=
 laidMet_of_run' 8 (by kernel_rfl) (by kernel_rfl)
set_option maxRecDepth 100000 in
theorem reads (os:Os) {H:Type} (enc:TypeId×Value→H):∃places,DataW.whole enc Tryz.prog ((laidWorld9 os).forCall (fun _ _=>0) ⟨#[],#[.agg #[.string ByteArray.empty,.string ByteArray.empty,.int .u8 0,.int .u8 0,.int .u8 0,.int .u8 0,.int .u8 0,.int .u8 0,.int .u8 0,.int .u8 0,.int .u8 0,.int .u8 0,.int .u8 0,.int .u8 0,.int .u8 0,.int .u8 0,.int .u8 0,.int .u8 0,.int .i64 0,.slice none 0 0],.string ByteArray.empty,.int .u64 0],[]⟩).memory Tryz.f6.params.toList Rows.pathAlikeSpec.vars false #[Value.agg #[.string ByteArray.empty,.string ByteArray.empty,.int .u8 0,.int .u8 0,.int .u8 0,.int .u8 0,.int .u8 0,.int .u8 0,.int .u8 0,.int .u8 0,.int .u8 0,.int .u8 0,.int .u8 0,.int .u8 0,.int .u8 0,.int .u8 0,.int .u8 0,.int .u8 0,.int .i64 0,.slice none 0 0],Value.string ByteArray.empty,Value.int .u64 0].toList 8=some ([.agg [.lit (.string []),.lit (.string []),.agg [.lit (.int .u8 0),.lit (.int .u8 0),.lit (.int .u8 0),.lit (.int .u8 0),.lit (.int .u8 0),.lit (.int .u8 0),.lit (.int .u8 0),.lit (.int .u8 0),.lit (.int .u8 0),.lit (.int .u8 0),.lit (.int .u8 0),.lit (.int .u8 0),.lit (.int .u8 0),.lit (.int .u8 0),.lit (.int .u8 0),.lit (.int .u8 0)],.lit (.int .i64 0),.nil],.lit (.string []),.lit (.int .u64 0)],[],places):=
 ⟨[],by kernel_rfl⟩
set_option maxRecDepth 100000 in
theorem lifted (os:Os) (started:os.Started) (H:Type) (enc:TypeId×Value→H) (F:Stop.Interp):
  ReturnsInHanded {} Tryz.checked os 6 .any ((OpenSpec.ofChange Rows.pathAlikeSpec).preRow enc Tryz.prog Tryz.f6 Rows.pathAlikeRow.domain false Rows.pathAlikeRow.laid) (((OpenSpec.ofChange Rows.pathAlikeSpec).at F).post enc Tryz.prog Tryz.f6 false true false false):=by
 obtain⟨places,hx⟩:=reads os enc
 refine returnsInHanded_of_row (C:=Tryz.checked) (s:=OpenSpec.ofChange Rows.pathAlikeSpec) own started (by kernel_rfl) Tryz.func6
  (witness_row_at (enc:=enc) (C:=Tryz.checked) false (laidWorld9 os) #[.agg #[.string ByteArray.empty,.string ByteArray.empty,.int .u8 0,.int .u8 0,.int .u8 0,.int .u8 0,.int .u8 0,.int .u8 0,.int .u8 0,.int .u8 0,.int .u8 0,.int .u8 0,.int .u8 0,.int .u8 0,.int .u8 0,.int .u8 0,.int .u8 0,.int .u8 0,.int .i64 0,.slice none 0 0],.string ByteArray.empty,.int .u64 0] rfl (by kernel_rfl) (by kernel_rfl) (by kernel_rfl)
   (OpenSpec.preRow_of_cond 8 hx (by kernel_rfl) (fun k hk=>by cases hk) (by kernel_rfl) (laid_met os))) ?_
 intro W base args ds gs before hval hW _ _ hsz hL hsh _
 exact contract H enc W base args ds gs before hval hW hsz hL hsh
theorem said:Rows.PathAlikeSaid:=
 OpenClaim.holds_of_cond 6 Tryz.f6 rfl rfl rfl rfl rfl rfl rfl ⟨rfl,rfl,rfl,rfl,rfl⟩ rfl rfl rfl rfl rfl (by kernel_rfl) Tryz.func6 (by kernel_rfl)
  (of_decide_eq_true (by kernel_rfl)) (by unfold Func.isWrapper;first|(rw[if_pos (by decide+kernel)];kernel_rfl)|(rw[if_neg (by decide+kernel)];exact⟨rfl,rfl⟩))
  (fun os started H enc _ F=>by rw[OpenClaim.pre_eq_preRow];exact lifted os started H enc F)
theorem plain (f:FuncId) (fn:Func) (hf:Tryz.pinned.checked.prog.funcNamed "posthorn/posthornlaw09.PathAlike"=some f) (hfn:Tryz.pinned.checked.prog.funcs[f]?=some fn):
  true=Tryz.pinned.checked.prog.looks []∧∀(j:Nat) t,fn.params[j]?=some t→Tryz.pinned.checked.prog.wantsStandIn t=false:=by
 obtain rfl:f=6:=Option.some.inj ((show Tryz.prog.funcNamed "posthorn/posthornlaw09.PathAlike"=some 6 by kernel_rfl).symm.trans hf) |>.symm
 obtain rfl:fn=Tryz.f6:=(Option.some.inj (Tryz.func6.symm.trans hfn)).symm
 refine⟨by kernel_rfl,fun j t ht=>?_⟩
 rw[Tryz.params6]at ht
 have hm:t∈[45,9,53]:=by simpa using Array.mem_of_getElem? ht
 have hall:([45,9,53].all fun u=>!Tryz.prog.wantsStandIn u)=true:=by kernel_rfl
 exact(show Tryz.prog.wantsStandIn t=false by simpa using List.all_eq_true.1 hall t hm)
theorem card:Rows.PathAlikeCardSaid:=
 Claim7.holds_tied_plain_at .later [] _ _ _ _ said (fun _ h=>by cases h) (by kernel_rfl) (fun _ h=>by cases h) pathAlike_row_tie rfl ⟨rfl,rfl⟩ (by kernel_rfl) rfl plain (by kernel_rfl)
end Go.Proofs.YtfjpkfhbmldmfabGreatDoor.pathAlike
namespace Go.Proofs.YtfjpkfhbmldmfabGreatDoor
theorem pathAlike_card:Rows.PathAlikeCardSaid:=pathAlike.card
#print axioms pathAlike_card
end Go.Proofs.YtfjpkfhbmldmfabGreatDoor
