/-
  The document's Same.
-/
import Derived.Test.YtfjpkfhbmldmfaaGreatDoorRx8
import Derived.Test.YtfjpkfhbmldmfaaGreatDoorDmW
import Derived.Test.YtfjpkfhbmldmfaaGreatDoorXy9
import Derived.Test.YtfjpkfhbmldmfaaGreatDoorProg
import Derived.WalkKit
import Derived.WalkSpells
import Derived.Below
import Derived.Laws.IdiomStrings
import Derived.Deep.QuietTactic
import Derived.BigQuiet
import Derived.Test.YtfjpkfhbmldmfaaGreatDoorWt8
namespace Go.Proofs.YtfjpkfhbmldmfaaGreatDoor
open Go.RowKit
set_option maxHeartbeats 16000000 in
set_option maxRecDepth 100000 in
theorem rsm_any (VA VB XA XB:Array Value) (a b x y:Ho) (hVA:VA=hostC a) (hVB:VB=hostC b) (hXA:XA=hostC x) (hXB:XB=hostC y) (hla:a.a.length=16) (hlb:b.a.length=16) (hlx:x.a.length=16) (hly:y.a.length=16) (sa:a.n.length≤140737488351232) (sb:b.n.length≤140737488351232) (ca cb ea eb:Nat) (r:Bool) (w:World)
  (HCA:Hid (∀wx,Below w.heap.size w wx→Calls Tryz.prog 70 #[.agg VA,.bool true] wx fun e w'=>e=.returned (.int .i64 (ca:Nat))∧Below wx.heap.size wx w')) (HCB:Hid (∀wx,Below w.heap.size w wx→Calls Tryz.prog 70 #[.agg VB,.bool true] wx fun e w'=>e=.returned (.int .i64 (cb:Nat))∧Below wx.heap.size wx w'))
  (HAA:Hid (∀wx,Below w.heap.size w wx→Calls Tryz.prog 82 #[.agg VA] wx fun e w'=>e=.returned (.tuple #[.agg XA,.int .i64 (ea:Nat)])∧Below wx.heap.size wx w')) (HAB:Hid (∀wx,Below w.heap.size w wx→Calls Tryz.prog 82 #[.agg VB] wx fun e w'=>e=.returned (.tuple #[.agg XB,.int .i64 (eb:Nat)])∧Below wx.heap.size wx w'))
  (HF:Hid (¬(ca=0∧cb=0∧a.k=b.k)→r=false)) (HG:Hid (ca=0∧cb=0∧a.k=b.k→r=if ea=0∧eb=0 then decide (x=y) else decide (sml a.n=sml b.n))):
  Calls Tryz.prog 55 #[.agg VA,.agg VB] w fun e w'=>e=.returned (.bool r)∧Below w.heap.size w w':=by
 have za:VA.size=18:=by rw[hVA];exact hostC_size a hla
 have zb:VB.size=18:=by rw[hVB];exact hostC_size b hlb
 have zx:XA.size=18:=by rw[hXA];exact hostC_size x hlx
 have zy:XB.size=18:=by rw[hXB];exact hostC_size y hly
 have ox:Hid (XA.all (·.oneCell')=true∧(#[.int .i64 0,.string ⟨#[]⟩,.int .u8 0,.int .u8 0,.int .u8 0,.int .u8 0,.int .u8 0,.int .u8 0,.int .u8 0,.int .u8 0,.int .u8 0,.int .u8 0,.int .u8 0,.int .u8 0,.int .u8 0,.int .u8 0,.int .u8 0,.int .u8 0]:Array Value).size=XA.size):=⟨by rw[hXA];exact hostC_one x,by rw[zx];rfl⟩
 have oy:Hid (XB.all (·.oneCell')=true∧(#[.int .i64 0,.string ⟨#[]⟩,.int .u8 0,.int .u8 0,.int .u8 0,.int .u8 0,.int .u8 0,.int .u8 0,.int .u8 0,.int .u8 0,.int .u8 0,.int .u8 0,.int .u8 0,.int .u8 0,.int .u8 0,.int .u8 0,.int .u8 0,.int .u8 0]:Array Value).size=XB.size):=⟨by rw[hXB];exact hostC_one y,by rw[zy];rfl⟩
 have EX:Hid (XA=hostC x):=hXA
 have EY:Hid (XB=hostC y):=hXB
 obtain⟨ka,hka⟩:∃k,k=a.k:=⟨_,rfl⟩
 obtain⟨kb,hkb⟩:∃k,k=b.k:=⟨_,rfl⟩
 obtain⟨SA,hSA⟩:∃S:ByteArray,S=⟨a.n.toArray⟩:=⟨_,rfl⟩
 obtain⟨SB,hSB⟩:∃S:ByteArray,S=⟨b.n.toArray⟩:=⟨_,rfl⟩
 have HA0:Hid (VA[0]?=some (.int .i64 ka)):=by rw[hVA,hka];rfl
 have HB0:Hid (VB[0]?=some (.int .i64 kb)):=by rw[hVB,hkb];rfl
 have HA1:Hid (VA[1]?=some (.string SA)):=by rw[hVA,hSA];rfl
 have HB1:Hid (VB[1]?=some (.string SB)):=by rw[hVB,hSB];rfl
 have HSA:Hid (∀wx,Below w.heap.size w wx→Calls Tryz.prog 83 #[.string SA] wx fun e w'=>e=.returned (.string ⟨(sml a.n).toArray⟩)∧Below wx.heap.size wx w'):=fun wx _=>by
  have:=rsmall_any SA wx (by unfold maxLen;rw[hSA];show a.n.toArray.size≤_;rw[List.size_toArray];omega)
  unfold smS at this
  rw[hSA,str_list]at this
  rw[hSA]
  exact this
 have HSB:Hid (∀wx,Below w.heap.size w wx→Calls Tryz.prog 83 #[.string SB] wx fun e w'=>e=.returned (.string ⟨(sml b.n).toArray⟩)∧Below wx.heap.size wx w'):=fun wx _=>by
  have:=rsmall_any SB wx (by unfold maxLen;rw[hSB];show b.n.toArray.size≤_;rw[List.size_toArray];omega)
  unfold smS at this
  rw[hSB,str_list]at this
  rw[hSB]
  exact this
 have HSE:Hid (((⟨(sml a.n).toArray⟩:ByteArray).toList==(⟨(sml b.n).toArray⟩:ByteArray).toList)=decide (sml a.n=sml b.n)):=by
  show _=_
  rw[ByteArray.toList_eq,ByteArray.toList_eq,str_list,str_list,Bool.eq_iff_iff]
  simp
 rw[←hka,←hkb]at HF HG
 have L1:Hid (Lies ((w.alloc (.cells VA 25)).alloc (.cells VB 25)) w.heap.size VA 25):=(Lies.new w _ _).alloc _
 have L2:Hid (Lies ((w.alloc (.cells VA 25)).alloc (.cells VB 25)) (w.heap.size+1) VB 25):=new_one w _ _ _
 have KB:Hid (Below w.heap.size w ((w.alloc (.cells VA 25)).alloc (.cells VB 25))):=((Below.refl _ _).alloc (Nat.le_refl _) _).alloc (by simp) _
 generalize (⟨(sml a.n).toArray⟩:ByteArray)=TA at HSA HSE
 generalize (⟨(sml b.n).toArray⟩:ByteArray)=TB at HSB HSE
 generalize decide (sml a.n=sml b.n)=q at HG HSE
 clear hVA hVB hXA hXB hka hkb hSA hSB sa sb
 go_enter Tryz.func55,Tryz.ntmps55
 go_upto_region 1 with fail
 generalize (w.alloc (.cells VA 25)).alloc (.cells VB 25)=v0 at L1 L2 KB ⊢
 go_wp2_with (first|(refine wpList_load_rowG (by rfl) 25 _ rfl (w.heap.size) rfl VA 25 _ L1.out Tryz.underlying25 rfl (by rw[za];exact infoHo) ?_))
 refine Calls.mono (HCA.out _ KB.out) ?_
 rintro e y1 ⟨rfl,hc⟩
 have KB1:Hid (Below w.heap.size w y1):=KB.out.trans ((hc).mono KB.out.size)
 have L1n:Hid (Lies y1 (w.heap.size) VA 25):=L1.out.below (hc) L1.out.lt
 clear L1
 have L1:=L1n
 clear L1n
 have L2n:Hid (Lies y1 (w.heap.size+1) VB 25):=L2.out.below (hc) L2.out.lt
 clear L2
 have L2:=L2n
 clear L2n
 clear KB
 clear hc
 by_cases hca:ca=0
 case neg=>
  have hcb1:((ca:Int) != 0)=true:=by rw[bne_iff_ne];omega
  have HR:Hid (r=false):=HF.out fun h=>hca h.1
  clear hca
  go_wp2_with fail
  go_ret
  exact⟨by rw[HR.out];rfl,KB1.out⟩
 have hc1:((ca:Int) != 0)=false:=by rw[hca];rfl
 go_wp2_with (first|(refine wpList_load_rowG (by rfl) 25 _ rfl (w.heap.size+1) rfl VB 25 _ L2.out Tryz.underlying25 rfl (by rw[zb];exact infoHo) ?_))
 refine Calls.mono (HCB.out _ KB1.out) ?_
 rintro e y2 ⟨rfl,hc⟩
 have KB2:Hid (Below w.heap.size w y2):=KB1.out.trans ((hc).mono KB1.out.size)
 have L1n:Hid (Lies y2 (w.heap.size) VA 25):=L1.out.below (hc) L1.out.lt
 clear L1
 have L1:=L1n
 clear L1n
 have L2n:Hid (Lies y2 (w.heap.size+1) VB 25):=L2.out.below (hc) L2.out.lt
 clear L2
 have L2:=L2n
 clear L2n
 clear KB1
 clear hc
 by_cases hcb:cb=0
 case neg=>
  have hcb1:((cb:Int) != 0)=true:=by rw[bne_iff_ne];omega
  have HR:Hid (r=false):=HF.out fun h=>hcb h.2.1
  clear hcb hca
  go_wp2_with fail
  go_ret
  exact⟨by rw[HR.out];rfl,KB2.out⟩
 have hc2:((cb:Int) != 0)=false:=by rw[hcb];rfl
 have c0:y2.cell? ⟨w.heap.size,0,none⟩=some (.int .i64 ka):=by rw[L1.out.cell 0,HA0.out]
 have c1:y2.cell? ⟨w.heap.size+1,0,none⟩=some (.int .i64 kb):=by rw[L2.out.cell 0,HB0.out]
 by_cases hkk:ka=kb
 case neg=>
  have hkb1:(ka != kb)=true:=by rw[bne_iff_ne];exact hkk
  have HR:Hid (r=false):=HF.out fun h=>hkk h.2.2
  clear hkk hca hcb
  go_wp2_with fail
  go_ret
  exact⟨by rw[HR.out];rfl,KB2.out⟩
 have hkb1:(ka != kb)=false:=by rw[bne,hkk];simp
 have HR:Hid (r=if ea=0∧eb=0 then decide (x=y) else q):=HG.out ⟨hca,hcb,hkk⟩
 clear hkk hca hcb
 go_upto_region 3 with fail
 clear hc1 hc2 hkb1 c1 c0 HF HG
 go_wp2_with (first|(refine wpList_load_rowG (by rfl) 25 _ rfl (w.heap.size) rfl VA 25 _ L1.out Tryz.underlying25 rfl (by rw[za];exact infoHo) ?_))
 refine Calls.mono (HAA.out _ KB2.out) ?_
 rintro e y3 ⟨rfl,hc⟩
 have KB3:Hid (Below w.heap.size w y3):=KB2.out.trans ((hc).mono KB2.out.size)
 have L1n:Hid (Lies y3 (w.heap.size) VA 25):=L1.out.below (hc) L1.out.lt
 clear L1
 have L1:=L1n
 clear L1n
 have L2n:Hid (Lies y3 (w.heap.size+1) VB 25):=L2.out.below (hc) L2.out.lt
 clear L2
 have L2:=L2n
 clear L2n
 clear KB2
 clear hc
 have A:Hid (Lies (y3.alloc (.cells #[.int .i64 0,.string ⟨#[]⟩,.int .u8 0,.int .u8 0,.int .u8 0,.int .u8 0,.int .u8 0,.int .u8 0,.int .u8 0,.int .u8 0,.int .u8 0,.int .u8 0,.int .u8 0,.int .u8 0,.int .u8 0,.int .u8 0,.int .u8 0,.int .u8 0] 25)) y3.heap.size #[.int .i64 0,.string ⟨#[]⟩,.int .u8 0,.int .u8 0,.int .u8 0,.int .u8 0,.int .u8 0,.int .u8 0,.int .u8 0,.int .u8 0,.int .u8 0,.int .u8 0,.int .u8 0,.int .u8 0,.int .u8 0,.int .u8 0,.int .u8 0,.int .u8 0] 25):=Lies.new y3 _ _
 have M1:Hid (Lies ((y3.alloc (.cells #[.int .i64 0,.string ⟨#[]⟩,.int .u8 0,.int .u8 0,.int .u8 0,.int .u8 0,.int .u8 0,.int .u8 0,.int .u8 0,.int .u8 0,.int .u8 0,.int .u8 0,.int .u8 0,.int .u8 0,.int .u8 0,.int .u8 0,.int .u8 0,.int .u8 0] 25)).setRow y3.heap.size XA) y3.heap.size XA 25):=A.out.row _
 have BB:Hid (Below y3.heap.size y3 ((y3.alloc (.cells #[.int .i64 0,.string ⟨#[]⟩,.int .u8 0,.int .u8 0,.int .u8 0,.int .u8 0,.int .u8 0,.int .u8 0,.int .u8 0,.int .u8 0,.int .u8 0,.int .u8 0,.int .u8 0,.int .u8 0,.int .u8 0,.int .u8 0,.int .u8 0,.int .u8 0] 25)).setRow y3.heap.size XA)):=below_row ((Below.refl _ _).alloc (Nat.le_refl _) _) (Nat.le_refl _) _
 have KB4:Hid (Below w.heap.size w ((y3.alloc (.cells #[.int .i64 0,.string ⟨#[]⟩,.int .u8 0,.int .u8 0,.int .u8 0,.int .u8 0,.int .u8 0,.int .u8 0,.int .u8 0,.int .u8 0,.int .u8 0,.int .u8 0,.int .u8 0,.int .u8 0,.int .u8 0,.int .u8 0,.int .u8 0,.int .u8 0] 25)).setRow y3.heap.size XA)):=KB3.out.trans ((BB.out).mono KB3.out.size)
 have L1n:Hid (Lies ((y3.alloc (.cells #[.int .i64 0,.string ⟨#[]⟩,.int .u8 0,.int .u8 0,.int .u8 0,.int .u8 0,.int .u8 0,.int .u8 0,.int .u8 0,.int .u8 0,.int .u8 0,.int .u8 0,.int .u8 0,.int .u8 0,.int .u8 0,.int .u8 0,.int .u8 0,.int .u8 0] 25)).setRow y3.heap.size XA) (w.heap.size) VA 25):=L1.out.below (BB.out) L1.out.lt
 clear L1
 have L1:=L1n
 clear L1n
 have L2n:Hid (Lies ((y3.alloc (.cells #[.int .i64 0,.string ⟨#[]⟩,.int .u8 0,.int .u8 0,.int .u8 0,.int .u8 0,.int .u8 0,.int .u8 0,.int .u8 0,.int .u8 0,.int .u8 0,.int .u8 0,.int .u8 0,.int .u8 0,.int .u8 0,.int .u8 0,.int .u8 0,.int .u8 0] 25)).setRow y3.heap.size XA) (w.heap.size+1) VB 25):=L2.out.below (BB.out) L2.out.lt
 clear L2
 have L2:=L2n
 clear L2n
 clear KB3
 go_upto_region 4 with(refine wpList_store_row rfl 25 _ _ rfl y3.heap.size rfl _ XA rfl 25 A.out (by rw[zx];exact infoHo) ox.out.2 ox.out.1 rfl ?_)
 generalize hv1:(y3.alloc (.cells #[.int .i64 0,.string ⟨#[]⟩,.int .u8 0,.int .u8 0,.int .u8 0,.int .u8 0,.int .u8 0,.int .u8 0,.int .u8 0,.int .u8 0,.int .u8 0,.int .u8 0,.int .u8 0,.int .u8 0,.int .u8 0,.int .u8 0,.int .u8 0,.int .u8 0] 25)).setRow y3.heap.size XA=v1 at M1 KB4 L1 L2 ⊢
 clear hv1 A BB
 go_wp2_with (first|(refine wpList_load_rowG (by rfl) 25 _ rfl (w.heap.size+1) rfl VB 25 _ L2.out Tryz.underlying25 rfl (by rw[zb];exact infoHo) ?_))
 refine Calls.mono (HAB.out _ KB4.out) ?_
 rintro e y4 ⟨rfl,hc⟩
 have KB5:Hid (Below w.heap.size w y4):=KB4.out.trans ((hc).mono KB4.out.size)
 have L1n:Hid (Lies y4 (w.heap.size) VA 25):=L1.out.below (hc) L1.out.lt
 clear L1
 have L1:=L1n
 clear L1n
 have L2n:Hid (Lies y4 (w.heap.size+1) VB 25):=L2.out.below (hc) L2.out.lt
 clear L2
 have L2:=L2n
 clear L2n
 have M1n:Hid (Lies y4 (y3.heap.size) XA 25):=M1.out.below (hc) M1.out.lt
 clear M1
 have M1:=M1n
 clear M1n
 clear KB4
 clear hc
 have A:Hid (Lies (y4.alloc (.cells #[.int .i64 0,.string ⟨#[]⟩,.int .u8 0,.int .u8 0,.int .u8 0,.int .u8 0,.int .u8 0,.int .u8 0,.int .u8 0,.int .u8 0,.int .u8 0,.int .u8 0,.int .u8 0,.int .u8 0,.int .u8 0,.int .u8 0,.int .u8 0,.int .u8 0] 25)) y4.heap.size #[.int .i64 0,.string ⟨#[]⟩,.int .u8 0,.int .u8 0,.int .u8 0,.int .u8 0,.int .u8 0,.int .u8 0,.int .u8 0,.int .u8 0,.int .u8 0,.int .u8 0,.int .u8 0,.int .u8 0,.int .u8 0,.int .u8 0,.int .u8 0,.int .u8 0] 25):=Lies.new y4 _ _
 have M2:Hid (Lies ((y4.alloc (.cells #[.int .i64 0,.string ⟨#[]⟩,.int .u8 0,.int .u8 0,.int .u8 0,.int .u8 0,.int .u8 0,.int .u8 0,.int .u8 0,.int .u8 0,.int .u8 0,.int .u8 0,.int .u8 0,.int .u8 0,.int .u8 0,.int .u8 0,.int .u8 0,.int .u8 0] 25)).setRow y4.heap.size XB) y4.heap.size XB 25):=A.out.row _
 have BB:Hid (Below y4.heap.size y4 ((y4.alloc (.cells #[.int .i64 0,.string ⟨#[]⟩,.int .u8 0,.int .u8 0,.int .u8 0,.int .u8 0,.int .u8 0,.int .u8 0,.int .u8 0,.int .u8 0,.int .u8 0,.int .u8 0,.int .u8 0,.int .u8 0,.int .u8 0,.int .u8 0,.int .u8 0,.int .u8 0] 25)).setRow y4.heap.size XB)):=below_row ((Below.refl _ _).alloc (Nat.le_refl _) _) (Nat.le_refl _) _
 have KB6:Hid (Below w.heap.size w ((y4.alloc (.cells #[.int .i64 0,.string ⟨#[]⟩,.int .u8 0,.int .u8 0,.int .u8 0,.int .u8 0,.int .u8 0,.int .u8 0,.int .u8 0,.int .u8 0,.int .u8 0,.int .u8 0,.int .u8 0,.int .u8 0,.int .u8 0,.int .u8 0,.int .u8 0,.int .u8 0] 25)).setRow y4.heap.size XB)):=KB5.out.trans ((BB.out).mono KB5.out.size)
 have L1n:Hid (Lies ((y4.alloc (.cells #[.int .i64 0,.string ⟨#[]⟩,.int .u8 0,.int .u8 0,.int .u8 0,.int .u8 0,.int .u8 0,.int .u8 0,.int .u8 0,.int .u8 0,.int .u8 0,.int .u8 0,.int .u8 0,.int .u8 0,.int .u8 0,.int .u8 0,.int .u8 0,.int .u8 0] 25)).setRow y4.heap.size XB) (w.heap.size) VA 25):=L1.out.below (BB.out) L1.out.lt
 clear L1
 have L1:=L1n
 clear L1n
 have L2n:Hid (Lies ((y4.alloc (.cells #[.int .i64 0,.string ⟨#[]⟩,.int .u8 0,.int .u8 0,.int .u8 0,.int .u8 0,.int .u8 0,.int .u8 0,.int .u8 0,.int .u8 0,.int .u8 0,.int .u8 0,.int .u8 0,.int .u8 0,.int .u8 0,.int .u8 0,.int .u8 0,.int .u8 0] 25)).setRow y4.heap.size XB) (w.heap.size+1) VB 25):=L2.out.below (BB.out) L2.out.lt
 clear L2
 have L2:=L2n
 clear L2n
 have M1n:Hid (Lies ((y4.alloc (.cells #[.int .i64 0,.string ⟨#[]⟩,.int .u8 0,.int .u8 0,.int .u8 0,.int .u8 0,.int .u8 0,.int .u8 0,.int .u8 0,.int .u8 0,.int .u8 0,.int .u8 0,.int .u8 0,.int .u8 0,.int .u8 0,.int .u8 0,.int .u8 0,.int .u8 0] 25)).setRow y4.heap.size XB) (y3.heap.size) XA 25):=M1.out.below (BB.out) M1.out.lt
 clear M1
 have M1:=M1n
 clear M1n
 clear KB5
 go_upto_region 5 with(refine wpList_store_row rfl 25 _ _ rfl y4.heap.size rfl _ XB rfl 25 A.out (by rw[zy];exact infoHo) oy.out.2 oy.out.1 rfl ?_)
 generalize hv2:(y4.alloc (.cells #[.int .i64 0,.string ⟨#[]⟩,.int .u8 0,.int .u8 0,.int .u8 0,.int .u8 0,.int .u8 0,.int .u8 0,.int .u8 0,.int .u8 0,.int .u8 0,.int .u8 0,.int .u8 0,.int .u8 0,.int .u8 0,.int .u8 0,.int .u8 0,.int .u8 0] 25)).setRow y4.heap.size XB=v2 at M2 KB6 L1 L2 M1 ⊢
 clear hv2 A BB
 go_upto_region 5 with fail
 by_cases hee:ea=0∧eb=0
 case pos=>
  have e1:((ea:Int) != 0)=false:=by rw[hee.1];rfl
  have e2:((eb:Int) != 0)=false:=by rw[hee.2];rfl
  have HR2:Hid (r=decide (x=y)):=by show _=_;rw[HR.out,if_pos hee]
  clear hee HR
  go_upto_region 7 with fail
  refine wp_region_lit ?_
  refine wpList_load_rowG (by rfl) 25 _ rfl (y3.heap.size) rfl XA 25 _ M1.out Tryz.underlying25 rfl (by rw[zx];exact infoHo) ?_
  simp only[Act.put,pA,pB,pC]
  refine wpList_load_rowG (by rfl) 25 _ rfl (y4.heap.size) rfl XB 25 _ M2.out Tryz.underlying25 rfl (by rw[zy];exact infoHo) ?_
  simp only[Act.put,pA,pB,pC]
  refine wpList_yieldG (.bool r) (by rfl) ?hy ?_
  case hy=>
   refine Eq.trans (exec_eql_host _ _ _ rfl x y ?_ ?_ hlx hly) (by rw[HR2.out])
   ·(show Value.agg XA=_;rw[EX.out];rfl)
   ·(show Value.agg XB=_;rw[EY.out];rfl)
  simp only[Act.put,pA,pB,pC]
  refine wpList_yieldG ?_ (by rfl) ?hy ?_
  case hy=>(go_simp<;>(first|with_reducible rfl|omega|skip))
  simp only[Act.put,pA,pB,pC]
  refine wpList_nil ?_
  go_wp2
  go_ret
  exact⟨rfl,KB6.out⟩
 have HR2:Hid (r=q):=by show _=_;rw[HR.out,if_neg hee]
 by_cases h1:ea=0
 case neg=>
  have e1:((ea:Int) != 0)=true:=by rw[bne_iff_ne];omega
  clear h1 hee HR
  go_upto_region 6 with fail
  refine wp_region_late (fun wx=>Below v2.heap.size v2 wx) 8 (by kernel_rfl) (Below.refl _ v2).drew (fun hHeld=>?_)
  refine tk9 0 (some 40) _ ?_
  simp only[Act.put,pA,pB,pC]
  refine tk9 1 (some 41) (.string SA) ?_ (hy:=?hy)
  case hy=>
   intro w' hSw
   (try dsimp only at hSw)
   have cc:w'.cell? ⟨w.heap.size,1,none⟩=some (.string SA):=by rw[(L1.out.below hSw L1.out.lt).cell 1,HA1.out]
   go_simp<;>(first|with_reducible rfl|omega|skip)
  simp only[Act.put,pA,pB,pC]
  refine tk9 3 (some 43) _ ?_
  simp only[Act.put,pA,pB,pC]
  refine tk9 4 (some 44) (.string SB) ?_ (hy:=?hy)
  case hy=>
   intro w' hSw
   (try dsimp only at hSw)
   have cc:w'.cell? ⟨w.heap.size+1,1,none⟩=some (.string SB):=by rw[(L2.out.below hSw L2.out.lt).cell 1,HB1.out]
   go_simp<;>(first|with_reducible rfl|omega|skip)
  simp only[Act.put,pA,pB,pC]
  refine on9 2 ?_
  go_simp
  refine Calls.mono (HSA.out _ (KB6.out.trans (((Below.refl _ v2).drew).mono KB6.out.size))) ?_
  rintro e y1 ⟨rfl,hc1⟩
  have hx1:Below v2.heap.size v2 y1:=((Below.refl _ v2).drew).trans hc1
  refine⟨hx1,?_⟩
  clear hc1
  refine on9 5 ?_
  go_simp
  refine Calls.mono (HSB.out _ (KB6.out.trans ((hx1).mono KB6.out.size))) ?_
  rintro e y2 ⟨rfl,hc2⟩
  have hx2:Below v2.heap.size v2 y2:=hx1.trans (hc2.mono hx1.size)
  refine⟨hx2,?_⟩
  clear hc2
  refine tk9 6 (some 46) (.bool q) ?_ (hy:=?hy)
  case hy=>(intro w' hSw;(try dsimp only at hSw);go_simp;rw[HSE.out])
  simp only[Act.put,pA,pB,pC]
  refine tk9 7 (some 4) _ ?_
  simp only[Act.put,pA,pB,pC]
  refine wpAnyE_done (by kernel_rfl) ?_ _
  have KB3:Hid (Below w.heap.size w y2):=KB6.out.trans ((hx2).mono KB6.out.size)
  have L1n:Hid (Lies y2 (w.heap.size) VA 25):=L1.out.below (hx2) L1.out.lt
  clear L1
  have L1:=L1n
  clear L1n
  have L2n:Hid (Lies y2 (w.heap.size+1) VB 25):=L2.out.below (hx2) L2.out.lt
  clear L2
  have L2:=L2n
  clear L2n
  have hb3:Hid (Below v2.heap.size v2 y2):=hx2
  clear hHeld hx1 hx2 KB6
  go_wp2
  go_ret
  exact⟨by rw[HR2.out];rfl,KB3.out⟩
 case pos=>
  have e1:((ea:Int) != 0)=false:=by rw[h1];rfl
  have e2:((eb:Int) != 0)=true:=by rw[bne_iff_ne];omega
  clear h1 hee HR
  go_upto_region 6 with fail
  refine wp_region_late (fun wx=>Below v2.heap.size v2 wx) 8 (by kernel_rfl) (Below.refl _ v2).drew (fun hHeld=>?_)
  refine tk9 0 (some 40) _ ?_
  simp only[Act.put,pA,pB,pC]
  refine tk9 1 (some 41) (.string SA) ?_ (hy:=?hy)
  case hy=>
   intro w' hSw
   (try dsimp only at hSw)
   have cc:w'.cell? ⟨w.heap.size,1,none⟩=some (.string SA):=by rw[(L1.out.below hSw L1.out.lt).cell 1,HA1.out]
   go_simp<;>(first|with_reducible rfl|omega|skip)
  simp only[Act.put,pA,pB,pC]
  refine tk9 3 (some 43) _ ?_
  simp only[Act.put,pA,pB,pC]
  refine tk9 4 (some 44) (.string SB) ?_ (hy:=?hy)
  case hy=>
   intro w' hSw
   (try dsimp only at hSw)
   have cc:w'.cell? ⟨w.heap.size+1,1,none⟩=some (.string SB):=by rw[(L2.out.below hSw L2.out.lt).cell 1,HB1.out]
   go_simp<;>(first|with_reducible rfl|omega|skip)
  simp only[Act.put,pA,pB,pC]
  refine on9 2 ?_
  go_simp
  refine Calls.mono (HSA.out _ (KB6.out.trans (((Below.refl _ v2).drew).mono KB6.out.size))) ?_
  rintro e y1 ⟨rfl,hc1⟩
  have hx1:Below v2.heap.size v2 y1:=((Below.refl _ v2).drew).trans hc1
  refine⟨hx1,?_⟩
  clear hc1
  refine on9 5 ?_
  go_simp
  refine Calls.mono (HSB.out _ (KB6.out.trans ((hx1).mono KB6.out.size))) ?_
  rintro e y2 ⟨rfl,hc2⟩
  have hx2:Below v2.heap.size v2 y2:=hx1.trans (hc2.mono hx1.size)
  refine⟨hx2,?_⟩
  clear hc2
  refine tk9 6 (some 46) (.bool q) ?_ (hy:=?hy)
  case hy=>(intro w' hSw;(try dsimp only at hSw);go_simp;rw[HSE.out])
  simp only[Act.put,pA,pB,pC]
  refine tk9 7 (some 4) _ ?_
  simp only[Act.put,pA,pB,pC]
  refine wpAnyE_done (by kernel_rfl) ?_ _
  have KB3:Hid (Below w.heap.size w y2):=KB6.out.trans ((hx2).mono KB6.out.size)
  have L1n:Hid (Lies y2 (w.heap.size) VA 25):=L1.out.below (hx2) L1.out.lt
  clear L1
  have L1:=L1n
  clear L1n
  have L2n:Hid (Lies y2 (w.heap.size+1) VB 25):=L2.out.below (hx2) L2.out.lt
  clear L2
  have L2:=L2n
  clear L2n
  have hb3:Hid (Below v2.heap.size v2 y2):=hx2
  clear hHeld hx1 hx2 KB6
  go_wp2
  go_ret
  exact⟨by rw[HR2.out];rfl,KB3.out⟩
theorem rsame_any (a b:Ho) (oka:a.Ok) (okb:b.Ok) (w:World) (hT:Tc w) (sa:a.n.length≤140737488351232) (sb:b.n.length≤140737488351232):
  Calls Tryz.prog 55 #[hostV a,hostV b] w fun e w'=>e=.returned (.bool (same asciiL a b))∧Below w.heap.size w w':=by
 have hl:∀x:Ho,x.Ok→(ascii asciiL x).1.a.length=16:=fun x okx=>by
  unfold ascii
  have:=okx.len
  split
  ·split
   ·split
    ·exact this
    ·rfl
   ·split
    ·exact this
    ·exact this
  ·rfl
 refine rsm_any _ _ _ _ a b (ascii asciiL a).1 (ascii asciiL b).1 rfl rfl rfl rfl oka.len okb.len (hl a oka) (hl b okb) sa sb (check a true) (check b true) (ascii asciiL a).2 (ascii asciiL b).2 (same asciiL a b) w (fun wx _=>rcheck_any a oka.len true wx sa) (fun wx _=>rcheck_any b okb.len true wx sb) (fun wx hx=>rascii_any a oka wx (hT.below hx) sa) (fun wx hx=>rascii_any b okb wx (hT.below hx) sb) (fun h=>?_) (fun h=>?_)
 ·cases hr:same asciiL a b
  ·rfl
  ·obtain⟨h1,h2,h3,_⟩:=(same_iff asciiL a b).1 hr
   exact absurd ⟨h2,h3,h1⟩ h
 ·unfold same
  rw[decide_eq_true h.1,decide_eq_true h.2.1,decide_eq_true h.2.2]
  rfl
open Go.RowKit
theorem own_back {w:World} {base:Nat} {v:Value} (l:List UInt8) (h:w.ownsRow base 5 1 v l.length (cellsB l)):
  (convert 98 9 v).run Tryz.prog w=.ok (.string ⟨l.toArray⟩) w:=by
 obtain⟨h1,h2⟩:=id h
 rcases h2 with⟨rfl,h0⟩|⟨g,cap,cur,rfl,_⟩
 ·have hl:l=[]:=List.eq_nil_of_length_eq_zero h0
  subst hl
  rw[run_convert_bytes_string w 98 9 5 none 0 0 Tryz.underlying98 Tryz.underlying5 Tryz.underlying9]
  simp[Conv.bytesToString]
  rfl
 ·refine run_convert_bytes_back (P:=Tryz.prog) w 98 9 5 ⟨g,0,none⟩ cap l Tryz.underlying98 Tryz.underlying5 Tryz.underlying9 (fun j hj=>?_)
  have:=h.cellAt j (by omega)
  rw[Addr.add_lit,Nat.zero_add,this]
  simp[cellsB,List.getElem?_eq_getElem hj]
open Go.RowKit
def upTo (x:Int) (k:Nat):Int:=if 97≤x∧x<97+(k:Int) then x - 32 else x
theorem upTo_zero (x:Int):upTo x 0=x:=if_neg (by omega)
theorem upTo_hit (x:Int) (k:Nat) (h:97+(k:Int)=x):upTo x (k+1)=65+(k:Int):=by
 unfold upTo;rw[if_pos (by omega)];omega
theorem upTo_miss (x:Int) (k:Nat) (h:¬97+(k:Int)=x):upTo x (k+1)=upTo x k:=by
 unfold upTo
 by_cases h1:97≤x∧x<97+(k:Int)
 ·rw[if_pos h1,if_pos (by omega)]
 ·rw[if_neg h1,if_neg (by omega)]
theorem upTo_all (b:UInt8):upTo (b.toNat:Int) 26=((upB b).toNat:Int):=by
 by_cases h:97≤b.toNat∧b.toNat≤122
 ·rw[upB_yes b h.1 h.2]
  unfold upTo
  rw[if_pos (by omega)]
  omega
 ·rw[upB_no b h]
  unfold upTo
  rw[if_neg (by omega)]
theorem small_fin:∀m:Fin 26,(((⟨#[97,98,99,100,101,102,103,104,105,106,107,108,109,110,111,112,113,114,115,116,117,118,119,120,121,122]⟩:ByteArray)[m.val]'m.isLt).toNat:Int)=97+(m.val:Int):=by decide
theorem cap_fin:∀m:Fin 26,(((⟨#[65,66,67,68,69,70,71,72,73,74,75,76,77,78,79,80,81,82,83,84,85,86,87,88,89,90]⟩:ByteArray)[m.val]'m.isLt).toNat:Int)=65+(m.val:Int):=by decide
theorem take_up (s:ByteArray) (k:Nat) (h:k<s.size):(upL s.data.toList).take (k+1)=(upL s.data.toList).take k++[upB s[k]]:=by
 rw[List.take_succ_eq_append_getElem (by simpa [upL] using h)]
 simp[upL]
 rfl
set_option maxRecDepth 100000 in
set_option maxHeartbeats 1000000 in
theorem rupper_any (s:ByteArray) (w:World) (hs:s.size≤140737488351232):
  Calls Tryz.prog 84 #[.string s] w fun e w'=>e=.returned (.string (upS s))∧Below w.heap.size w w':=by
 obtain⟨i0,hi,hz0,hz1,hz2⟩:=info_parts info5
 go_enter Tryz.func84,Tryz.ntmps84
 go_wp2
 go_loopw [3,4] (fun v i wr=>∃k:Nat,k≤s.size∧i=.int .i64 k∧Hid (wr.ownsRow w.heap.size 5 1 v ((upL s.data.toList).take k).length (cellsB ((upL s.data.toList).take k)))∧Hid (Below w.heap.size w wr)) (fun _ i _=>s.size - (intOf i).toNat)
 case atStart=>exact⟨0,Nat.zero_le _,rfl,World.ownsRow_nil _ _ _ _,Below.refl _ _⟩
 case round=>
  obtain⟨k,hk,rfl,HO,HB⟩:=hrel
  by_cases hlt:k<s.size
  ·go_wp2
   obtain⟨wo,rfl⟩:∃wo:World,wo=wr:=⟨_,rfl⟩
   go_loopw [5,6] (fun b j wi=>∃m:Nat,m≤26∧j=.int .i64 m∧b=.int .u8 (upTo (s[k].toNat:Int) m)∧Hid (∃n,wi=wo.drewN n)) (fun _ j _=>26 - (intOf j).toNat)
   case atStart=>exact⟨0,Nat.zero_le _,rfl,by rw[upTo_zero],0,rfl⟩
   case round=>
    obtain⟨m,hm,rfl,rfl,HD⟩:=hrel
    by_cases hm6:m<26
    ·have hsm:=small_fin ⟨m,hm6⟩
     have hcm:=cap_fin ⟨m,hm6⟩
     by_cases hx:97+(m:Int)=(s[k].toNat:Int)
     ·have HN:Hid (upTo (s[k].toNat:Int) (m+1)=65+(m:Int)):=upTo_hit _ _ hx
      have hb:(97+(m:Int)==(s[k].toNat:Int))=true:=by simpa using hx
      clear hx
      go_wp2_with fail
      go_quiet (fail)
      go_wp2
      go_roundw
      case rel=>exact⟨m+1,by omega,by go_num,by rw[HN.out],by obtain⟨n,hn⟩:=HD.out;exact⟨_,by rw[hn,World.drewN_drewN]⟩⟩
      case measure=>simp[intOf];omega
     ·have HN:Hid (upTo (s[k].toNat:Int) (m+1)=upTo (s[k].toNat:Int) m):=upTo_miss _ _ hx
      have hb:(97+(m:Int)==(s[k].toNat:Int))=false:=by simpa using hx
      clear hx
      go_wp2_with fail
      go_quiet (fail)
      go_wp2
      go_roundw
      case rel=>exact⟨m+1,by omega,by go_num,by rw[HN.out],by obtain⟨n,hn⟩:=HD.out;exact⟨_,by rw[hn,World.drewN_drewN]⟩⟩
      case measure=>simp[intOf];omega
    ·obtain rfl:m=26:=by omega
     obtain⟨n,hn⟩:=HD.out
     clear HD
     subst hn
     rw[upTo_all]
     have hown:(wo.drewN n).ownsRow w.heap.size 5 1 u3 ((upL s.data.toList).take k).length (cellsB ((upL s.data.toList).take k)):=HO.out
     have HB2:Hid (Below w.heap.size w (wo.drewN n)):=⟨HB.out.os,HB.out.tape,HB.out.output,HB.out.size,HB.out.block⟩
     have hlen:((upL s.data.toList).take k).length≤k:=List.length_take_le _ _
     have HT:Hid ((upL s.data.toList).take (k+1)=(upL s.data.toList).take k++[upB s[k]]):=take_up s k hlt
     obtain⟨wn,hwn⟩:∃wn,wn=wo.drewN n:=⟨_,rfl⟩
     rw[←hwn]at hown HB2
     rw[←hwn]
     clear hwn HO HB
     go_wp2_with (at_builtin;refine wpList_append_own _ rfl _ _ 98 rfl w.heap.size 5 i0 (.int .u8 0) 1 1 Tryz.underlying98 hi hz0 hz1 hz2 rfl (by decide) _ _ _ rfl (hown.alloc _) ⟨wn.heap.size,0,none⟩ 1 1 [.int .u8 ((upB s[k]).toNat:Int)] rfl rfl ?c1 ?c2 ?c3 ?c4 ?c5 ?_)
     case c1=>
      intro j u hj
      match j,hj with
      |0,hj=>simp at hj;subst hj;simp[Addr.add]
     case c2=>intro u hu;simp at hu;subst hu;rfl
     case c3=>unfold maxLen;omega
     case c4=>omega
     case c5=>have:=HB2.out.size;simp;omega
     intro v' w1 hown' hgrow _
     have R:Hid (w1.ownsRow w.heap.size 5 1 v' ((upL s.data.toList).take (k+1)).length (cellsB ((upL s.data.toList).take (k+1)))):=by
      show w1.ownsRow _ _ _ _ _ _
      rw[HT.out,List.length_append,List.length_take,cellsB_append]
      exact hown'
     have HB3:Hid (Below w.heap.size w w1):=(HB2.out.alloc HB2.out.size _).grown hgrow (by have:=HB2.out.size;simp;omega) (fun q hq=>(hown.lt q hq).1)
     clear hown' hgrow hown HB2 HT
     go_wp2
     go_roundw
     case rel=>exact⟨k+1,by omega,by go_num,R,HB3⟩
     case measure=>simp[intOf];omega
  ·obtain rfl:k=s.size:=by omega
   have e:(upL s.data.toList).take s.size=upL s.data.toList:=List.take_of_length_le (by simp[upL])
   rw[e]at HO
   have hback:=own_back (upL s.data.toList) HO.out
   clear HO e
   go_wp2
   go_ret
   exact⟨rfl,HB.out⟩
open Go.RowKit
set_option maxHeartbeats 400000 in
theorem rsamet_any (a b:ByteArray) (w:World) (ha:a.size≤140737488351232) (hb:b.size≤140737488351232):
  Calls Tryz.prog 56 #[.string a,.string b] w fun e w'=>e=.returned (.bool (sameB a b))∧Below w.heap.size w w':=by
 go_enter Tryz.func56,Tryz.ntmps56
 go_wp2_with fail
 refine(rupper_any a _ ha).mono ?_
 rintro e w1 ⟨rfl,hb1⟩
 go_wp2_with fail
 refine(rupper_any b _ hb).mono ?_
 rintro e w2 ⟨rfl,hb2⟩
 go_wp2
 go_ret
 exact⟨rfl,hb1.trans (hb2.mono hb1.size)⟩
end Go.Proofs.YtfjpkfhbmldmfaaGreatDoor
