/-
  The program's Check, Print, PrintBox.
-/
import Derived.Test.YtfjpkfhbmldmfaaGreatDoorXy9
import Derived.Test.YtfjpkfhbmldmfaaGreatDoorDec
import Derived.Test.YtfjpkfhbmldmfaaGreatDoorDmW
import Derived.Test.YtfjpkfhbmldmfaaGreatDoorQi9
import Derived.Test.YtfjpkfhbmldmfaaGreatDoorChk
import Derived.Test.YtfjpkfhbmldmfaaGreatDoorLate5
namespace Go.Proofs.YtfjpkfhbmldmfaaGreatDoor
open Go.RowKit
open Go.RowKit
theorem box_cellsP {w:World} {g:Nat} {l:List UInt8} {h:Ho} {V:Array Value} (hV:V=boxC l h) (hl:Lies w g V 27):w.cell? ⟨g,0,none⟩=some (.string (txt l))∧w.rangeAt g 1 (hostC h).toList:=by
 subst hV
 constructor
 ·rw[hl.cell 0]
  unfold boxC
  rw[Array.getElem?_append_left (by simp)]
  rfl
 ·intro j v hv
  rw[hl.cell (1+j)]
  unfold boxC
  rw[Array.getElem?_append_right (by simp)]
  simp only[List.size_toArray,List.length_cons,List.length_nil]
  rw[show 1+j - (0+1)=j from by omega]
  simpa using hv
set_option maxHeartbeats 4000000 in
set_option maxRecDepth 100000 in
theorem pism_any (l:List UInt8) (h:Ho) (hl:l.length≤140737488355328) (w:World):
  Calls Tryz.prog 54 #[.agg (boxC l h)] w fun e w'=>e=.returned (.bool (decide (sml l=sml pmL)))∧Below w.heap.size w w':=by
 obtain⟨V,hV⟩:∃V,V=boxC l h:=⟨_,rfl⟩
 rw[←hV]
 have L1:Hid (Lies (w.alloc (.cells V 27)) w.heap.size V 27):=Lies.new w _ _
 have KB:Hid (Below w.heap.size w (w.alloc (.cells V 27))):=(Below.refl _ _).alloc (Nat.le_refl _) _
 obtain⟨T,hT⟩:∃T,T=txt l:=⟨_,rfl⟩
 have c0:(w.alloc (.cells V 27)).cell? ⟨w.heap.size,0,none⟩=some (.string T):=by rw[hT];exact(box_cellsP hV L1.out).1
 have HS:Hid (∀wx,Calls Tryz.prog 62 #[.string T,.string ⟨#[80,111,115,116,109,97,115,116,101,114]⟩] wx fun e w'=>e=.returned (.bool (decide (sml l=sml pmL)))∧Below wx.heap.size wx w'):=fun wx=>by
  have:=same_any T ⟨#[80,111,115,116,109,97,115,116,101,114]⟩ wx (by rw[hT,txt_size];unfold maxLen;omega) (by unfold maxLen;decide)
  have e:sameB T ⟨#[80,111,115,116,109,97,115,116,101,114]⟩=decide (sml l=sml pmL):=by
   rw[hT]
   exact sameB_sml l pmL
  rw[e]at this
  exact this
 generalize decide (sml l=sml pmL)=b at HS ⊢
 clear hV hT L1
 go_enter Tryz.func54,Tryz.ntmps54
 go_upto_region 1 with fail
 generalize w.alloc (.cells V 27)=v0 at c0 KB ⊢
 go_wp2_with fail
 refine(HS.out _).mono ?_
 rintro e w2 ⟨rfl,hb2⟩
 have KX:Hid (Below w.heap.size w w2):=KB.out.trans (hb2.mono KB.out.size)
 clear hb2 KB c0
 go_wp2_with fail
 go_ret
 exact⟨rfl,KX.out⟩
set_option maxHeartbeats 8000000 in
set_option maxRecDepth 100000 in
theorem psame_any (l l':List UInt8) (h h':Ho) (ok:h.Ok) (ok':h'.Ok) (hl:l.length≤140737488355328) (hl':l'.length≤140737488355328) (hn:h.n.length≤140737488355328) (hn':h'.n.length≤140737488355328) (w:World) (hT:Tc w):
  Calls Tryz.prog 29 #[.agg (boxC l h),.agg (boxC l' h')] w fun e w'=>e=.returned (.bool (sameM asciiL l h l' h'))∧Below w.heap.size w w':=by
 have hz:=boxC_size l h ok.len
 have hz':=boxC_size l' h' ok'.len
 have HI1:Hid (∀wx,Calls Tryz.prog 54 #[.agg (boxC l h)] wx fun e w'=>e=.returned (.bool (decide (sml l=sml pmL)))∧Below wx.heap.size wx w'):=fun wx=>pism_any l h hl wx
 have HI2:Hid (∀wx,Calls Tryz.prog 54 #[.agg (boxC l' h')] wx fun e w'=>e=.returned (.bool (decide (sml l'=sml pmL)))∧Below wx.heap.size wx w'):=fun wx=>pism_any l' h' hl' wx
 obtain⟨V,hV⟩:∃V,V=boxC l h:=⟨_,rfl⟩
 obtain⟨V',hV'⟩:∃V,V=boxC l' h':=⟨_,rfl⟩
 rw[←hV]at hz HI1 ⊢
 rw[←hV']at hz' HI2 ⊢
 have L1:Hid (Lies ((w.alloc (.cells V 27)).alloc (.cells V' 27)) w.heap.size V 27):=(Lies.new w _ _).alloc _
 have L2:Hid (Lies ((w.alloc (.cells V 27)).alloc (.cells V' 27)) (w.heap.size+1) V' 27):=new_one w _ _ _
 have KB:Hid (Below w.heap.size w ((w.alloc (.cells V 27)).alloc (.cells V' 27))):=((Below.refl _ _).alloc (Nat.le_refl _) _).alloc (by simp) _
 have HV:Hid (V=boxC l h):=hV
 have HV':Hid (V'=boxC l' h'):=hV'
 obtain⟨C,hC⟩:∃C,C=(hostC h).toList:=⟨_,rfl⟩
 obtain⟨C',hC'⟩:∃C,C=(hostC h').toList:=⟨_,rfl⟩
 have hCl1:C.length=18:=by rw[hC,Array.length_toList];exact hostC_size _ ok.len
 have hCl2:C'.length=18:=by rw[hC',Array.length_toList];exact hostC_size _ ok'.len
 have HSH:Hid (∀wx,Below w.heap.size w wx→Calls Tryz.prog 53 #[.agg C.toArray,.agg C'.toArray] wx fun e w'=>e=.returned (.bool (same asciiL h h'))∧Below wx.heap.size wx w'):=fun wx hx=>by
  rw[hC,hC',Array.toArray_toList,Array.toArray_toList]
  exact sme_any h h' ok ok' wx (hT.below hx) hn hn'
 obtain⟨T,hTt⟩:∃T,T=txt l:=⟨_,rfl⟩
 obtain⟨T',hTt'⟩:∃T,T=txt l':=⟨_,rfl⟩
 have HM:Hid (∀wx,Lies wx w.heap.size V 27→wx.cell? ⟨w.heap.size,0,none⟩=some (.string T)∧wx.rangeAt w.heap.size 1 C):=fun wx hx=>by rw[hTt,hC];exact box_cellsP HV.out hx
 have HM':Hid (∀wx,Lies wx (w.heap.size+1) V' 27→wx.cell? ⟨w.heap.size+1,0,none⟩=some (.string T')∧wx.rangeAt (w.heap.size+1) 1 C'):=fun wx hx=>by rw[hTt',hC'];exact box_cellsP HV'.out hx
 have HE:Hid ((T.toList==T'.toList)=decide (l=l')):=by
  show _=_
  rw[hTt,hTt',ByteArray.toList_eq,ByteArray.toList_eq,txt_list,txt_list,Bool.eq_iff_iff,beq_iff_eq,decide_eq_true_eq]
 have HR:Hid (sameM asciiL l h l' h'=(same asciiL h h'&&(decide (l=l')||(decide (sml l=sml pmL)&&decide (sml l'=sml pmL))))):=rfl
 generalize same asciiL h h'=b1 at HSH HR
 generalize decide (l=l')=b2 at HE HR
 generalize decide (sml l=sml pmL)=b3 at HI1 HR
 generalize decide (sml l'=sml pmL)=b4 at HI2 HR
 clear hV hV' hTt hTt' hC hC' hl hl' hn hn' ok ok' HV HV' hT
 go_enter Tryz.func29,Tryz.ntmps29
 go_upto_region 1 with fail
 generalize (w.alloc (.cells V 27)).alloc (.cells V' 27)=v0 at L1 L2 KB ⊢
 obtain⟨_,r1⟩:=HM.out v0 L1.out
 obtain⟨_,r2⟩:=HM'.out v0 L2.out
 have R1:Hid (v0.rangeAt w.heap.size 1 C):=r1
 have R2:Hid (v0.rangeAt (w.heap.size+1) 1 C'):=r2
 clear r1 r2
 go_wp2_with (first|(refine wpList_load_mid rfl 25 _ rfl w.heap.size 1 rfl C _ R1.out Tryz.underlying25 rfl (by rw[hCl1];exact infoHo) ?_)|(refine wpList_load_mid rfl 25 _ rfl (w.heap.size+1) 1 rfl C' _ R2.out Tryz.underlying25 rfl (by rw[hCl2];exact infoHo) ?_))
 refine(HSH.out _ KB.out).mono ?_
 rintro e w2 ⟨rfl,hb2⟩
 have K1:Hid (Lies w2 w.heap.size V 27):=L1.out.below hb2 L1.out.lt
 have K2:Hid (Lies w2 (w.heap.size+1) V' 27):=L2.out.below hb2 L2.out.lt
 have KX:Hid (Below w.heap.size w w2):=KB.out.trans (hb2.mono KB.out.size)
 clear hb2 L1 L2 KB HSH R1 R2
 cases b1
 ·go_wp2_with fail
  go_ret
  exact⟨by rw[HR.out];rfl,KX.out⟩
 ·have c1:=(HM.out w2 K1.out).1
  have c2:=(HM'.out w2 K2.out).1
  have he:=HE.out
  clear HE
  cases b2
  ·go_wp2_with (refine wpList_load_row9 (by rfl) 27 _ rfl (w.heap.size) rfl V 27 _ K1.out Tryz.underlying27 rfl (by rw[hz];exact infoBx) ?_)
   refine(HI1.out _).mono ?_
   rintro e w3 ⟨rfl,hb3⟩
   have K3:Hid (Lies w3 (w.heap.size+1) V' 27):=K2.out.below hb3 K2.out.lt
   have KY:Hid (Below w.heap.size w w3):=KX.out.trans (hb3.mono KX.out.size)
   clear hb3 K1 K2 KX c1 c2 HI1
   cases b3
   ·go_wp2_with fail
    go_ret
    exact⟨by rw[HR.out];rfl,KY.out⟩
   ·go_wp2_with (refine wpList_load_row9 (by rfl) 27 _ rfl (w.heap.size+1) rfl V' 27 _ K3.out Tryz.underlying27 rfl (by rw[hz'];exact infoBx) ?_)
    refine(HI2.out _).mono ?_
    rintro e w4 ⟨rfl,hb4⟩
    have KZ:Hid (Below w.heap.size w w4):=KY.out.trans (hb4.mono KY.out.size)
    clear hb4 KY K3 HI2
    go_wp2_with fail
    go_ret
    exact⟨by rw[HR.out];cases b4<;>rfl,KZ.out⟩
  ·go_wp2_with fail
   go_ret
   exact⟨by rw[HR.out];rfl,KX.out⟩
open Go.RowKit
def RSameH (f:List UInt8→List UInt8) (w:World):Prop:=∀(a b:Ho),a.Ok→b.Ok→a.n.length≤140737488351232→b.n.length≤140737488351232→∀wx,Below w.heap.size w wx→Calls Tryz.prog 55 #[hostV a,hostV b] wx fun e w'=>e=.returned (.bool (same f a b))∧Below wx.heap.size wx w'
def RSameT:Prop:=∀(x:ByteArray) (w:World),x.size≤140737488351232→Calls Tryz.prog 56 #[.string x,.string ⟨#[112,111,115,116,109,97,115,116,101,114]⟩] w fun e w'=>e=.returned (.bool (decide (sml x.data.toList=sml pmL)))∧Below w.heap.size w w'
theorem box_cells {w:World} {g:Nat} {l:List UInt8} {h:Ho} {V:Array Value} (hV:V=boxC l h) (hl:Lies w g V 27):w.cell? ⟨g,0,none⟩=some (.string (txt l))∧w.rangeAt g 1 (hostC h).toList:=by
 subst hV
 constructor
 ·rw[hl.cell 0]
  unfold boxC
  rw[Array.getElem?_append_left (by simp)]
  rfl
 ·intro j v hv
  rw[hl.cell (1+j)]
  unfold boxC
  rw[Array.getElem?_append_right (by simp)]
  simp only[List.size_toArray,List.length_cons,List.length_nil]
  rw[show 1+j - (0+1)=j from by omega]
  simpa using hv
set_option maxHeartbeats 8000000 in
set_option maxRecDepth 100000 in
theorem qsame_any (f:List UInt8→List UInt8) (l l':List UInt8) (h h':Ho) (ok:h.Ok) (ok':h'.Ok) (hl:l.length≤140737488351232) (hl':l'.length≤140737488351232) (hn:h.n.length≤140737488351232) (hn':h'.n.length≤140737488351232) (w:World) (hsh:RSameH f w) (hst:RSameT):
  Calls Tryz.prog 30 #[.agg (boxC l h),.agg (boxC l' h')] w fun e w'=>e=.returned (.bool (sameM f l h l' h'))∧Below w.heap.size w w':=by
 have hz:=boxC_size l h ok.len
 have hz':=boxC_size l' h' ok'.len
 obtain⟨V,hV⟩:∃V,V=boxC l h:=⟨_,rfl⟩
 obtain⟨V',hV'⟩:∃V,V=boxC l' h':=⟨_,rfl⟩
 rw[←hV]at hz ⊢
 rw[←hV']at hz' ⊢
 have L1:Hid (Lies ((w.alloc (.cells V 27)).alloc (.cells V' 27)) w.heap.size V 27):=(Lies.new w _ _).alloc _
 have L2:Hid (Lies ((w.alloc (.cells V 27)).alloc (.cells V' 27)) (w.heap.size+1) V' 27):=new_one w _ _ _
 have KB:Hid (Below w.heap.size w ((w.alloc (.cells V 27)).alloc (.cells V' 27))):=((Below.refl _ _).alloc (Nat.le_refl _) _).alloc (by simp) _
 have HV:Hid (V=boxC l h):=hV
 have HV':Hid (V'=boxC l' h'):=hV'
 obtain⟨C,hC⟩:∃C,C=(hostC h).toList:=⟨_,rfl⟩
 obtain⟨C',hC'⟩:∃C,C=(hostC h').toList:=⟨_,rfl⟩
 have hCl:C.length=18:=by rw[hC,Array.length_toList];exact hostC_size _ ok.len
 have hCl':C'.length=18:=by rw[hC',Array.length_toList];exact hostC_size _ ok'.len
 have HSH:Hid (∀wx,Below w.heap.size w wx→Calls Tryz.prog 55 #[.agg C.toArray,.agg C'.toArray] wx fun e w'=>e=.returned (.bool (same f h h'))∧Below wx.heap.size wx w'):=fun wx hx=>by
  rw[hC,hC',Array.toArray_toList,Array.toArray_toList]
  exact hsh h h' ok ok' hn hn' wx hx
 obtain⟨T,hT⟩:∃T,T=txt l:=⟨_,rfl⟩
 obtain⟨T',hT'⟩:∃T,T=txt l':=⟨_,rfl⟩
 have HT1:Hid (∀wx,Calls Tryz.prog 56 #[.string T,.string ⟨#[112,111,115,116,109,97,115,116,101,114]⟩] wx fun e w'=>e=.returned (.bool (decide (sml l=sml pmL)))∧Below wx.heap.size wx w'):=fun wx=>by
  have:=hst T wx (by rw[hT,txt_size];exact hl)
  rw[hT,txt_list]at this
  rw[hT]
  exact this
 have HT2:Hid (∀wx,Calls Tryz.prog 56 #[.string T',.string ⟨#[112,111,115,116,109,97,115,116,101,114]⟩] wx fun e w'=>e=.returned (.bool (decide (sml l'=sml pmL)))∧Below wx.heap.size wx w'):=fun wx=>by
  have:=hst T' wx (by rw[hT',txt_size];exact hl')
  rw[hT',txt_list]at this
  rw[hT']
  exact this
 have HM:Hid (∀wx,Lies wx w.heap.size V 27→wx.cell? ⟨w.heap.size,0,none⟩=some (.string T)∧wx.rangeAt w.heap.size 1 C):=fun wx hx=>by rw[hT,hC];exact box_cells HV.out hx
 have HM':Hid (∀wx,Lies wx (w.heap.size+1) V' 27→wx.cell? ⟨w.heap.size+1,0,none⟩=some (.string T')∧wx.rangeAt (w.heap.size+1) 1 C'):=fun wx hx=>by rw[hT',hC'];exact box_cells HV'.out hx
 have HE:Hid ((T.toList==T'.toList)=decide (l=l')):=by
  show _=_
  rw[hT,hT',ByteArray.toList_eq,ByteArray.toList_eq,txt_list,txt_list,Bool.eq_iff_iff,beq_iff_eq,decide_eq_true_eq]
 have HR:Hid (sameM f l h l' h'=(same f h h'&&(decide (l=l')||(decide (sml l=sml pmL)&&decide (sml l'=sml pmL))))):=rfl
 generalize same f h h'=b1 at HSH HR
 generalize decide (l=l')=b2 at HE HR
 generalize decide (sml l=sml pmL)=b3 at HT1 HR
 generalize decide (sml l'=sml pmL)=b4 at HT2 HR
 clear hV hV' hT hT' hC hC' hsh hst hl hl' hn hn' ok ok' HV HV'
 go_enter Tryz.func30,Tryz.ntmps30
 go_upto_region 1 with fail
 generalize (w.alloc (.cells V 27)).alloc (.cells V' 27)=v0 at L1 L2 KB ⊢
 obtain⟨_,r1⟩:=HM.out v0 L1.out
 obtain⟨_,r2⟩:=HM'.out v0 L2.out
 have R1:Hid (v0.rangeAt w.heap.size 1 C):=r1
 have R2:Hid (v0.rangeAt (w.heap.size+1) 1 C'):=r2
 clear r1 r2
 go_wp2_with (first|(refine wpList_load_mid rfl 25 _ rfl w.heap.size 1 rfl C _ R1.out Tryz.underlying25 rfl (by rw[hCl];exact infoHo) ?_)|(refine wpList_load_mid rfl 25 _ rfl (w.heap.size+1) 1 rfl C' _ R2.out Tryz.underlying25 rfl (by rw[hCl'];exact infoHo) ?_))
 refine(HSH.out _ KB.out).mono ?_
 rintro e w2 ⟨rfl,hb2⟩
 have K1:Hid (Lies w2 w.heap.size V 27):=L1.out.below hb2 L1.out.lt
 have K2:Hid (Lies w2 (w.heap.size+1) V' 27):=L2.out.below hb2 L2.out.lt
 have KX:Hid (Below w.heap.size w w2):=KB.out.trans (hb2.mono KB.out.size)
 clear hb2 L1 L2 KB HSH R1 R2
 cases b1
 ·go_wp2_with fail
  go_ret
  exact⟨by rw[HR.out];rfl,KX.out⟩
 ·have c1:=(HM.out w2 K1.out).1
  have c2:=(HM'.out w2 K2.out).1
  have he:=HE.out
  clear HE
  cases b2
  ·go_wp2_with fail
   refine(HT1.out _).mono ?_
   rintro e w3 ⟨rfl,hb3⟩
   have K3:Hid (Lies w3 (w.heap.size+1) V' 27):=K2.out.below hb3 K2.out.lt
   have KY:Hid (Below w.heap.size w w3):=KX.out.trans (hb3.mono KX.out.size)
   clear hb3 K1 K2 KX c1 c2 HT1
   have c3:=(HM'.out w3 K3.out).1
   cases b3
   ·go_wp2_with fail
    go_ret
    exact⟨by rw[HR.out];rfl,KY.out⟩
   ·go_wp2_with fail
    refine(HT2.out _).mono ?_
    rintro e w4 ⟨rfl,hb4⟩
    have KZ:Hid (Below w.heap.size w w4):=KY.out.trans (hb4.mono KY.out.size)
    clear hb4 KY K3 c3 HT2
    go_wp2_with fail
    go_ret
    exact⟨by rw[HR.out];cases b4<;>rfl,KZ.out⟩
  ·go_wp2_with fail
   go_ret
   exact⟨by rw[HR.out];rfl,KX.out⟩
def leadN (n:Nat):Int:=if n=2 then 192 else if n=3 then 224 else if n=4 then 240 else 0
def addX (x:Int) (c:UInt8):Int:=64*x+(c.toNat:Int) - 128
def mkX:List UInt8→Int
 |[]=>0
 |c::t=>t.foldl addX ((c.toNat:Int) - leadN (t.length+1))
def okX (b:List UInt8):Prop:=isR (mkX b)∧Lib.encodeRune (mkX b)=b
instance (b:List UInt8):Decidable (okX b):=by unfold okX;infer_instance
theorem mkX_enc (r:Int) (h:isR r):mkX (Lib.encodeRune r)=r:=by
 obtain⟨h0,h1,h2⟩:=h
 unfold Lib.encodeRune
 by_cases c1:r≤127
 ·rw[Lib.encodeRuneZ_one h0 c1]
  simp only[List.map_cons,List.map_nil,mkX,List.foldl_nil,List.length_nil,leadN,u8_of r h0 (by omega)]
  simp
  omega
 by_cases c2:r≤2047
 ·rw[Lib.encodeRuneZ_two (by omega) c2]
  have a1:=u8_of (192+r / 64) (by omega) (by omega)
  have a2:=u8_of (128+r % 64) (by omega) (by omega)
  simp only[List.map_cons,List.map_nil,mkX,List.foldl_cons,List.foldl_nil,List.length_cons,List.length_nil,addX,a1,a2,leadN]
  simp
  omega
 by_cases c3:r≤65535
 ·rw[Lib.encodeRuneZ_three (by omega)]
  have a1:=u8_of (224+r / 4096) (by omega) (by omega)
  have a2:=u8_of (128+r / 64 % 64) (by omega) (by omega)
  have a3:=u8_of (128+r % 64) (by omega) (by omega)
  simp only[List.map_cons,List.map_nil,mkX,List.foldl_cons,List.foldl_nil,List.length_cons,List.length_nil,addX,a1,a2,a3,leadN]
  simp
  omega
 ·rw[Lib.encodeRuneZ_four (by omega) (by omega)]
  have a1:=u8_of (240+r / 262144) (by omega) (by omega)
  have a2:=u8_of (128+r / 4096 % 64) (by omega) (by omega)
  have a3:=u8_of (128+r / 64 % 64) (by omega) (by omega)
  have a4:=u8_of (128+r % 64) (by omega) (by omega)
  simp only[List.map_cons,List.map_nil,mkX,List.foldl_cons,List.foldl_nil,List.length_cons,List.length_nil,addX,a1,a2,a3,a4,leadN]
  simp
  omega
theorem okX_one {l:List UInt8} {n:Nat} (hn:n≤l.length) (h:okX (l.take n)):oneN l=some (mkX (l.take n),n):=by
 obtain⟨h1,h2⟩:=h
 have:=oneN_enc (mkX (l.take n)) h1 (l.drop n)
 rw[h2,List.take_append_drop,List.length_take,Nat.min_eq_left hn]at this
 exact this
theorem one_okX {l:List UInt8} {r:Int} {n:Nat} (h:oneN l=some (r,n)):n≤l.length∧1≤n∧n≤4∧okX (l.take n)∧mkX (l.take n)=r:=by
 obtain⟨h1,h2,h3⟩:=oneN_is h
 obtain⟨h4,h5,_⟩:=oneN_run l r n h
 have e:l.take n=Lib.encodeRune r:=by
  conv=>lhs;rw[h3]
  rw[h2,List.take_left]
 have h6:=(Lib.runeCells_le r).2
 rw[Lib.runeCells_length]at h6
 have h7:=mkX_enc r h1
 refine⟨h4,h5,by omega,⟨?_,?_⟩,by rw[e,h7]⟩
 ·rw[e,h7];exact h1
 ·rw[e,h7]
open Go.RowKit
set_option maxHeartbeats 1000000 in
set_option maxRecDepth 100000 in
theorem dis_any (r:Int) (w:World):Calls Tryz.prog 154 #[.int .i64 r] w fun e w'=>e=.returned (.bool (decide (isR r)))∧w'=w:=by
 by_cases h1:0≤r
 ·by_cases h2:r≤1114111
  ·by_cases h3:r<55296
   ·have HR:Hid (decide (isR r)=true):=decide_eq_true ⟨h1,h2,.inl h3⟩
    go_enter Tryz.func154,Tryz.ntmps154
    go_wp2
    go_ret
    exact⟨ret_b HR.out.symm,rfl⟩
   ·by_cases h4:57343<r
    ·have HR:Hid (decide (isR r)=true):=decide_eq_true ⟨h1,h2,.inr h4⟩
     go_enter Tryz.func154,Tryz.ntmps154
     go_wp2
     go_ret
     exact⟨ret_b HR.out.symm,rfl⟩
    ·have HR:Hid (decide (isR r)=false):=decide_eq_false (by unfold isR;omega)
     go_enter Tryz.func154,Tryz.ntmps154
     go_wp2
     go_ret
     exact⟨ret_b (by rw[HR.out]),rfl⟩
  ·have HR:Hid (decide (isR r)=false):=decide_eq_false (by unfold isR;omega)
   go_enter Tryz.func154,Tryz.ntmps154
   go_wp2
   go_ret
   exact⟨ret_b (by rw[HR.out]),rfl⟩
 ·have HR:Hid (decide (isR r)=false):=decide_eq_false (by unfold isR;omega)
  go_enter Tryz.func154,Tryz.ntmps154
  go_wp2
  go_ret
  exact⟨ret_b (by rw[HR.out]),rfl⟩
theorem u8c (x:Int) (h0:0≤x) (h1:x<256):x=((x.toNat.toUInt8).toNat:Int):=by rw[u8_of x h0 h1];omega
set_option maxHeartbeats 1000000 in
set_option maxRecDepth 100000 in
theorem dwr_any (r:Int) (h:isR r) (w:World):Calls Tryz.prog 187 #[.int .i32 r] w fun e w'=>e=.returned (.slice (some ⟨w.heap.size,0,none⟩) (Lib.encodeRune r).length (Lib.encodeRune r).length)∧w'=w.alloc (.cells (rowV (Lib.encodeRune r)) 5):=by
 obtain⟨h0,h1,h2⟩:=h
 unfold Lib.encodeRune
 by_cases c1:r<128
 ·rw[Lib.encodeRuneZ_one h0 (by omega)]
  have e1:=u8c r h0 (by omega)
  have w1:IntKind.u8.wrap r=r:=by rw[IntKind.wrap_u8];omega
  have HE:Hid (rowV ([r].map fun x=>x.toNat.toUInt8)=#[.int .u8 r]):=by show _=_;simp[rowV,cellsB];omega
  have HLN:Hid (([r].map fun x=>x.toNat.toUInt8).length=1):=rfl
  generalize ([r].map fun x=>x.toNat.toUInt8)=E at HE HLN ⊢
  clear e1
  go_enter Tryz.func187,Tryz.ntmps187
  go_wp2
  go_ret
  exact⟨by rw[HLN.out];rfl,by rw[HE.out]⟩
 by_cases c2:r<2048
 ·rw[Lib.encodeRuneZ_two (by omega) (by omega)]
  have t1:r.tdiv 64=r / 64:=Int.tdiv_eq_ediv_of_nonneg h0
  have t2:r.tmod 64=r % 64:=Int.tmod_eq_emod_of_nonneg h0
  have w1:IntKind.u8.wrap (192+r / 64)=192+r / 64:=by rw[IntKind.wrap_u8];omega
  have w2:IntKind.u8.wrap (128+r % 64)=128+r % 64:=by rw[IntKind.wrap_u8];omega
  have HE:Hid (rowV ([192+r / 64,128+r % 64].map fun x=>x.toNat.toUInt8)=#[.int .u8 (192+r / 64),.int .u8 (128+r % 64)]):=by show _=_;simp[rowV,cellsB];omega
  have HLN:Hid (([192+r / 64,128+r % 64].map fun x=>x.toNat.toUInt8).length=2):=rfl
  generalize ([192+r / 64,128+r % 64].map fun x=>x.toNat.toUInt8)=E at HE HLN ⊢
  go_enter Tryz.func187,Tryz.ntmps187
  go_wp2
  go_ret
  exact⟨by rw[HLN.out];rfl,by rw[HE.out]⟩
 by_cases c3:r<65536
 ·rw[Lib.encodeRuneZ_three (by omega)]
  have t1:r.tdiv 64=r / 64:=Int.tdiv_eq_ediv_of_nonneg h0
  have t2:r.tmod 64=r % 64:=Int.tmod_eq_emod_of_nonneg h0
  have t3:r.tdiv 4096=r / 4096:=Int.tdiv_eq_ediv_of_nonneg h0
  have t4:(r / 64).tmod 64=r / 64 % 64:=Int.tmod_eq_emod_of_nonneg (by omega)
  have w1:IntKind.u8.wrap (224+r / 4096)=224+r / 4096:=by rw[IntKind.wrap_u8];omega
  have w2:IntKind.u8.wrap (128+r / 64 % 64)=128+r / 64 % 64:=by rw[IntKind.wrap_u8];omega
  have w3:IntKind.u8.wrap (128+r % 64)=128+r % 64:=by rw[IntKind.wrap_u8];omega
  have HE:Hid (rowV ([224+r / 4096,128+r / 64 % 64,128+r % 64].map fun x=>x.toNat.toUInt8)=#[.int .u8 (224+r / 4096),.int .u8 (128+r / 64 % 64),.int .u8 (128+r % 64)]):=by show _=_;simp[rowV,cellsB];omega
  have HLN:Hid (([224+r / 4096,128+r / 64 % 64,128+r % 64].map fun x=>x.toNat.toUInt8).length=3):=rfl
  generalize ([224+r / 4096,128+r / 64 % 64,128+r % 64].map fun x=>x.toNat.toUInt8)=E at HE HLN ⊢
  go_enter Tryz.func187,Tryz.ntmps187
  go_wp2
  go_ret
  exact⟨by rw[HLN.out];rfl,by rw[HE.out]⟩
 ·rw[Lib.encodeRuneZ_four (by omega) (by omega)]
  have t1:r.tdiv 64=r / 64:=Int.tdiv_eq_ediv_of_nonneg h0
  have t2:r.tmod 64=r % 64:=Int.tmod_eq_emod_of_nonneg h0
  have t3:r.tdiv 4096=r / 4096:=Int.tdiv_eq_ediv_of_nonneg h0
  have t4:(r / 64).tmod 64=r / 64 % 64:=Int.tmod_eq_emod_of_nonneg (by omega)
  have t5:r.tdiv 262144=r / 262144:=Int.tdiv_eq_ediv_of_nonneg h0
  have t6:(r / 4096).tmod 64=r / 4096 % 64:=Int.tmod_eq_emod_of_nonneg (by omega)
  have w1:IntKind.u8.wrap (240+r / 262144)=240+r / 262144:=by rw[IntKind.wrap_u8];omega
  have w2:IntKind.u8.wrap (128+r / 4096 % 64)=128+r / 4096 % 64:=by rw[IntKind.wrap_u8];omega
  have w3:IntKind.u8.wrap (128+r / 64 % 64)=128+r / 64 % 64:=by rw[IntKind.wrap_u8];omega
  have w4:IntKind.u8.wrap (128+r % 64)=128+r % 64:=by rw[IntKind.wrap_u8];omega
  have HE:Hid (rowV ([240+r / 262144,128+r / 4096 % 64,128+r / 64 % 64,128+r % 64].map fun x=>x.toNat.toUInt8)=#[.int .u8 (240+r / 262144),.int .u8 (128+r / 4096 % 64),.int .u8 (128+r / 64 % 64),.int .u8 (128+r % 64)]):=by show _=_;simp[rowV,cellsB];omega
  have HLN:Hid (([240+r / 262144,128+r / 4096 % 64,128+r / 64 % 64,128+r % 64].map fun x=>x.toNat.toUInt8).length=4):=rfl
  generalize ([240+r / 262144,128+r / 4096 % 64,128+r / 64 % 64,128+r % 64].map fun x=>x.toNat.toUInt8)=E at HE HLN ⊢
  go_enter Tryz.func187,Tryz.ntmps187
  go_wp2
  go_ret
  exact⟨by rw[HLN.out];rfl,by rw[HE.out]⟩
set_option maxHeartbeats 1000000 in
set_option maxRecDepth 100000 in
theorem dlead_any (n:Nat) (hn:n≤4) (w:World):Calls Tryz.prog 186 #[.int .i64 n] w fun e w'=>e=.returned (.int .i64 (leadN n))∧w'=w.alloc (.cells #[.int .i64 0,.int .i64 0,.int .i64 192,.int .i64 224,.int .i64 240] 3):=by
 match n,hn with
 |0,_=>go_enter Tryz.func186,Tryz.ntmps186;go_wp2;go_ret;exact⟨rfl,rfl⟩
 |1,_=>go_enter Tryz.func186,Tryz.ntmps186;go_wp2;go_ret;exact⟨rfl,rfl⟩
 |2,_=>go_enter Tryz.func186,Tryz.ntmps186;go_wp2;go_ret;exact⟨rfl,rfl⟩
 |3,_=>go_enter Tryz.func186,Tryz.ntmps186;go_wp2;go_ret;exact⟨rfl,rfl⟩
 |4,_=>go_enter Tryz.func186,Tryz.ntmps186;go_wp2;go_ret;exact⟨rfl,rfl⟩
open Go.RowKit
theorem noR_take (l:List Int) (k:Nat) (hk:k<l.length) (h:∀j (hj:j<l.length),j<k→isR l[j]) (hr:¬isR l[k]):noR l=k:=by
 induction l generalizing k with
 |nil=>simp at hk
 |cons x t ih=>
  cases k with
  |zero=>simp only[noR];rw[if_neg (by simpa using hr)]
  |succ k=>
   simp only[noR]
   rw[if_pos (show isR x from h 0 (by simp) (by omega))]
   congr 1
   exact ih k (by simpa using hk) (fun j hj hjk=>h (j+1) (by simp;omega) (by omega)) (by simpa using hr)
theorem noR_full (l:List Int) (h:∀j (hj:j<l.length),isR l[j]):noR l=l.length:=by
 rw[noR_all]
 intro r hr
 obtain⟨j,hj,rfl⟩:=List.getElem_of_mem hr
 exact h j hj
theorem bts_new (w:World) (l:List UInt8):Bts (some ⟨w.heap.size,0,none⟩) l (w.alloc (.cells (rowV l) 5)):=by
 refine .inr ⟨w.heap.size,0,rfl,by simp,fun j hj=>?_⟩
 rw[Nat.zero_add,(Lies.new w (rowV l) 5).cell j,rowV_at l j hj]
end Go.Proofs.YtfjpkfhbmldmfaaGreatDoor
