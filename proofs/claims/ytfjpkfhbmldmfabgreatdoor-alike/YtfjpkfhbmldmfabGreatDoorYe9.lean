/-
  The program's Same of mailboxes.
-/
import Derived.Test.YtfjpkfhbmldmfabGreatDoorSw8
import Derived.Test.YtfjpkfhbmldmfabGreatDoorXz9
import Derived.Test.YtfjpkfhbmldmfabGreatDoorUtfE
import Derived.Test.YtfjpkfhbmldmfabGreatDoorPtA
import Derived.Test.YtfjpkfhbmldmfabGreatDoorPureBad
import Derived.Lib.ConvBytes
import Derived.Test.YtfjpkfhbmldmfabGreatDoorXr9
import Derived.Test.YtfjpkfhbmldmfabGreatDoorRows
import Derived.Test.YtfjpkfhbmldmfabGreatDoorCards
import Derived.Test.YtfjpkfhbmldmfabGreatDoorTie
import Derived.ProofKit
import Derived.OpenShut
import Derived.Lib.LaidTab
import Derived.LaidLaws
import Derived.Deep.DeepHandedRow
import Derived.ShutString
import Derived.SizedLaws
import Derived.ChangeOld
import Derived.Shelf.Vars
import Derived.Test.YtfjpkfhbmldmfabGreatDoorXd9
namespace Go.Proofs.YtfjpkfhbmldmfabGreatDoor
open Go.RowKit
theorem box_cellsP {w:World} {g:Nat} {l:List UInt8} {h:Ho} {V:Array Value} (hV:V=boxC l h) (hl:Lies w g V 30):w.cell? ⟨g,0,none⟩=some (.string (txt l))∧w.rangeAt g 1 (hostC h).toList:=by
 subst hV
 constructor
 ·rw[hl.cell 0]
  unfold boxC
  rw[Array.getElem?_append_left (by simp)]
  rfl
 ·intro j v hv
  rw[hl.cell (1+j)]
  unfold boxC
  rw[Array.getElem?_append_right (by simp)]
  simp only[List.size_toArray,List.length_cons,List.length_nil]
  rw[show 1+j - (0+1)=j from by omega]
  simpa using hv
set_option maxHeartbeats 4000000 in
set_option maxRecDepth 100000 in
theorem pism_any (l:List UInt8) (h:Ho) (hl:l.length≤140737488355328) (w:World):
  Calls Tryz.prog 33 #[.agg (boxC l h)] w fun e w'=>e=.returned (.bool (decide (sml l=sml pmL)))∧Below w.heap.size w w':=by
 obtain⟨V,hV⟩:∃V,V=boxC l h:=⟨_,rfl⟩
 rw[←hV]
 have L1:Hid (Lies (w.alloc (.cells V 30)) w.heap.size V 30):=Lies.new w _ _
 have KB:Hid (Below w.heap.size w (w.alloc (.cells V 30))):=(Below.refl _ _).alloc (Nat.le_refl _) _
 obtain⟨T,hT⟩:∃T,T=txt l:=⟨_,rfl⟩
 have c0:(w.alloc (.cells V 30)).cell? ⟨w.heap.size,0,none⟩=some (.string T):=by rw[hT];exact(box_cellsP hV L1.out).1
 have HS:Hid (∀wx,Calls Tryz.prog 34 #[.string T,.string ⟨#[80,111,115,116,109,97,115,116,101,114]⟩] wx fun e w'=>e=.returned (.bool (decide (sml l=sml pmL)))∧Below wx.heap.size wx w'):=fun wx=>by
  have:=same_any T ⟨#[80,111,115,116,109,97,115,116,101,114]⟩ wx (by rw[hT,txt_size];unfold maxLen;omega) (by unfold maxLen;decide)
  have e:sameB T ⟨#[80,111,115,116,109,97,115,116,101,114]⟩=decide (sml l=sml pmL):=by
   rw[hT]
   exact sameB_sml l pmL
  rw[e]at this
  exact this
 generalize decide (sml l=sml pmL)=b at HS ⊢
 clear hV hT L1
 go_enter Tryz.func33,Tryz.ntmps33
 go_upto_region 1 with fail
 generalize w.alloc (.cells V 30)=v0 at c0 KB ⊢
 go_wp2_with fail
 refine(HS.out _).mono ?_
 rintro e w2 ⟨rfl,hb2⟩
 have KX:Hid (Below w.heap.size w w2):=KB.out.trans (hb2.mono KB.out.size)
 clear hb2 KB c0
 go_wp2_with fail
 go_ret
 exact⟨rfl,KX.out⟩
set_option maxHeartbeats 8000000 in
set_option maxRecDepth 100000 in
theorem psame_any (l l':List UInt8) (h h':Ho) (ok:h.Ok) (ok':h'.Ok) (hl:l.length≤140737488355328) (hl':l'.length≤140737488355328) (hn:h.n.length≤140737488355328) (hn':h'.n.length≤140737488355328) (w:World) (hT:Tc w):
  Calls Tryz.prog 16 #[.agg (boxC l h),.agg (boxC l' h')] w fun e w'=>e=.returned (.bool (sameM asciiL l h l' h'))∧Below w.heap.size w w':=by
 have hz:=boxC_size l h ok.len
 have hz':=boxC_size l' h' ok'.len
 have HI1:Hid (∀wx,Calls Tryz.prog 33 #[.agg (boxC l h)] wx fun e w'=>e=.returned (.bool (decide (sml l=sml pmL)))∧Below wx.heap.size wx w'):=fun wx=>pism_any l h hl wx
 have HI2:Hid (∀wx,Calls Tryz.prog 33 #[.agg (boxC l' h')] wx fun e w'=>e=.returned (.bool (decide (sml l'=sml pmL)))∧Below wx.heap.size wx w'):=fun wx=>pism_any l' h' hl' wx
 obtain⟨V,hV⟩:∃V,V=boxC l h:=⟨_,rfl⟩
 obtain⟨V',hV'⟩:∃V,V=boxC l' h':=⟨_,rfl⟩
 rw[←hV]at hz HI1 ⊢
 rw[←hV']at hz' HI2 ⊢
 have L1:Hid (Lies ((w.alloc (.cells V 30)).alloc (.cells V' 30)) w.heap.size V 30):=(Lies.new w _ _).alloc _
 have L2:Hid (Lies ((w.alloc (.cells V 30)).alloc (.cells V' 30)) (w.heap.size+1) V' 30):=new_one w _ _ _
 have KB:Hid (Below w.heap.size w ((w.alloc (.cells V 30)).alloc (.cells V' 30))):=((Below.refl _ _).alloc (Nat.le_refl _) _).alloc (by simp) _
 have HV:Hid (V=boxC l h):=hV
 have HV':Hid (V'=boxC l' h'):=hV'
 obtain⟨C,hC⟩:∃C,C=(hostC h).toList:=⟨_,rfl⟩
 obtain⟨C',hC'⟩:∃C,C=(hostC h').toList:=⟨_,rfl⟩
 have hCl1:C.length=18:=by rw[hC,Array.length_toList];exact hostC_size _ ok.len
 have hCl2:C'.length=18:=by rw[hC',Array.length_toList];exact hostC_size _ ok'.len
 have HSH:Hid (∀wx,Below w.heap.size w wx→Calls Tryz.prog 32 #[.agg C.toArray,.agg C'.toArray] wx fun e w'=>e=.returned (.bool (same asciiL h h'))∧Below wx.heap.size wx w'):=fun wx hx=>by
  rw[hC,hC',Array.toArray_toList,Array.toArray_toList]
  exact sme_any h h' ok ok' wx (hT.below hx) hn hn'
 obtain⟨T,hTt⟩:∃T,T=txt l:=⟨_,rfl⟩
 obtain⟨T',hTt'⟩:∃T,T=txt l':=⟨_,rfl⟩
 have HM:Hid (∀wx,Lies wx w.heap.size V 30→wx.cell? ⟨w.heap.size,0,none⟩=some (.string T)∧wx.rangeAt w.heap.size 1 C):=fun wx hx=>by rw[hTt,hC];exact box_cellsP HV.out hx
 have HM':Hid (∀wx,Lies wx (w.heap.size+1) V' 30→wx.cell? ⟨w.heap.size+1,0,none⟩=some (.string T')∧wx.rangeAt (w.heap.size+1) 1 C'):=fun wx hx=>by rw[hTt',hC'];exact box_cellsP HV'.out hx
 have HE:Hid ((T.toList==T'.toList)=decide (l=l')):=by
  show _=_
  rw[hTt,hTt',ByteArray.toList_eq,ByteArray.toList_eq,txt_list,txt_list,Bool.eq_iff_iff,beq_iff_eq,decide_eq_true_eq]
 have HR:Hid (sameM asciiL l h l' h'=(same asciiL h h'&&(decide (l=l')||(decide (sml l=sml pmL)&&decide (sml l'=sml pmL))))):=rfl
 generalize same asciiL h h'=b1 at HSH HR
 generalize decide (l=l')=b2 at HE HR
 generalize decide (sml l=sml pmL)=b3 at HI1 HR
 generalize decide (sml l'=sml pmL)=b4 at HI2 HR
 clear hV hV' hTt hTt' hC hC' hl hl' hn hn' ok ok' HV HV' hT
 go_enter Tryz.func16,Tryz.ntmps16
 go_upto_region 1 with fail
 generalize (w.alloc (.cells V 30)).alloc (.cells V' 30)=v0 at L1 L2 KB ⊢
 obtain⟨_,r1⟩:=HM.out v0 L1.out
 obtain⟨_,r2⟩:=HM'.out v0 L2.out
 have R1:Hid (v0.rangeAt w.heap.size 1 C):=r1
 have R2:Hid (v0.rangeAt (w.heap.size+1) 1 C'):=r2
 clear r1 r2
 go_wp2_with (first|(refine wpList_load_mid rfl 28 _ rfl w.heap.size 1 rfl C _ R1.out Tryz.underlying28 rfl (by rw[hCl1];exact infoHo) ?_)|(refine wpList_load_mid rfl 28 _ rfl (w.heap.size+1) 1 rfl C' _ R2.out Tryz.underlying28 rfl (by rw[hCl2];exact infoHo) ?_))
 refine(HSH.out _ KB.out).mono ?_
 rintro e w2 ⟨rfl,hb2⟩
 have K1:Hid (Lies w2 w.heap.size V 30):=L1.out.below hb2 L1.out.lt
 have K2:Hid (Lies w2 (w.heap.size+1) V' 30):=L2.out.below hb2 L2.out.lt
 have KX:Hid (Below w.heap.size w w2):=KB.out.trans (hb2.mono KB.out.size)
 clear hb2 L1 L2 KB HSH R1 R2
 cases b1
 ·go_wp2_with fail
  go_ret
  exact⟨by rw[HR.out];rfl,KX.out⟩
 ·have c1:=(HM.out w2 K1.out).1
  have c2:=(HM'.out w2 K2.out).1
  have he:=HE.out
  clear HE
  cases b2
  ·go_wp2_with (refine wpList_load_row9 (by rfl) 30 _ rfl (w.heap.size) rfl V 30 _ K1.out Tryz.underlying30 rfl (by rw[hz];exact infoBx) ?_)
   refine(HI1.out _).mono ?_
   rintro e w3 ⟨rfl,hb3⟩
   have K3:Hid (Lies w3 (w.heap.size+1) V' 30):=K2.out.below hb3 K2.out.lt
   have KY:Hid (Below w.heap.size w w3):=KX.out.trans (hb3.mono KX.out.size)
   clear hb3 K1 K2 KX c1 c2 HI1
   cases b3
   ·go_wp2_with fail
    go_ret
    exact⟨by rw[HR.out];rfl,KY.out⟩
   ·go_wp2_with (refine wpList_load_row9 (by rfl) 30 _ rfl (w.heap.size+1) rfl V' 30 _ K3.out Tryz.underlying30 rfl (by rw[hz'];exact infoBx) ?_)
    refine(HI2.out _).mono ?_
    rintro e w4 ⟨rfl,hb4⟩
    have KZ:Hid (Below w.heap.size w w4):=KY.out.trans (hb4.mono KY.out.size)
    clear hb4 KY K3 HI2
    go_wp2_with fail
    go_ret
    exact⟨by rw[HR.out];cases b4<;>rfl,KZ.out⟩
  ·go_wp2_with fail
   go_ret
   exact⟨by rw[HR.out];rfl,KX.out⟩
def capsB (b:UInt8):Bool:=(decide (97≤b.toNat)&&decide (b.toNat≤122))||(decide (65≤b.toNat)&&decide (b.toNat≤90))
def capB (c:Bool) (b:UInt8):UInt8:=if capsB b=true∧c=true then b ^^^ 32 else b
def capL (c:Nat→Bool):Nat→List UInt8→List UInt8
 |_,[]=>[]
 |i,b::r=>capB (c i) b::capL c (i+1) r
theorem cap_fin:∀(k:Fin 256) (c:Bool),smB (capB c (UInt8.ofNat k.val))=smB (UInt8.ofNat k.val)∧ldB (capB c (UInt8.ofNat k.val))=ldB (UInt8.ofNat k.val)∧(k.val=46→capB c (UInt8.ofNat k.val)=46):=by
 decide+kernel
theorem cap_is (c:Bool) (b:UInt8):smB (capB c b)=smB b∧ldB (capB c b)=ldB b∧(b=46→capB c b=46):=by
 have h:=cap_fin ⟨b.toNat,b.toNat_lt⟩ c
 have e:UInt8.ofNat b.toNat=b:=by simp
 simp only[e]at h
 exact⟨h.1,h.2.1,fun hb=>h.2.2 (by rw[hb];rfl)⟩
theorem capL_len (c:Nat→Bool):∀(l:List UInt8) (i:Nat),(capL c i l).length=l.length
 |[],_=>rfl
 |b::r,i=>by rw[capL,List.length_cons,List.length_cons,capL_len c r]
theorem capL_sml (c:Nat→Bool):∀(l:List UInt8) (i:Nat),sml (capL c i l)=sml l
 |[],_=>rfl
 |b::r,i=>by
  have h:=capL_sml c r (i+1)
  unfold sml at h ⊢
  rw[capL,List.map_cons,List.map_cons,h,(cap_is (c i) b).1]
theorem capL_ld (c:Nat→Bool):∀(l:List UInt8) (i:Nat),(∀b∈l,ldB b=true)→∀b∈capL c i l,ldB b=true
 |[],_,_=>fun b hb=>by cases hb
 |x::r,i,h=>fun b hb=>by
  rw[capL]at hb
  rcases List.mem_cons.1 hb with rfl|hb
  ·rw[(cap_is (c i) x).2.1]
   exact h x (List.mem_cons_self ..)
  ·exact capL_ld c r (i+1) (fun y hy=>h y (List.mem_cons_of_mem _ hy)) b hb
theorem capL_app (c:Nat→Bool):∀(x y:List UInt8) (i:Nat),capL c i (x++y)=capL c i x++capL c (i+x.length) y
 |[],y,i=>by simp[capL]
 |b::r,y,i=>by
  rw[List.cons_append,capL,capL,capL_app c r y (i+1),List.cons_append,List.length_cons,show i+1+r.length=i+(r.length+1) from by omega]
def hostK (c:Nat→Bool) (h:Ho):Ho:=if h.k=1 then ⟨h.k,capL c 0 h.n,h.a⟩ else h
theorem hostK_is (f:List UInt8→List UInt8) (c:Nat→Bool) (k:Int) (a:List Nat) (hl:a.length=16) (ha:∀n∈a,n<256) (hs lc:List UInt8):
  (hostK c (hostM k a hs lc)).Ok∧same f (hostM k a hs lc) (hostM k a hs lc)=true∧same f (hostM k a hs lc) (hostK c (hostM k a hs lc))=true∧same f (hostK c (hostM k a hs lc)) (hostM k a hs lc)=true:=by
 obtain⟨ok,hc,_⟩:=host_made k a hl ha hs lc true
 have self:∀h:Ho,check h true=0→same f h h=true:=fun h hc=>by
  rw[same_iff]
  refine⟨rfl,hc,hc,?_⟩
  by_cases h0:(ascii f h).2=0
  ·exact .inl ⟨h0,h0,rfl⟩
  ·exact .inr ⟨fun q=>h0 q.1,rfl⟩
 by_cases hk:(hostM k a hs lc).k=1
 ·have e:hostM k a hs lc=⟨1,ltrs hs 30++46::ltrs lc 10,z16⟩:=by
   unfold hostM at hk ⊢
   split at hk
   ·exact absurd (show(2:Int)=1 from hk) (by decide)
   ·split at hk
    ·exact absurd (show(3:Int)=1 from hk) (by decide)
    ·split at hk
     ·exact absurd (show(4:Int)=1 from hk) (by decide)
     ·rename_i h1 h2 h3
      rw[if_neg h1,if_neg h2,if_neg h3]
  rw[e]at ok hc ⊢
  obtain⟨x0,xl,hx⟩:=ltrs_is hs 30 (by omega)
  obtain⟨y0,yl,hy⟩:=ltrs_is lc 10 (by omega)
  have ek:hostK c ⟨1,ltrs hs 30++46::ltrs lc 10,z16⟩=⟨1,capL c 0 (ltrs hs 30++46::ltrs lc 10),z16⟩:=if_pos rfl
  have e2:capL c 0 (ltrs hs 30++46::ltrs lc 10)=capL c 0 (ltrs hs 30)++46::capL c (0+(ltrs hs 30).length+1) (ltrs lc 10):=by
   rw[capL_app,capL,(cap_is _ 46).2.2 rfl]
  have hc2:check ⟨1,capL c 0 (ltrs hs 30++46::ltrs lc 10),z16⟩ true=0:=by
   rw[e2]
   refine check_name' ?_
   rw[wd_two (fun q=>x0 (List.eq_nil_of_length_eq_zero (by rw[←capL_len c _ 0,q];rfl))) (by rw[capL_len];omega) (capL_ld c _ 0 hx) (fun q=>y0 (List.eq_nil_of_length_eq_zero (by rw[←capL_len c _ (0+(ltrs hs 30).length+1),q];rfl))) (by rw[capL_len];omega) (capL_ld c _ _ hy)]
  rw[ek]
  exact⟨⟨rfl,ok.2⟩,self _ hc,same_caps f (capL_sml c _ 0).symm hc hc2,same_caps f (capL_sml c _ 0) hc2 hc⟩
 ·have ek:hostK c (hostM k a hs lc)=hostM k a hs lc:=if_neg hk
  rw[ek]
  exact⟨ok,self _ hc,self _ hc,self _ hc⟩
theorem sameM_of {f:List UInt8→List UInt8} {h g:Ho} (hs:same f h g=true) (l m:List UInt8):sameM f l h m g=(decide (l=m)||(decide (sml l=sml pmL)&&decide (sml m=sml pmL))):=by
 unfold sameM
 rw[hs]
 rfl
theorem sameM_turn {f:List UInt8→List UInt8} {h g:Ho} (hs:same f h g=true) (ht:same f g h=true) (l m:List UInt8):sameM f l h m g=sameM f m g l h:=by
 rw[sameM_of hs,sameM_of ht,Bool.and_comm (decide (sml l=sml pmL))]
 congr 1
 exact decide_eq_decide.2 ⟨Eq.symm,Eq.symm⟩
open Go.RowKit
def FzB (w:World) (g:Nat) (l:List UInt8):Prop:=∃(cs:Array Value) (fr:Nat×Nat),w.heap[g]?=some (.cells cs 5 fr)∧cs.size≤fr.1∧l.length≤cs.size∧∀j (h:j<l.length),cs[j]?=some (.int .u8 (l[j].toNat:Int))
theorem FzB.lt {w:World} {g:Nat} {l:List UInt8} (h:FzB w g l):g<w.heap.size:=by
 obtain⟨cs,fr,h1,_⟩:=h
 exact(Array.getElem?_eq_some_iff.1 h1).1
theorem FzB.cell {w:World} {g:Nat} {l:List UInt8} (h:FzB w g l) (j:Nat) (hj:j<l.length):w.cell? ⟨g,j,none⟩=some (.int .u8 (l[j].toNat:Int)):=by
 obtain⟨cs,fr,h1,_,_,h4⟩:=h
 rw[cell_of_row w g j cs 5 fr h1,h4 j hj]
theorem FzB.open' {w:World} {g:Nat} {l:List UInt8} (h:FzB w g l) (j:Nat) (hj:j<l.length):w.frozen? ⟨g,j,none⟩=false:=by
 obtain⟨cs,fr,h1,h2,h3,_⟩:=h
 unfold World.frozen?
 rw[h1]
 simp only[Bool.and_eq_false_iff,decide_eq_false_iff_not]
 left
 omega
theorem FzB.set {w:World} {g:Nat} {l:List UInt8} (h:FzB w g l) (k:Nat) (b:UInt8):FzB (w.setCell ⟨g,k,none⟩ (.int .u8 (b.toNat:Int))) g (l.set k b):=by
 have hlt:=h.lt
 obtain⟨cs,fr,h1,h2,h3,h4⟩:=h
 have hv:w.heap[g]=.cells cs 5 fr:=(Array.getElem?_eq_some_iff.1 h1).2
 refine⟨cs.setIfInBounds k (.int .u8 (b.toNat:Int)),fr,?_,by simpa using h2,by simpa using h3,fun j hj=>?_⟩
 ·unfold World.setCell
  rw[Array.getElem?_eq_getElem (by simpa using hlt),Array.getElem_modify]
  simp[hv]
 ·rw[List.length_set]at hj
  rw[Array.getElem?_setIfInBounds,List.getElem_set]
  by_cases e:k=j
  ·subst e
   rw[if_pos rfl,if_pos (by omega),if_pos rfl]
  ·rw[if_neg e,if_neg e]
   exact h4 j hj
theorem FzB.bts {w:World} {g:Nat} {l:List UInt8} (h:FzB w g l):Bts (some ⟨g,0,none⟩) l w:=
 .inr ⟨g,0,rfl,h.lt,fun j hj=>by rw[Nat.zero_add];exact h.cell j hj⟩
theorem conv_fz (w:World) (s:ByteArray):∃c w',(convert 9 47 (.string s)).run Tryz.prog w=.ok (.slice (some ⟨w.heap.size,0,none⟩) s.size c) w'∧FzB w' w.heap.size s.data.toList∧s.size≤c∧Below w.heap.size w w':=by
 refine⟨_,_,Lib.run_convert_string_bytes w 9 47 5 s Tryz.underlying9 Tryz.underlying47 Tryz.underlying5,⟨_,_,Lib.bytesWorld_at_new w 5 s,Nat.le_refl _,?_,fun j hj=>?_⟩,grownCap_ge _ _ _ _,?_⟩
 ·unfold Lib.bytesCells
  rw[Array.size_append,Array.size_map,Array.length_toList]
  omega
 ·rw[Array.length_toList]at hj
  unfold Lib.bytesCells
  rw[Array.getElem?_append_left (by simpa using hj),Array.getElem?_map,Array.getElem?_eq_getElem hj]
  rfl
 ·exact⟨rfl,rfl,rfl,by rw[Lib.bytesWorld_size];omega,fun k hk=>Lib.bytesWorld_at_old w 5 s k hk⟩
open Go.ChangeShapes Go.WideShapes Go.ChangeAt Go.RowKit
theorem gCl:Tryz.prog.globalNamed "posthorn/octet.classes"=some 0:=by kernel_rfl
theorem tCl:(Tryz.prog.globals[(0:Nat)]?).map (·.type)=some 103:=by kernel_rfl
theorem cellsStr:Tryz.prog.cellsOf 9=1:=by kernel_rfl
theorem gFs:Tryz.prog.globalNamed "posthorn/runes.firsts"=some 1:=by kernel_rfl
theorem tFs:(Tryz.prog.globals[(1:Nat)]?).map (·.type)=some 146:=by kernel_rfl
theorem cellsF:Tryz.prog.cellsOf 145=5:=by kernel_rfl
theorem cellsFs:Tryz.prog.cellsOf 146=40:=by kernel_rfl
theorem laid_rows:(Rows.laid_posthorn_octet_classes:DataW Unit)=.agg (classRows.map fun l=>.lit (.string l)):=rfl
theorem laid_fst:(Rows.laid_posthorn_runes_firsts:DataW Unit)=.agg (fsRows.map fun r=>.agg (r.map fun x=>.lit (.int .u8 x))):=rfl
theorem table_of_trod {enc:TypeId×Value→Unit} {W:World} {base:Nat} {sp:Nat→Bool} {held:Bool} {cs:Array Value} {fuel:Nat} {p:List MemPlace}
  (hv:W.var? Tryz.prog "posthorn/octet.classes"=some cs)
  (hd:DataW.trod enc Tryz.prog W base sp held fuel 103 cs.toList=some (Rows.laid_posthorn_octet_classes,p)):Table W:=by
 obtain⟨xs,m,_,hx,hlen,hn,hel⟩:=DataW.trod_array Tryz.underlying103 hd
 rw[laid_rows]at hx
 simp only[Prod.mk.injEq,DataW.agg.injEq]at hx
 obtain⟨hx, -⟩:=hx
 intro c hc
 have h1:=hel c hc
 have hxc:c<xs.length:=by omega
 rw[List.getElem?_eq_getElem hxc]at h1
 obtain⟨s,e1,e2,_⟩:=DataW.trod_string Tryz.underlying9 h1
 have h2:=congrArg (fun l=>l[c]?) hx
 simp only[List.getElem?_map,List.getElem?_eq_getElem hxc,Option.map_some,e2]at h2
 have hcl:c<classRows.length:=hc
 rw[List.getElem?_eq_getElem hcl]at h2
 simp only[Option.map_some,Option.some.injEq,DataW.lit.injEq,Lit.string.injEq]at h2
 have h3:=World.var?_cell gCl hv c
 rw[h3]
 rw[cellsStr,Nat.mul_one]at e1
 have h4:=congrArg (fun l=>l[0]?) e1
 simp only[List.getElem?_take,List.getElem?_drop]at h4
 have h5:cs[c]?=some (.string s):=by simpa using h4
 rw[h5]
 have h6:classRows.getD c []=s.data.toList:=by
  rw[List.getD_eq_getElem?_getD,List.getElem?_eq_getElem hcl,Option.getD_some,h2]
 rw[h6]
theorem fst_of_trod {enc:TypeId×Value→Unit} {W:World} {base:Nat} {sp:Nat→Bool} {held:Bool} {cs:Array Value} {fuel:Nat} {p:List MemPlace}
  (hv:W.var? Tryz.prog "posthorn/runes.firsts"=some cs)
  (hd:DataW.trod enc Tryz.prog W base sp held fuel 146 cs.toList=some (Rows.laid_posthorn_runes_firsts,p)):Fst W:=by
 obtain⟨xs,m,_,hx,hlen,hn,hel⟩:=DataW.trod_array Tryz.underlying146 hd
 rw[laid_fst]at hx
 simp only[Prod.mk.injEq,DataW.agg.injEq]at hx
 obtain⟨hx, -⟩:=hx
 have key:∀c,c<8→∀i,i<5→cs[c*5+i]?=some (.int .u8 (fsAt c i)):=by
  intro c hc i hi
  have h1:=hel c hc
  have hxc:c<xs.length:=by omega
  rw[List.getElem?_eq_getElem hxc,cellsF]at h1
  obtain⟨ys,n,_,hy,hl,hyl,hf⟩:=DataW.trod_struct Tryz.underlying145 h1
  have hrow:c<fsRows.length:=hc
  have e1:=congrArg (fun l=>l[c]?) hx
  simp only[List.getElem?_map,List.getElem?_eq_getElem hxc,List.getElem?_eq_getElem hrow,Option.map_some,Option.some.injEq,hy,DataW.agg.injEq]at e1
  have hr5:(fsRows[c]).length=5:=by
   have:∀k:Fin 8,(fsRows[k.val]'k.isLt).length=5:=by decide
   exact this ⟨c,hc⟩
  have hyi:i<ys.length:=by
   have:=congrArg List.length e1
   simp only[List.length_map,hr5]at this
   omega
  have e2:=congrArg (fun l=>l[i]?) e1
  simp only[List.getElem?_map,List.getElem?_eq_getElem hyi,List.getElem?_eq_getElem (show i<(fsRows[c]).length by omega),Option.map_some,Option.some.injEq]at e2
  have hat:fsAt c i=(fsRows[c])[i]'(by omega):=by
   unfold fsAt
   simp[List.getD_eq_getElem?_getD,List.getElem?_eq_getElem hrow,List.getElem?_eq_getElem (show i<(fsRows[c]).length by omega)]
  have go:∀(f:Field),f.type=5→f.offset=i→DataW.trod enc Tryz.prog W base sp held n f.type (((List.take 5 (List.drop (c*5) cs.toList)).drop f.offset).take (Tryz.prog.cellsOf f.type))=ys[i]?→cs[c*5+i]?=some (.int .u8 (fsAt c i)):=by
   intro f ft fo h
   rw[ft,fo,cells5,List.getElem?_eq_getElem hyi]at h
   obtain⟨z,e3,e4,_⟩:=DataW.trod_int Tryz.underlying5 h
   rw[e4]at e2
   simp only[DataW.lit.injEq,Lit.int.injEq,true_and]at e2
   have h4:=congrArg (fun l=>l[0]?) e3
   simp only[List.getElem?_take,List.getElem?_drop]at h4
   rw[hat,e2]
   simpa [show i<5 from hi] using h4
  have hcase:i=0∨i=1∨i=2∨i=3∨i=4:=by omega
  rcases hcase with rfl|rfl|rfl|rfl|rfl
  ·exact go _ rfl rfl (hf 0 _ rfl)
  ·exact go _ rfl rfl (hf 1 _ rfl)
  ·exact go _ rfl rfl (hf 2 _ rfl)
  ·exact go _ rfl rfl (hf 3 _ rfl)
  ·exact go _ rfl rfl (hf 4 _ rfl)
 have hsz:cs.size=40:=by
  have:=hlen
  rw[cellsFs]at this
  simpa using this
 have hcs:cs=fsCells:=by
  apply Array.ext_getElem?
  intro j
  by_cases hj:j<40
  ·have:=key (j / 5) (by omega) (j % 5) (by omega)
   rw[show j / 5*5+j % 5=j from by omega]at this
   rw[this]
   have h:∀k:Fin 40,fsCells[k.val]?=some (.int .u8 (fsAt (k.val / 5) (k.val % 5))):=by
    intro k
    have:∀k:Fin 40,(fsRows.flatten)[k.val]?=some (fsAt (k.val / 5) (k.val % 5)):=by decide
    unfold fsCells
    rw[List.getElem?_toArray,List.getElem?_map,this k]
    rfl
   exact(h ⟨j,hj⟩).symm
  ·have h40:fsCells.size=40:=by decide
   rw[Array.getElem?_eq_none (by omega),Array.getElem?_eq_none (by omega)]
 unfold World.var? at hv
 rw[gFs]at hv
 simp only[Option.bind_some]at hv
 split at hv
 ·rename_i c t fr hh
  injection hv with hv
  rw[hv,hcs]at hh
  exact⟨t,fr,hh⟩
 ·cases hv
theorem own:ownKnob Tryz.prog.godebug=none:=by kernel_rfl
theorem laidOut:laidOutB Tryz.prog=true:=by kernel_rfl
theorem cell_lt {w:World} {g k:Nat} {v:Value} (h:w.cell? ⟨g,k,none⟩=some v):g<w.heap.size:=by
 rcases Nat.lt_or_ge g w.heap.size with h'|h'
 ·exact h'
 ·simp[World.cell?,Array.getElem?_eq_none h']at h
theorem tPow:(Tryz.prog.globals[(5:Nat)]?).map (·.type)=some 191:=by kernel_rfl
theorem cellsPow:Tryz.prog.cellsOf 191=20:=by kernel_rfl
theorem cellsU64:Tryz.prog.cellsOf 53=1:=by kernel_rfl
theorem laid_pow:(Rows.laid_internal_strconv_uint64pow10:DataW Unit)=Lib.tabData .u64 Lib.pow10Tab:=by kernel_rfl
theorem gT64:Tryz.prog.globalNamed "math/bits.deBruijn64tab"=some 7:=by kernel_rfl
theorem tT64:(Tryz.prog.globals[(7:Nat)]?).map (·.type)=some 213:=by kernel_rfl
theorem gES:Tryz.prog.globalNamed "strconv.ErrSyntax"=some 8:=by kernel_rfl
theorem tES:(Tryz.prog.globals[(8:Nat)]?).map (·.type)=some 113:=by kernel_rfl
set_option maxRecDepth 100000 in
theorem t64_15:∃l:List (DataW Unit),(Rows.laid_math_bits_deBruijn64tab:DataW Unit)=.agg l∧l[15]?=some (.lit (.int .u8 4)):=⟨_,rfl,rfl⟩
set_option maxRecDepth 100000 in
theorem t64_of_trod {enc:TypeId×Value→Unit} {W:World} {base:Nat} {sp:Nat→Bool} {held:Bool} {cs:Array Value} {fuel:Nat} {p:List MemPlace}
  (hv:W.var? Tryz.prog "math/bits.deBruijn64tab"=some cs)
  (hd:DataW.trod enc Tryz.prog W base sp held fuel 213 cs.toList=some (Rows.laid_math_bits_deBruijn64tab,p)):W.cell? ⟨7,15,none⟩=some (.int .u8 4):=by
 obtain⟨xs,m,_,hx,hlen,hn,hel⟩:=DataW.trod_array Tryz.underlying213 hd
 obtain⟨l,hl,h15⟩:=t64_15
 rw[hl]at hx
 simp only[Prod.mk.injEq,DataW.agg.injEq]at hx
 obtain⟨rfl, -⟩:=hx
 have h1:=hel 15 (by omega)
 have hxc:15<xs.length:=by omega
 rw[List.getElem?_eq_getElem hxc,cells5]at h1
 obtain⟨z,e1,e2,_⟩:=DataW.trod_int Tryz.underlying5 h1
 simp only[List.getElem?_map,List.getElem?_eq_getElem hxc,Option.map_some,e2,Option.some.injEq,DataW.lit.injEq,Lit.int.injEq,true_and]at h15
 subst h15
 have h3:=World.var?_cell gT64 hv 15
 rw[h3]
 have h4:=congrArg (fun l=>l[0]?) e1
 simp only[List.getElem?_take,List.getElem?_drop]at h4
 simpa using h4
theorem es_of_trod {enc:TypeId×Value→Unit} {W:World} {base:Nat} {sp:Nat→Bool} {cs:Array Value} {fuel:Nat} {p:List MemPlace}
  (hv:W.var? Tryz.prog "strconv.ErrSyntax"=some cs)
  (hd:DataW.trod enc Tryz.prog W base sp false fuel 113 cs.toList=some (Rows.laid_strconv_ErrSyntax,p)):∃te pe,W.cell? ⟨8,0,none⟩=some (.iface te pe):=by
 obtain⟨_,u,v,e,_,_⟩:=iface_of_trod Tryz.underlying113 hd
 have h3:=World.var?_cell gES hv 0
 refine⟨u,v,?_⟩
 rw[h3]
 have h4:=congrArg (fun l=>l[0]?) e
 simpa using h4
theorem ml_of {W:World} (h:W.ShapedOpen Tryz.prog):∃m,W.cell? ⟨2,0,none⟩=some (.int .i64 m):=
 cell_of_shapedOpen_int (t:=3) (zero:=#[.int .i64 0]) h (of_decide_eq_true (by kernel_rfl)) (by kernel_rfl) rfl (by kernel_rfl) (by kernel_rfl) Tryz.underlying3
theorem gER:Tryz.prog.globalNamed "strconv.ErrRange"=some 9:=by kernel_rfl
theorem ten_of {W:World} {cs:Array Value} (hv:W.var? Tryz.prog "strconv.ErrRange"=some cs):10≤W.heap.size:=by
 unfold World.var? at hv
 rw[gER]at hv
 simp only[Option.bind_some]at hv
 split at hv
 ·rename_i c t fr hh
  exact(Array.getElem?_eq_some_iff.1 hh).1
 ·cases hv
theorem tabs9_of {W:World} (h:laidMet Tryz.prog [("math/bits.deBruijn32tab",Rows.laid_math_bits_deBruijn32tab),("math/bits.deBruijn64tab",Rows.laid_math_bits_deBruijn64tab),("internal/strconv.uint64pow10",Rows.laid_internal_strconv_uint64pow10),("unicode/utf8.acceptRanges",Rows.laid_unicode_utf8_acceptRanges),("strconv.ErrRange",Rows.laid_strconv_ErrRange),("strconv.ErrSyntax",Rows.laid_strconv_ErrSyntax),("posthorn/octet.classes",Rows.laid_posthorn_octet_classes),("posthorn/runes.firsts",Rows.laid_posthorn_runes_firsts),("unicode/utf8.first",Rows.laid_unicode_utf8_first)] W) (hsh:W.ShapedOpen Tryz.prog):Td W∧10≤W.heap.size:=by
 obtain⟨ps,⟨g0,t0,cs0,fuel0,p0,q0,hg0,ht0,hv0,hd0,⟨g1,t1,cs1,fuel1,p1,q1,hg1,ht1,hv1,hd1,⟨g2,t2,cs2,fuel2,p2,q2,hg2,ht2,hv2,hd2,⟨g3,t3,cs3,fuel3,p3,q3,hg3,ht3,hv3,hd3,⟨g4,t4,cs4,fuel4,p4,q4,hg4,ht4,hv4,hd4,⟨g5,t5,cs5,fuel5,p5,q5,hg5,ht5,hv5,hd5,⟨g6,t6,cs6,fuel6,p6,q6,hg6,ht6,hv6,hd6,⟨g7,t7,cs7,fuel7,p7,q7,hg7,ht7,hv7,hd7,⟨g8,t8,cs8,fuel8,p8,q8,hg8,ht8,hv8,hd8,_,_⟩,_⟩,_⟩,_⟩,_⟩,_⟩,_⟩,_⟩,_⟩,_⟩:=h
 obtain rfl:=Option.some.inj (gCl.symm.trans hg6)
 obtain rfl:=Option.some.inj (tCl.symm.trans ht6)
 obtain rfl:=Option.some.inj (gFs.symm.trans hg7)
 obtain rfl:=Option.some.inj (tFs.symm.trans ht7)
 obtain rfl:=Option.some.inj (gPow.symm.trans hg2)
 obtain rfl:=Option.some.inj (tPow.symm.trans ht2)
 obtain rfl:=Option.some.inj (gT64.symm.trans hg1)
 obtain rfl:=Option.some.inj (tT64.symm.trans ht1)
 obtain rfl:=Option.some.inj (gES.symm.trans hg5)
 obtain rfl:=Option.some.inj (tES.symm.trans ht5)
 have h1:=table_of_trod hv6 hd6
 refine⟨?_,ten_of hv4⟩
 refine⟨⟨h1,cell_lt (h1 0 (by omega)),fst_of_trod hv7 hd7,es_of_trod hv5 hd5,t64_of_trod hv1 hd1⟩,?_,ml_of hsh⟩
 rw[laid_pow]at hd2
 unfold PowTab Lib.TabIs
 rw[hv2,←Lib.cells_of_tab Tryz.underlying191 Tryz.underlying53 cellsU64 cellsPow hd2]
def litC:DataW Unit→List Value
 | .lit (.int k z)=>[Value.int k z]
 | .lit (.string b)=>[Value.string ⟨b.toArray⟩]
 |_=>[]
def rowC:DataW Unit→List Value
 | .agg l=>l.flatMap litC
 |d=>litC d
def datCells:DataW Unit→Array Value
 | .agg l=>(l.flatMap rowC).toArray
 |_=>#[]
def layCells (d:DataW Unit):Obj→Obj
 | .cells _ t frozen=>.cells (datCells d) t frozen
 |o=>o
abbrev rangeS:ByteArray:=⟨#[118,97,108,117,101,32,111,117,116,32,111,102,32,114,97,110,103,101]⟩
abbrev synS:ByteArray:=⟨#[105,110,118,97,108,105,100,32,115,121,110,116,97,120]⟩
noncomputable def low9:Nat:=(World.holding Tryz.prog default ⟨#[],#[],[]⟩).heap.size
def layPtr (b:Nat):Obj→Obj
 | .cells _ t frozen=>.cells #[.iface 235 (.pointer (some ⟨b,0,none⟩))] t frozen
 |o=>o
noncomputable def laidWorld9 (os:Os):World:=
 {World.holding Tryz.prog os ⟨#[.cells #[.string rangeS] 237,.cells #[.string synS] 237],#[],[]⟩ with heap:=((((((((((World.holding Tryz.prog os ⟨#[.cells #[.string rangeS] 237,.cells #[.string synS] 237],#[],[]⟩).heap.modify 6 (layCells Rows.laid_math_bits_deBruijn32tab)).modify 7 (layCells Rows.laid_math_bits_deBruijn64tab)).modify 5 (layCells Rows.laid_internal_strconv_uint64pow10)).modify 4 (layCells Rows.laid_unicode_utf8_acceptRanges)).modify 9 (layPtr (low9))).modify 8 (layPtr (low9+1))).modify 0 (layCells Rows.laid_posthorn_octet_classes)).modify 1 (layCells Rows.laid_posthorn_runes_firsts)).modify 3 (layCells Rows.laid_unicode_utf8_first))}
set_option maxRecDepth 100000 in
theorem bytes_of_trod {H:Type} {enc:TypeId×Value→H} {W:World} {b0:Nat} {sp:Nat→Bool} {held:Bool} {T:TypeId} {n fuel:Nat} {cs:List Value} {x:DataW H×List MemPlace} (hu:Tryz.prog.underlying T=some (.array n 5)) (hc:Tryz.prog.cellsOf T=n) (h:DataW.trod enc Tryz.prog W b0 sp held fuel T cs=some x):
  ∃l:List Nat,l.length=n∧(∀x∈l,x<256)∧cs=l.map fun n=>Value.int .u8 (n:Nat):=by
 obtain⟨xs,m,_,_,hlen,hn,hel⟩:=DataW.trod_array hu h
 rw[hc]at hlen
 have key:∀i,i<n→∃z:Nat,z<256∧cs[i]?=some (.int .u8 (z:Nat)):=by
  intro i hi
  have h1:=hel i hi
  rw[List.getElem?_eq_getElem (show i<xs.length by omega),cells5]at h1
  obtain⟨z,e1,_,e3⟩:=DataW.trod_int Tryz.underlying5 h1
  have b:=bounds_u8 e3
  have h4:=congrArg (fun l=>l[0]?) e1
  simp only[List.getElem?_take,List.getElem?_drop]at h4
  refine⟨z.toNat,by omega,?_⟩
  rw[Int.toNat_of_nonneg b.1]
  simpa using h4
 refine⟨cs.map fun v=>match v with| .int _ z=>z.toNat|_=>0,by simp[hlen],?_,?_⟩
 ·intro x hx
  obtain⟨v,hv,rfl⟩:=List.mem_map.1 hx
  obtain⟨i,hi,rfl⟩:=List.getElem_of_mem hv
  obtain⟨z,hz,e⟩:=key i (by omega)
  rw[List.getElem?_eq_getElem hi]at e
  rw[Option.some.inj e]
  simpa using hz
 ·apply List.ext_getElem?
  intro i
  by_cases hi:i<n
  ·obtain⟨z,hz,e⟩:=key i hi
   rw[List.getElem?_map,List.getElem?_map,e]
   simp
  ·rw[List.getElem?_eq_none (by omega),List.getElem?_eq_none (by simp;omega)]
theorem cellsT16:Tryz.prog.cellsOf 26=16:=by kernel_rfl
theorem cellsT3:Tryz.prog.cellsOf 3=1:=by kernel_rfl
open Go.RowKit
def tkF (f:UInt8→Bool) (most:Nat) (acc l:List UInt8):List UInt8:=acc++(l.filter f).take (most - acc.length)
theorem tkF_full {f:UInt8→Bool} {most:Nat} {acc l:List UInt8} (h:most≤acc.length):tkF f most acc l=acc:=by
 unfold tkF
 rw[Nat.sub_eq_zero_of_le h,List.take_zero,List.append_nil]
theorem tkF_end {f:UInt8→Bool} {most:Nat} {acc:List UInt8}:tkF f most acc []=acc:=by
 unfold tkF
 simp
theorem tkF_yes {f:UInt8→Bool} {most:Nat} {acc l:List UInt8} {c:UInt8} (h:acc.length<most) (hc:f c=true):tkF f most acc (c::l)=tkF f most (acc++[c]) l:=by
 unfold tkF
 rw[List.filter_cons_of_pos hc,show most - acc.length=(most - (acc++[c]).length)+1 from by rw[List.length_append,List.length_singleton];omega,List.take_succ_cons,List.append_assoc]
 rfl
theorem tkF_no {f:UInt8→Bool} {most:Nat} {acc l:List UInt8} {c:UInt8} (hc:¬f c=true):tkF f most acc (c::l)=tkF f most acc l:=by
 unfold tkF
 rw[List.filter_cons_of_neg hc]
theorem sh_iff (c:UInt8):shB c=true↔32≤c.toNat∧c.toNat≤126:=by
 unfold shB
 simp
set_option maxHeartbeats 4000000 in
set_option maxRecDepth 100000 in
theorem shownl_any (s:ByteArray) (hs:s.size≤140737488355328) (most:Nat) (hm:most≤1000) (w:World):
  Calls Tryz.prog 25 #[.string s,.int .i64 (most:Int)] w fun e w'=>e=.returned (.string (txt (shwn s.data.toList most)))∧Below w.heap.size w w':=by
 obtain⟨X,hX⟩:∃X,X=shwn s.data.toList most:=⟨_,rfl⟩
 rw[←hX]
 have HX0:Hid (X=tkF shB most [] (s.data.toList.drop 0)):=hX
 clear hX
 go_enter Tryz.func25,Tryz.ntmps25
 go_wp2_with fail
 go_loopw [5,6] (fun u c wr=>∃(i:Nat) (acc:List UInt8),i≤s.size∧c=.int .i64 i∧acc.length≤i∧Hid (wr.ownsRow w.heap.size 5 1 u acc.length (cellsB acc))∧Hid (Below w.heap.size w wr)∧Hid (X=tkF shB most acc (s.data.toList.drop i))) (fun _ c _=>s.size - (intOf c).toNat)
 case atStart=>exact⟨0,[],Nat.zero_le _,by go_num,Nat.zero_le _,⟨rfl,.inr ⟨w.heap.size,0,#[],rfl,Nat.le_refl _,Lies.new w #[] 5,Nat.le_refl _,by unfold maxLen;omega,rfl,rfl⟩⟩,(Below.refl _ _).alloc (Nat.le_refl _) _,HX0⟩
 case round=>
  obtain⟨i,acc,hi,rfl,hacc,HO,HB,HX⟩:=hrel
  clear HX0
  obtain⟨sa,sc,hu,_⟩:=own_bts HO.out
  subst hu
  have hcv:(convert 47 9 (.slice sa acc.length sc)).run Tryz.prog wr=.ok (.string (txt acc)) wr:=conv_own HO.out
  by_cases hlt:i<s.size
  ·have hlt':(i:Int)<(s.size:Int):=by omega
   have HD:Hid (s.data.toList.drop i=s[i]::s.data.toList.drop (i+1)):=drop_at s i hlt
   by_cases hmo:acc.length<most
   ·have hmo':(acc.length:Int)<(most:Int):=by omega
    have hc8:=s[i].toNat_lt
    by_cases h1:32≤s[i].toNat
    ·have h1':(32:Int)≤(s[i].toNat:Int):=by omega
     by_cases h2:s[i].toNat≤126
     ·have h2':(s[i].toNat:Int)≤126:=by omega
      have HXX:Hid (X=tkF shB most (acc++[s[i]]) (s.data.toList.drop (i+1))):=by
       show _=_
       rw[HX.out,HD.out,tkF_yes hmo ((sh_iff _).2 ⟨h1,h2⟩)]
      clear HX HD hcv
      go_wp2_with (at_builtin;refine wpList_append_byte rfl _ _ rfl w.heap.size (.slice sa acc.length sc) acc.length acc rfl (HO.out.alloc _) wr s[i] _ rfl rfl 1 rfl (by omega) HB.out.size ?_;intro v3 w3 hown3 hbel3)
      have HB3:Hid (Below w.heap.size w w3):=hbel3 _ _ HB.out (Nat.le_refl _)
      have HO3:Hid (w3.ownsRow w.heap.size 5 1 v3 (acc++[s[i]]).length (cellsB (acc++[s[i]]))):=by
       show World.ownsRow _ _ _ _ _ _ _
       rw[List.length_append,List.length_singleton]
       exact hown3
      clear hown3 hbel3 HO HB
      go_wp2_with fail
      go_roundw
      case rel=>exact⟨i+1,acc++[s[i]],hlt,by go_num,by simp only[List.length_append,List.length_singleton];omega,HO3,HB3,HXX⟩
      case measure=>simp[intOf];omega
     ·have h2':¬(s[i].toNat:Int)≤126:=by omega
      have HXX:Hid (X=tkF shB most acc (s.data.toList.drop (i+1))):=by
       show _=_
       rw[HX.out,HD.out,tkF_no (fun h=>h2 ((sh_iff _).1 h).2)]
      clear HX HD hcv
      go_wp2_with fail
      go_roundw
      case rel=>exact⟨i+1,acc,hlt,by go_num,by omega,HO,HB,HXX⟩
      case measure=>simp[intOf];omega
    ·have h1':¬(32:Int)≤(s[i].toNat:Int):=by omega
     have HXX:Hid (X=tkF shB most acc (s.data.toList.drop (i+1))):=by
      show _=_
      rw[HX.out,HD.out,tkF_no (fun h=>h1 ((sh_iff _).1 h).1)]
     clear HX HD hcv
     go_wp2_with fail
     go_roundw
     case rel=>exact⟨i+1,acc,hlt,by go_num,by omega,HO,HB,HXX⟩
     case measure=>simp[intOf];omega
   ·have hmo':¬(acc.length:Int)<(most:Int):=by omega
    have HXX:Hid (X=acc):=by
     show _=_
     rw[HX.out,tkF_full (by omega)]
    clear HX HD
    go_wp2_with fail
    go_ret
    exact⟨by rw[HXX.out];rfl,HB.out⟩
  ·have hlt':¬(i:Int)<(s.size:Int):=by omega
   have HXX:Hid (X=acc):=by
    show _=_
    rw[HX.out,List.drop_of_length_le (by rw[Array.length_toList];show s.size≤i;omega),tkF_end]
   clear HX
   go_wp2_with fail
   go_ret
   exact⟨by rw[HXX.out];rfl,HB.out⟩
end Go.Proofs.YtfjpkfhbmldmfabGreatDoor
