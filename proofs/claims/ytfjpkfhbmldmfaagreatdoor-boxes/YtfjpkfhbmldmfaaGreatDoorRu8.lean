/-
  The document's groups.
-/
import Derived.Test.YtfjpkfhbmldmfaaGreatDoorRf8
import Derived.Test.YtfjpkfhbmldmfaaGreatDoorREnc
import Derived.Test.YtfjpkfhbmldmfaaGreatDoorRa8
import Derived.Lib.IndexMore
namespace Go.Proofs.YtfjpkfhbmldmfaaGreatDoor
open Go.RowKit
def cells8 (l:List Nat):List Value:=l.map fun n=>Value.int .u8 (n:Nat)
theorem info5u:(Tryz.prog.info? 5).map (fun i=>(i.zero,i.size,i.bytes))=some (some (.int .u8 0),1,1):=by kernel_rfl
theorem wpList_append_u8 {ops:Array Oper} {rest:List Oper} {o:Oper} {a:Act} {w:World} {Q:Exit→Act→World→Prop} (hgd:o.guard=none) (s x:Operand)
  (ho:o.op=.call {callee:=.builtin .append,args:=#[s,x],argTypes:=#[98,98]}) (base:Nat) (v:Value) (n:Nat) (xs:List Nat) (hs:a.eval s=v) (hown:w.ownsRow base 5 1 v n (cells8 xs))
  (g:Nat) (m:Nat) (ys:List Nat) (hy:ys.length=m) (hx:a.eval x=.slice (some ⟨g,0,none⟩) m m) (hb:Lies w g (cells8 ys).toArray 5) (hbytes:n+m≤100000000) (hbase:base≤w.heap.size)
  (h:∀v' w',w'.ownsRow base 5 1 v' (n+m) (cells8 (xs++ys))→w.grownBy w' v.ownBlock→wpList Tryz.prog ops Q rest (a.put o.dst v') w'):wpList Tryz.prog ops Q (o::rest) a w:=by
 obtain⟨i0,hi,hz0,hz1,hz2⟩:=info_partsG info5u
 refine wpList_append_own _ hgd s x 98 ho base 5 i0 (.int .u8 0) 1 1 Tryz.underlying98 hi hz0 hz1 hz2 rfl (by decide) v n _ hs hown ⟨g,0,none⟩ m m (cells8 ys) hx (by unfold cells8;rw[List.length_map,hy,Nat.mul_one]) (fun j u hu=>?_) (fun v hv=>?_) (by unfold maxLen;omega) (by omega) hbase ?_
 ·rw[Addr.add_lit,Nat.zero_add,hb.cell j,List.getElem?_toArray]
  exact hu
 ·unfold cells8 at hv
  obtain⟨n,_,rfl⟩:=List.mem_map.1 hv
  rfl
 ·intro v' w' hown' hgrow _
  exact h v' w' (by unfold cells8 at hown' ⊢;rw[List.map_append];exact hown') hgrow
theorem hex_dig:∀c:Fin 256,Lib.indexByte [48,49,50,51,52,53,54,55,56,57,97,98,99,100,101,102] (smB (UInt8.ofNat c.val))=if hxB (UInt8.ofNat c.val)=true then ((hxV (UInt8.ofNat c.val):Nat):Int) else -1:=by decide+kernel
theorem hex_is (c:UInt8):Lib.indexByte [48,49,50,51,52,53,54,55,56,57,97,98,99,100,101,102] (smB c)=if hxB c=true then ((hxV c:Nat):Int) else -1:=by
 have:=hex_dig ⟨c.toNat,c.toNat_lt⟩
 simpa using this
theorem hxV_fin:∀c:Fin 256,hxB (UInt8.ofNat c.val)=true→hxV (UInt8.ofNat c.val)<16:=by decide+kernel
theorem hxV_small (c:UInt8) (h:hxB c=true):hxV c<16:=by
 have:=hxV_fin ⟨c.toNat,c.toNat_lt⟩
 simp at this
 exact this h
theorem dGrps_step (last:Bool) (p:List UInt8) (L:List (List UInt8)) (h:¬(last=true∧L=[]∧(whole4 p).isSome=true)):dGrps last (p::L)=match dGrp p with
  |none=>none
  |some b=>(dGrps last L).map (b++·):=by
 cases L with
 |cons q r=>rfl
 |nil=>
  unfold dGrps
  cases last with
  |false=>
   rw[if_neg (by decide)]
   cases dGrp p with
   |none=>rfl
   |some b=>simp
  |true=>
   rw[if_pos rfl]
   cases h4:whole4 p with
   |some v=>exact absurd ⟨rfl,rfl,by rw[h4];rfl⟩ h
   |none=>
    cases dGrp p with
    |none=>rfl
    |some b=>simp
theorem dGrps_four {last:Bool} {p:List UInt8} {v:List Nat} (hl:last=true) (h:whole4 p=some v):dGrps last [p]=some v:=by
 subst hl
 unfold dGrps
 rw[if_pos rfl,h]
def GrpA (b:Option (List Nat)) (base:Nat) (v:Value) (w:World):Prop:=match b with
 |none=>v=.tuple #[.slice none 0 0,.bool false]
 |some l=>∃u,v=.tuple #[u,.bool true]∧w.ownsRow base 5 1 u l.length (cells8 l)
structure GrS (w wL:World) (last:Bool) (L:List (List UInt8)) (i:Nat) (acc:List Nat) (u:Value) (wr:World):Prop where
 own:wr.ownsRow wL.heap.size 5 1 u acc.length (cells8 acc)
 few:acc.length≤4*i
 is:dGrps last L=(dGrps last (L.drop i)).map (acc++·)
 below:Below wL.heap.size wL wr
open Go.RowKit
structure HxS (p:List UInt8) (k n:Nat):Prop where
 le:k≤p.length
 all:∀j (h:j<p.length),j<k→hxB p[j]=true
 is:n=hexN 0 (p.take k)
 lt:n<16 ^ k
theorem HxS.start (p:List UInt8):HxS p 0 0:=⟨Nat.zero_le _,fun j _ h=>absurd h (by omega),rfl,by decide⟩
theorem HxS.step {p:List UInt8} {k n:Nat} (h:HxS p k n) (hk:k<p.length) (hc:hxB p[k]=true):HxS p (k+1) (16*n+hxV p[k]):=by
 refine⟨hk,fun j hj hjk=>?_,?_,?_⟩
 ·rcases Nat.lt_or_ge j k with h1|h1
  ·exact h.all j hj h1
  ·obtain rfl:j=k:=by omega
   exact hc
 ·rw[List.take_succ_eq_append_getElem hk,hexN_append,←h.is,hexN,hexN]
 ·have:=h.lt
  have h2:=hxV_small _ hc
  rw[Nat.pow_succ]
  omega
theorem HxS.fin {p:List UInt8} {n:Nat} (h:HxS p p.length n) (h1:1≤p.length) (h4:p.length≤4):dGrp p=some [n / 256,n % 256]∧n<65536:=by
 have hn:=h.is
 rw[List.take_length]at hn
 refine⟨?_,?_⟩
 ·have hall:p.all hxB=true:=List.all_eq_true.2 fun c hc=>by
   obtain⟨j,hj,rfl⟩:=List.getElem_of_mem hc
   exact h.all j hj hj
  unfold dGrp
  rw[if_pos ⟨h1,h4,hall⟩,hn]
 ·exact Nat.lt_of_lt_of_le h.lt (by
   have:16 ^ p.length≤16 ^ 4:=Nat.pow_le_pow_right (by omega) h4
   simpa using this)
theorem dGrp_len {p:List UInt8} (h:¬(1≤p.length∧p.length≤4)):dGrp p=none:=if_neg fun h'=>h ⟨h'.1,h'.2.1⟩
theorem dGrp_bad {p:List UInt8} {j:Nat} (hj:j<p.length) (h:hxB p[j]=false):dGrp p=none:=if_neg fun h'=>by
 have:=List.all_eq_true.1 h'.2.2 p[j] (List.getElem_mem hj)
 rw[h]at this
 cases this
theorem splitB_short (d:UInt8):∀s:List UInt8,(∀l∈splitB d s,l.length≤s.length)∧(splitB d s).length≤s.length+1
 |[]=>by simp[splitB]
 |c::r=>by
  obtain⟨h1,h2⟩:=splitB_short d r
  rw[splitB]
  split
  ·refine⟨fun l hl=>?_,by simp;omega⟩
   rcases List.mem_cons.1 hl with rfl|hl
   ·simp
   ·have:=h1 l hl
    simp
    omega
  ·cases h:splitB d r with
   |nil=>simp
   |cons x xs=>
    rw[h]at h1 h2
    refine⟨fun l hl=>?_,by simp at h2 ⊢;omega⟩
    rcases List.mem_cons.1 hl with rfl|hl
    ·have:=h1 x (by simp)
     simp
     omega
    ·have:=h1 l (by simp[hl])
     simp
     omega
set_option maxHeartbeats 16000000 in
set_option maxRecDepth 100000 in
theorem rgrp_any (s:ByteArray) (last:Bool) (w:World) (hT:∃m,w.cell? ⟨2,0,none⟩=some (.int .i64 m)) (hs:s.size≤2000000):Calls Tryz.prog 188 #[.string s,.bool last] w fun e w'=>(∃v,e=.returned v∧GrpA (groupsD s.data.toList last) w.heap.size v w')∧Below w.heap.size w w':=by
 have HT:Hid (∀wx,Below w.heap.size w wx→∃m,wx.cell? ⟨2,0,none⟩=some (.int .i64 m)):=fun wx hx=>by
  obtain⟨m,hm⟩:=hT
  exact⟨m,(hx.cell (p:=⟨2,0,none⟩) (World.block_lt_of_cell? w _ hm)).trans hm⟩
 clear hT
 by_cases he:s.data.toList=[]
 ·have hem:s.toList.isEmpty=true:=by rw[ByteArray.toList_eq,he];rfl
  have HG:Hid (groupsD s.data.toList last=some []):=by show _=_;unfold groupsD;rw[if_pos he]
  clear he
  go_enter Tryz.func188,Tryz.ntmps188
  go_wp2_with fail
  refine bodyPost_ret (v:=.tuple #[.slice none 0 0,.bool true]) (by simp[results,Tryz.results188,go_sem]) rfl ⟨⟨_,rfl,?_⟩,Below.refl _ _⟩
  rw[HG.out]
  exact⟨_,rfl,rfl,.inl ⟨rfl,rfl⟩⟩
 ·have hem:s.toList.isEmpty=false:=by rw[ByteArray.toList_eq];cases hq:s.data.toList with
   |nil=>exact absurd hq he
   |cons c r=>rfl
  obtain⟨L,hL⟩:∃L,L=splitB 58 s.data.toList:=⟨_,rfl⟩
  obtain⟨hsp1,hsp2⟩:=split_cells s 58
  rw[←hL]at hsp1 hsp2
  have HG:Hid (groupsD s.data.toList last=dGrps last L):=by show _=_;unfold groupsD;rw[if_neg he,hL]
  have HSP:Hid (∀wx,Below w.heap.size w wx→Calls Tryz.prog 117 #[.string s,.string ⟨#[58]⟩] wx fun e w'=>e=.returned (.slice (some ⟨wx.heap.size,0,none⟩) L.length L.length)∧w'=wx.alloc (.cells (strsV L) 9)):=fun wx hx=>by
   obtain⟨m,hm⟩:=HT.out wx hx
   have:=Tryz.strings_Split s ⟨#[58]⟩ m wx (by omega) hm (by decide)
   rw[hsp1,hsp2]at this
   exact this
  have HLS:Hid ((∀l∈L,l.length≤s.size)∧L.length≤s.size+1∧L≠[]):=by
   rw[hL,←len_list]
   exact⟨(splitB_short 58 _).1,(splitB_short 58 _).2,splitB_ne 58 _⟩
  have hln:L.length≤2000001:=by have:=HLS.out.2.1;omega
  clear hsp1 hsp2 hL he
  go_enter Tryz.func188,Tryz.ntmps188
  go_wp2_with fail
  refine(HSP.out _ (Below.refl _ _)).mono ?_
  rintro e wL ⟨rfl,hwL⟩
  have HL:Hid (Lies wL w.heap.size (strsV L) 9):=by rw[hwL];exact Lies.new w _ _
  have HBL:Hid (Below w.heap.size w wL):=by rw[hwL];exact(Below.refl _ _).alloc (Nat.le_refl _) _
  clear hwL HSP
  have hln':(L.length:Int)≤2000001:=by omega
  go_wp2_with fail
  go_loopw [6,22] (fun u c wr=>∃(i:Nat) (acc:List Nat),i≤L.length∧c=.int .i64 i∧Hid (GrS w wL last L i acc u wr)) (fun _ c _=>L.length - (intOf c).toNat)
  case atStart=>exact⟨0,[],Nat.zero_le _,rfl,⟨⟨rfl,.inl ⟨rfl,rfl⟩⟩,Nat.zero_le _,by rw[List.drop_zero];cases dGrps last L<;>simp,Below.refl _ _⟩⟩
  case round=>
   obtain⟨i,acc,hi,rfl,HS⟩:=hrel
   by_cases hlt:i<L.length
   ·have hlt':(i:Int)<(L.length:Int):=by omega
    have hi0:(0:Int)≤(i:Int):=by omega
    have KB:Hid (Below w.heap.size w wr):=HBL.out.trans (HS.out.below.mono HBL.out.size)
    have hc:wr.cell? ⟨w.heap.size,i,none⟩=some (.string ⟨(L[i]).toArray⟩):=((HL.out.below HS.out.below HL.out.lt).cell i).trans (strsV_at L i hlt)
    have hzL:w.heap.size<wr.heap.size:=Nat.lt_of_lt_of_le HL.out.lt HS.out.below.size
    have hps:=HLS.out.1 _ (List.getElem_mem hlt)
    have HD:Hid (L.drop i=L[i]::L.drop (i+1)):=List.drop_eq_getElem_cons hlt
    have HNI:Hid (L.drop (i+1)=[]↔i+1=L.length):=by
     constructor
     ·intro h
      have:=List.drop_eq_nil_iff.1 h
      omega
     ·intro h
      exact List.drop_eq_nil_of_le (by omega)
    generalize L[i]=p at hc hps HD
    obtain⟨X,hX⟩:∃X:ByteArray,X=⟨p.toArray⟩:=⟨_,rfl⟩
    have hXl:X.data.toList=p:=by rw[hX]
    have hXs:X.size=p.length:=by rw[←len_list,hXl]
    rw[←hX]at hc
    have HW4:Hid (Calls Tryz.prog 163 #[.string X] wr fun e w'=>e=.returned (.tuple #[.agg (bytesV ((whole4 p).getD [0,0,0,0])),.bool (whole4 p).isSome])∧Below wr.heap.size wr w'):=by
     have:=rw4_any X wr (HT.out wr KB.out) (by omega)
     rw[hXl]at this
     exact this
    have hv4:((whole4 p).getD [0,0,0,0]).length=4:=by
     cases h:whole4 p with
     |none=>rfl
     |some v=>exact whole4_len h
    obtain⟨V,hV⟩:∃V,V=bytesV ((whole4 p).getD [0,0,0,0]):=⟨_,rfl⟩
    have hVz:V.size=4:=by rw[hV,bytesV_size,hv4]
    have hVo:V.all (·.oneCell')=true:=by
     rw[hV,Array.all_eq_true_iff_forall_mem]
     intro v hv
     unfold bytesV at hv
     rw[List.mem_toArray]at hv
     obtain⟨n,_,rfl⟩:=List.mem_map.1 hv
     rfl
    rw[←hV]at HW4
    have HV:Hid (V=bytesV ((whole4 p).getD [0,0,0,0])):=hV
    obtain⟨four,hfour⟩:∃b,b=(whole4 p).isSome:=⟨_,rfl⟩
    rw[←hfour]at HW4
    have HFO:Hid (four=(whole4 p).isSome):=hfour
    clear hX hV hfour hv4
    go_wp2_with fail
    refine HW4.out.mono ?_
    rintro e y1 ⟨rfl,hb1⟩
    have HY1:Hid (Below wL.heap.size wL y1):=HS.out.below.trans (hb1.mono HS.out.below.size)
    have HO1:Hid (y1.ownsRow wL.heap.size 5 1 u6 acc.length (cells8 acc)):=ownN_below HS.out.own hb1
    have A1:Hid (Lies (y1.alloc (.cells #[.int .u8 0,.int .u8 0,.int .u8 0,.int .u8 0] 108)) y1.heap.size #[.int .u8 0,.int .u8 0,.int .u8 0,.int .u8 0] 108):=Lies.new y1 _ _
    have M1:Hid (Lies ((y1.alloc (.cells #[.int .u8 0,.int .u8 0,.int .u8 0,.int .u8 0] 108)).setRow y1.heap.size V) y1.heap.size V 108):=A1.out.row _
    have BB:Hid (Below y1.heap.size y1 ((y1.alloc (.cells #[.int .u8 0,.int .u8 0,.int .u8 0,.int .u8 0] 108)).setRow y1.heap.size V)):=below_row ((Below.refl _ _).alloc (Nat.le_refl _) _) (Nat.le_refl _) _
    have HY2:Hid (Below wL.heap.size wL ((y1.alloc (.cells #[.int .u8 0,.int .u8 0,.int .u8 0,.int .u8 0] 108)).setRow y1.heap.size V)):=HY1.out.trans (BB.out.mono HY1.out.size)
    have HO2:Hid (((y1.alloc (.cells #[.int .u8 0,.int .u8 0,.int .u8 0,.int .u8 0] 108)).setRow y1.heap.size V).ownsRow wL.heap.size 5 1 u6 acc.length (cells8 acc)):=ownN_below HO1.out BB.out
    have hfew:=HS.out.few
    have HIS:Hid (dGrps last L=(dGrps last (p::L.drop (i+1))).map (acc++·)):=by show _=_;rw[←HD.out];exact HS.out.is
    clear hb1 HS HY1 HO1 HW4 hc KB
    go_upto_region 9 with(refine wpList_store_row rfl 108 _ _ rfl y1.heap.size rfl _ V rfl 108 A1.out (by rw[hVz];exact info4) (by rw[hVz];rfl) hVo rfl ?_)
    generalize hv1:(y1.alloc (.cells #[.int .u8 0,.int .u8 0,.int .u8 0,.int .u8 0] 108)).setRow y1.heap.size V=v1 at M1 HY2 HO2 ⊢
    clear hv1 A1 BB
    generalize y1.heap.size=g4 at M1 ⊢
    by_cases hA:four=true∧last=true∧i+1=L.length
    ·obtain⟨rfl,rfl,hend⟩:=hA
     obtain⟨v,hv⟩:∃v,whole4 p=some v:=Option.isSome_iff_exists.1 HFO.out.symm
     obtain⟨q0,q1,q2,q3,rfl,h0,h1,h2,h3,_⟩:=whole4_is hv
     have hV2:V=#[.int .u8 (q0:Nat),.int .u8 (q1:Nat),.int .u8 (q2:Nat),.int .u8 (q3:Nat)]:=by rw[HV.out,hv];rfl
     subst hV2
     have d0:v1.cell? ⟨g4,0,none⟩=some (.int .u8 (q0:Nat)):=M1.out.cell 0
     have d1:v1.cell? ⟨g4,1,none⟩=some (.int .u8 (q1:Nat)):=M1.out.cell 1
     have d2:v1.cell? ⟨g4,2,none⟩=some (.int .u8 (q2:Nat)):=M1.out.cell 2
     have d3:v1.cell? ⟨g4,3,none⟩=some (.int .u8 (q3:Nat)):=M1.out.cell 3
     have hgz:=M1.out.lt
     have hii:((i:Int)==(L.length:Int) - 1)=true:=by rw[beq_iff_eq];omega
     have HIS2:Hid (dGrps true L=(dGrps true (L.drop (i+1))).map ((acc++[q0,q1,q2,q3])++·)):=by
      show _=_
      have hnil:=HNI.out.2 hend
      rw[HIS.out,hnil,dGrps_four rfl hv]
      simp[dGrps]
     have hzw:=HY2.out.size
     have hacc:acc.length≤8000010:=by omega
     clear HIS HV HFO hv HNI HD M1 hVz hVo
     go_wp2_with (at_builtin;refine wpList_append_u8 rfl _ _ rfl wL.heap.size _ acc.length acc rfl (ownN_below HO2.out ((Below.refl _ _).alloc (Nat.le_refl _) _)) v1.heap.size 4 [q0,q1,q2,q3] rfl rfl (Lies.new v1 _ _) (by omega) (by simp;omega) ?_)
     intro v9 w9 hown9 hgrow9
     have hg9:=grown_on (World.grownBy_alloc v1 _ (u6:Value).ownBlock) hgrow9 (fun _ h=>.inl h.symm)
     have HB9:Hid (Below wL.heap.size wL w9):=HY2.out.grown hg9 HY2.out.size (fun q hq=>(HO2.out.lt q hq).1)
     have HS9:Hid (GrS w wL true L (i+1) (acc++[q0,q1,q2,q3]) v9 w9):=⟨by rw[List.length_append];exact hown9,by simp;omega,HIS2.out,HB9.out⟩
     clear hown9 hgrow9 hg9 HO2 HB9 HIS2 d0 d1 d2 d3
     go_wp2
     go_roundw
     case rel=>exact⟨i+1,acc++[q0,q1,q2,q3],by omega,by go_num,HS9⟩
     case measure=>simp[intOf];omega
    ·have HST:Hid (dGrps last (p::L.drop (i+1))=match dGrp p with
      |none=>none
      |some b=>(dGrps last (L.drop (i+1))).map (b++·)):=dGrps_step last p _ fun h=>hA ⟨HFO.out.trans h.2.2,h.1,HNI.out.1 h.2.1⟩
     have HNO:Hid (dGrp p=none→groupsD s.data.toList last=none):=fun h=>by
      rw[HG.out,HIS.out,HST.out,h]
      rfl
     have KB1:Hid (Below w.heap.size w v1):=HBL.out.trans (HY2.out.mono HBL.out.size)
     go_cut [42] (fun c wx=>c=.bool false∧wx=v1)
     case first=>
      cases four
      ·clear hA
       go_wp2_with fail
       go_meet
       exact⟨by first|rfl|simp,rfl⟩
      ·cases last
       ·clear hA
        go_wp2_with fail
        go_meet
        exact⟨by first|rfl|simp,rfl⟩
       ·have hii:((i:Int)==(L.length:Int) - 1)=false:=by
         rw[beq_eq_false_iff_ne]
         intro h
         exact hA ⟨rfl,rfl,by omega⟩
        clear hA
        go_wp2_with fail
        go_meet
        exact⟨by first|rfl|simp,rfl⟩
     obtain⟨rfl,hwc⟩:=hcut
     obtain rfl:v1=wc:=hwc.symm
     clear hA M1 HV HFO hVz hVo
     by_cases h1:1≤p.length
     ·have h1':¬(X.size:Int)<1:=by omega
      by_cases h4:p.length≤4
      ·have h4':¬(4:Int)<(X.size:Int):=by omega
       go_wp2_with fail
       have HSM:Hid (∀wx:World,Calls Tryz.prog 83 #[.string X] wx fun e w'=>e=.returned (.string (smS X))∧Below wx.heap.size wx w'):=fun wx=>rsmall_any X wx (by unfold maxLen;omega)
       have hYs:(smS X).size=p.length:=by
        show(sml X.data.toList).toArray.size=_
        rw[List.size_toArray,sml_len,hXl]
       have HYK:Hid (∀k (h:k<(smS X).size) (h':k<p.length),(smS X)[k]=smB p[k]):=fun k h h'=>by
        have e2:(smS X).data.toList=sml p:=by unfold smS;rw[str_list,hXl]
        rw[←get_list (smS X) k (by rw[len_list];exact h)]
        simp only[e2,sml,List.getElem_map]
       generalize smS X=Y at HSM hYs HYK
       go_loopw [12,13] (fun nv kv wr=>∃k n:Nat,nv=.int .i64 n∧kv=.int .i64 k∧k≤p.length∧n<65536∧Hid (HxS p k n)∧Hid (Below v1.heap.size v1 wr)) (fun _ kv _=>p.length - (intOf kv).toNat)
       case atStart=>exact⟨0,0,rfl,rfl,Nat.zero_le _,by omega,HxS.start p,Below.refl _ _⟩
       case round=>
        obtain⟨k,n,rfl,rfl,hk,hn,HX,HB⟩:=hrel
        by_cases hkl:k<p.length
        ·have hkl':(k:Int)<(X.size:Int):=by omega
         have hkY:k<Y.size:=by omega
         have hkY':(k:Int)<(Y.size:Int):=by omega
         have hk0:(0:Int)≤(k:Int):=by omega
         have hyk:=HYK.out k hkY hkl
         have HIX:Hid (∀wx:World,Calls Tryz.prog 114 #[.string ⟨#[48,49,50,51,52,53,54,55,56,57,97,98,99,100,101,102]⟩,.int .u8 (Y[k].toNat:Int)] wx fun e w'=>e=.returned (.int .i64 (if hxB p[k]=true then ((hxV p[k]:Nat):Int) else -1))∧w'=wx):=fun wx=>by
          have:=Tryz.strings_IndexByte ⟨#[48,49,50,51,52,53,54,55,56,57,97,98,99,100,101,102]⟩ (Y[k].toNat:Int) wx
          have e3:Lib.indexByte (⟨#[48,49,50,51,52,53,54,55,56,57,97,98,99,100,101,102]⟩:ByteArray).data.toList Y[k]=if hxB p[k]=true then ((hxV p[k]:Nat):Int) else -1:=by rw[hyk];exact hex_is _
          rw[show((Y[k].toNat:Int)).toNat.toUInt8=Y[k] from by simp,e3]at this
          exact this
         have HNX:Hid (hxB p[k]=true→HxS p (k+1) (16*n+hxV p[k])):=fun h=>HX.out.step hkl h
         have HBD:Hid (hxB p[k]=false→groupsD s.data.toList last=none):=fun h=>HNO.out (dGrp_bad hkl h)
         have HV16:Hid (hxB p[k]=true→hxV p[k]<16):=hxV_small p[k]
         have HN4:Hid (hxB p[k]=true→16*n+hxV p[k]<65536):=fun h=>by
          have h5:=(HX.out.step hkl h).lt
          exact Nat.lt_of_lt_of_le h5 (by
           have:16 ^ (k+1)≤16 ^ 4:=Nat.pow_le_pow_right (by omega) (by omega)
           simpa using this)
         clear hyk
         generalize hxB p[k]=hb at HIX HNX HBD HV16 HN4
         generalize hxV p[k]=dv at HIX HNX HV16 HN4
         go_wp2_with fail
         refine(HSM.out _).mono ?_
         rintro e w5 ⟨rfl,b5⟩
         have HB5:Hid (Below v1.heap.size v1 w5):=HB.out.trans (b5.mono HB.out.size)
         clear b5 HB HX
         go_wp2_with fail
         refine(HIX.out _).mono ?_
         rintro e w6 ⟨rfl,hw6⟩
         obtain rfl:w5=w6:=hw6.symm
         clear hw6 HIX
         cases hb
         ·have HRR:Hid (groupsD s.data.toList last=none):=HBD.out rfl
          have KB6:Hid (Below w.heap.size w w5):=KB1.out.trans (HB5.out.mono KB1.out.size)
          clear HNX HBD HV16 HN4 HNO HST HIS HYK HSM
          go_wp2_with fail
          refine bodyPost_ret (v:=.tuple #[.slice none 0 0,.bool false]) (by simp[results,Tryz.results188,go_sem]) rfl ⟨⟨_,rfl,by rw[HRR.out];exact rfl⟩,KB6.out⟩
         ·have HX9:=HNX.out rfl
          have hd16:=HV16.out rfl
          have hn9:=HN4.out rfl
          have HXX:Hid (HxS p (k+1) (16*n+dv)):=HX9
          have hdn:¬(dv:Int)<0:=by omega
          clear HNX HBD HV16 HN4 HX9
          go_wp2_with fail
          go_roundw
          case rel=>exact⟨k+1,16*n+dv,by go_num,by go_num,by omega,hn9,HXX,HB5⟩
          case measure=>simp[intOf];omega
        ·obtain rfl:k=p.length:=by omega
         have hkl':¬(p.length:Int)<(X.size:Int):=by omega
         obtain⟨hg,_⟩:=HX.out.fin h1 h4
         obtain⟨qa,hqa⟩:∃a,a=n / 256:=⟨_,rfl⟩
         obtain⟨qb,hqb⟩:∃a,a=n % 256:=⟨_,rfl⟩
         rw[←hqa,←hqb]at hg
         have HIS2:Hid (dGrps last L=(dGrps last (L.drop (i+1))).map ((acc++[qa,qb])++·)):=by
          show _=_
          rw[HIS.out,HST.out,hg]
          cases dGrps last (L.drop (i+1))<;>simp
         have t1:(n:Int).tdiv 256=(qa:Int):=by rw[Int.tdiv_eq_ediv_of_nonneg (by omega)];omega
         have t2:(n:Int).tmod 256=(qb:Int):=by rw[Int.tmod_eq_emod_of_nonneg (by omega)];omega
         have t3:(n:Int) / 256=(qa:Int):=by omega
         have t4:(n:Int) % 256=(qb:Int):=by omega
         have hqa2:qa<256:=by omega
         have hqb2:qb<256:=by omega
         have HY3:Hid (Below wL.heap.size wL wr):=HY2.out.trans (HB.out.mono HY2.out.size)
         have HO3:Hid (wr.ownsRow wL.heap.size 5 1 u6 acc.length (cells8 acc)):=ownN_below HO2.out HB.out
         have hzw:=HY3.out.size
         have hacc:acc.length≤8000010:=by omega
         clear HIS HST hg hqa hqb HX HNO HYK HSM HB HO2 HY2
         go_wp2_with (at_builtin;refine wpList_append_u8 rfl _ _ rfl wL.heap.size _ acc.length acc rfl (ownN_below HO3.out ((Below.refl _ _).alloc (Nat.le_refl _) _)) wr.heap.size 2 [qa,qb] rfl rfl (Lies.new wr _ _) (by omega) (by simp;omega) ?_)
         intro v9 w9 hown9 hgrow9
         have hg9:=grown_on (World.grownBy_alloc wr _ (u6:Value).ownBlock) hgrow9 (fun _ h=>.inl h.symm)
         have HB9:Hid (Below wL.heap.size wL w9):=HY3.out.grown hg9 HY3.out.size (fun q hq=>(HO3.out.lt q hq).1)
         have HS9:Hid (GrS w wL last L (i+1) (acc++[qa,qb]) v9 w9):=⟨by rw[List.length_append];exact hown9,by simp;omega,HIS2.out,HB9.out⟩
         clear hown9 hgrow9 hg9 HO3 HB9 HIS2
         go_wp2
         go_roundw
         case rel=>exact⟨i+1,acc++[qa,qb],by omega,by go_num,HS9⟩
         case measure=>simp[intOf];omega
      ·have h4':(4:Int)<(X.size:Int):=by omega
       have HRR:Hid (groupsD s.data.toList last=none):=HNO.out (dGrp_len fun h=>h4 h.2)
       clear HNO h4 HST HIS
       go_wp2_with fail
       refine bodyPost_ret (v:=.tuple #[.slice none 0 0,.bool false]) (by simp[results,Tryz.results188,go_sem]) rfl ⟨⟨_,rfl,by rw[HRR.out];exact rfl⟩,KB1.out⟩
     ·have h1':(X.size:Int)<1:=by omega
      have HRR:Hid (groupsD s.data.toList last=none):=HNO.out (dGrp_len fun h=>h1 h.1)
      clear HNO h1 HST HIS
      go_wp2_with fail
      refine bodyPost_ret (v:=.tuple #[.slice none 0 0,.bool false]) (by simp[results,Tryz.results188,go_sem]) rfl ⟨⟨_,rfl,by rw[HRR.out];exact rfl⟩,KB1.out⟩
   ·obtain rfl:i=L.length:=by omega
    have hlt':¬(L.length:Int)<(L.length:Int):=by omega
    have HR:Hid (GrpA (groupsD s.data.toList last) w.heap.size (.tuple #[u6,.bool true]) wr):=by
     show GrpA _ _ _ _
     rw[HG.out,HS.out.is,List.drop_eq_nil_of_le (Nat.le_refl _)]
     refine⟨u6,rfl,?_⟩
     have:=base_le HS.out.own HBL.out.size
     simpa using this
    have HB:Hid (Below w.heap.size w wr):=HBL.out.trans (HS.out.below.mono HBL.out.size)
    clear HS
    go_wp2_with fail
    refine bodyPost_ret (v:=.tuple #[u6,.bool true]) (by simp[results,Tryz.results188,go_sem]) rfl ⟨⟨_,rfl,HR.out⟩,HB.out⟩
theorem cut2_at:∀(l h t:List UInt8),cut2 l=some (h,t)→l=h++58::58::t
 |[],h,t,e=>by cases e
 |[_],h,t,e=>by cases e
 |c::d::r,h,t,e=>by
  rw[cut2]at e
  split at e
  ·rename_i hc
   cases e
   rw[hc.1,hc.2]
   rfl
  ·cases hq:cut2 (d::r) with
   |none=>rw[hq]at e;cases e
   |some x=>
    rw[hq]at e
    cases e
    have:=cut2_at (d::r) x.1 x.2 hq
    rw[this]
    rfl
theorem index2:∀l:List UInt8,Lib.index l [58,58]=match cut2 l with
  |none=> -1
  |some x=>(x.1.length:Int)
 |[]=>rfl
 |[c]=>by
  rw[Lib.index,Lib.index]
  simp[List.isPrefixOf,cut2]
 |c::d::r=>by
  rw[Lib.index,index2 (d::r),cut2]
  by_cases h:c=58∧d=58
  ·rw[if_pos h,if_pos (by rw[h.1,h.2];simp[List.isPrefixOf])]
   rfl
  ·rw[if_neg h,if_neg (by
    simp only[List.isPrefixOf,Bool.and_eq_true,beq_iff_eq,Bool.and_true]
    intro hh
    exact h ⟨hh.1.symm,hh.2.symm⟩)]
   cases hq:cut2 (d::r) with
   |none=>rfl
   |some x=>
    dsimp only[Option.map]
    rw[if_neg (by
     rw[beq_iff_eq]
     intro hh
     have h0:(0:Int)≤(x.1.length:Int):=Int.natCast_nonneg _
     rw[hh]at h0
     exact absurd h0 (by decide))]
    simp
theorem cut_cut2 (l:List UInt8):Lib.cut l [58,58]=match cut2 l with
  |none=>(l,[],false)
  |some x=>(x.1,x.2,true):=by
 unfold Lib.cut
 rw[index2]
 cases hq:cut2 l with
 |none=>rfl
 |some x=>
  dsimp only
  have:=cut2_at l x.1 x.2 hq
  rw[if_pos (Int.natCast_nonneg _),Int.toNat_natCast]
  rw[this]
  simp
open Go.RowKit
def w6V (s:List UInt8):Value:=.tuple #[.agg (bytesV ((whole6 s).getD (List.replicate 16 0))),.bool (whole6 s).isSome]
theorem w6_none {s:List UInt8} (h:whole6 s=none):w6V s=.tuple #[.agg #[.int .u8 0,.int .u8 0,.int .u8 0,.int .u8 0,.int .u8 0,.int .u8 0,.int .u8 0,.int .u8 0,.int .u8 0,.int .u8 0,.int .u8 0,.int .u8 0,.int .u8 0,.int .u8 0,.int .u8 0,.int .u8 0],.bool false]:=by
 unfold w6V
 rw[h]
 rfl
theorem w6_some {s:List UInt8} {l:List Nat} (h:whole6 s=some l):w6V s=.tuple #[.agg (bytesV l),.bool true]:=by
 unfold w6V
 rw[h]
 rfl
theorem cells8_len (l:List Nat):(cells8 l).length=l.length:=List.length_map ..
theorem own_u8 {w:World} {base n:Nat} {v:Value} {l:List Nat} (h:w.ownsRow base 5 1 v n (cells8 l)):∃a cap,v=.slice a l.length cap∧(l≠[]→∃g,a=some ⟨g,0,none⟩∧∀j u,(cells8 l)[j]?=some u→w.cell? ⟨g,j,none⟩=some u):=by
 obtain⟨h1,h2⟩:=id h
 have hl:l.length=n:=by rw[cells8_len]at h1;omega
 rcases h2 with⟨rfl,h0⟩|⟨g,cap,cur,rfl,hb,hg,hcap,_⟩
 ·exact⟨none,0,by rw[hl,h0],fun hne=>absurd (List.eq_nil_of_length_eq_zero (hl.trans h0)) hne⟩
 ·subst hl
  refine⟨_,cap,rfl,fun _=>⟨g,rfl,fun j u hu=>?_⟩⟩
  have hj:j<(cells8 l).length:=(List.getElem?_eq_some_iff.1 hu).1
  have:=h.cellAt j (by rw[cells8_len]at hj;omega)
  rw[this]
  exact hu
theorem cells8_one (l:List Nat):∀v∈cells8 l,v.oneCell'=true:=fun v hv=>by
 unfold cells8 at hv
 obtain⟨n,_,rfl⟩:=List.mem_map.1 hv
 rfl
theorem copy_u8 {w:World} {base n g o dLen dCap:Nat} {u:Value} {b:List Nat} {cur:Array Value} (hown:w.ownsRow base 5 1 u n (cells8 b)) (hl:Lies w g cur 23) (hd:b.length≤dLen) (hf:o+b.length≤cur.size) (A:Option Addr) (hA:b≠[]→A=some ⟨g,o,none⟩):
  ∃w',(Builtin.copy_ #[98,98] 3 #[.slice A dLen dCap,u]).run Tryz.prog w=.ok (goInt b.length) w'∧Lies w' g (cur.toList.take o++cells8 b++cur.toList.drop (o+b.length)).toArray 23∧(w'=w∨w'=w.setRow g (cur.toList.take o++cells8 b++cur.toList.drop (o+b.length)).toArray):=by
 have h5:(Tryz.prog.info? 5).map (·.size)=some 1:=by kernel_rfl
 obtain⟨a,cap,rfl,hsrc⟩:=own_u8 hown
 by_cases hb:b=[]
 ·subst hb
  refine⟨w,run_copy_none w 98 98 3 5 A a dLen dCap 0 cap Tryz.underlying98 h5 (by simp),?_,.inl rfl⟩
  have:(cur.toList.take o++cells8 []++cur.toList.drop (o+([]:List Nat).length)).toArray=cur:=by
   simp[cells8]
  rw[this]
  exact hl
 ·obtain⟨gs,rfl,hc⟩:=hsrc hb
  obtain rfl:=hA hb
  have hrun:=run_copy_row (P:=Tryz.prog) w 98 98 3 5 g o dLen dCap ⟨gs,0,none⟩ b.length cap cur 23 (cells8 b) Tryz.underlying98 h5 hl (by rw[cells8_len];exact(Nat.min_eq_left hd).symm) (fun j v hv=>by rw[Addr.add_lit,Nat.zero_add];exact hc j v hv) (by rw[cells8_len];exact hf) (cells8_one b)
  rw[cells8_len]at hrun
  exact⟨_,hrun,hl.row _,.inr rfl⟩
theorem dGrps_short (last:Bool):∀(L:List (List UInt8)) (b:List Nat),dGrps last L=some b→b.length≤4*L.length
 |[],b,h=>by
  rw[dGrps]at h
  injection h with h
  rw[←h]
  simp
 |[p],b,h=>by
  rw[dGrps]at h
  have key:dGrp p=some b→b.length≤4*[p].length:=fun h=>by
   rw[(dGrp_some h).2.2.2]
   simp
  split at h
  ·split at h
   ·rename_i v hv
    injection h with h
    subst h
    rw[whole4_len hv]
    simp
   ·exact key h
  ·exact key h
 |p::q::r,b,h=>by
  rw[dGrps]at h
  cases hp:dGrp p with
  |none=>rw[hp]at h;cases h
  |some b1=>
   rw[hp]at h
   cases hr:dGrps last (q::r) with
   |none=>rw[hr]at h;cases h
   |some b2=>
    rw[hr]at h
    have e:b=b1++b2:=by
     have:some (b1++b2)=some b:=h
     injection this with this
     exact this.symm
    have h1:=(dGrp_some hp).2.2.2
    have h2:=dGrps_short last (q::r) b2 hr
    rw[e,h1]
    simp at h2 ⊢
    omega
theorem groups_short {s:List UInt8} {last:Bool} {b:List Nat} (h:groupsD s last=some b):b.length≤4*(s.length+1):=by
 unfold groupsD at h
 split at h
 ·injection h with h
  rw[←h]
  simp
 ·have h1:=dGrps_short _ _ _ h
  have h2:=(splitB_short 58 s).2
  omega
theorem slice_end (g m:Nat) (hm:m≤16):∃A:Option Addr,(m≠0→A=some ⟨g,16 - m,none⟩)∧∀W,(Instr.sliceAt 23 (.pointer (some ⟨g,0,none⟩)) (some (.int .i64 (16 - (m:Int)))) none none).run Tryz.prog W=.ok (.slice A m m) W:=by
 have hal:Tryz.prog.arrayLen 23=16:=by simp[Program.arrayLen,Tryz.underlying23]
 refine⟨if m=0 then some ⟨g,0,none⟩ else some ⟨g,16 - m,none⟩,fun h=>if_neg h,fun W=>?_⟩
 rw[run_sliceAt_array_l W 23 ⟨g,0,none⟩ (by simp[Program.arrayLen,Program.elem,Tryz.underlying23]) .i64 (16 - (m:Int)) (by omega) (by rw[hal];omega),hal]
 have e1:(16 - (m:Int)).toNat=16 - m:=by omega
 rw[e1]
 have e2:16 - (16 - m)=m:=by omega
 have hz:Tryz.prog.elem 23=5:=by simp[Program.elem,Tryz.underlying23]
 rw[hz]
 unfold slicedAt
 rw[e2]
 go_simp
 by_cases h0:m=0
 ·simp[h0]
 ·have:¬16=16 - m:=by omega
  simp[h0,this]
theorem row_end {b c:List Nat} {M:Array Value} (h:b.length+c.length≤12) (hM:M.toList=cells8 b++List.replicate (16 - b.length) (Value.int .u8 0)):(M.toList.take (16 - c.length)++cells8 c++M.toList.drop (16 - c.length+c.length)).toArray=bytesV (b++List.replicate (16 - b.length - c.length) 0++c):=by
 have hb:=cells8_len b
 have h1:16 - c.length+c.length=16:=by omega
 rw[h1,hM,List.drop_eq_nil_of_le (by rw[List.length_append,hb,List.length_replicate];omega),List.take_append,hb,List.take_of_length_le (by omega),List.take_replicate,List.append_nil]
 have h2:min (16 - c.length - b.length) (16 - b.length)=16 - b.length - c.length:=by omega
 rw[h2]
 have:cells8 (b++List.replicate (16 - b.length - c.length) 0++c)=cells8 b++List.replicate (16 - b.length - c.length) (Value.int .u8 0)++cells8 c:=by simp[cells8]
 unfold bytesV
 first|rw[←this];rfl|rw[←this]
theorem own_row {w:World} {B n g:Nat} {v:Value} {xs:List Value} {cs:Array Value} (h:w.ownsRow B 5 1 v n xs) (hl:Lies w g cs 23) (cs':Array Value):(w.setRow g cs').ownsRow B 5 1 v n xs:=
 own_keep h (fun k hk=>setRow_other w g k cs' (own_apart h hl (by decide) k hk))
end Go.Proofs.YtfjpkfhbmldmfaaGreatDoor
