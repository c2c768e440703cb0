/-
  The plain mathematics of capitals: no Go in sight.
-/
import Derived.Test.YtfjpkfhbmldmfabGreatDoorProg
import Derived.WalkKit
import Derived.WalkSpells
import Derived.Below
import Derived.Laws.IdiomStrings
import Derived.Test.YtfjpkfhbmldmfabGreatDoorWe8
import Derived.Test.YtfjpkfhbmldmfabGreatDoorLate5
namespace Go.Proofs.YtfjpkfhbmldmfabGreatDoor
def upB (b:UInt8):UInt8:=if 97≤b.toNat∧b.toNat≤122 then UInt8.ofNat (b.toNat - 32) else b
def upL (l:List UInt8):List UInt8:=l.map upB
def upS (s:ByteArray):ByteArray:=⟨(upL s.data.toList).toArray⟩
theorem upB_no (b:UInt8) (h:¬(97≤b.toNat∧b.toNat≤122)):upB b=b:=if_neg h
theorem upB_yes (b:UInt8) (h1:97≤b.toNat) (h2:b.toNat≤122):(upB b).toNat=b.toNat - 32:=by
 unfold upB
 rw[if_pos ⟨h1,h2⟩]
 simp
 omega
def upAt (l:List UInt8) (k j:Nat):UInt8:=if j<k then upB (l.getD j 0) else l.getD j 0
theorem upAt_zero (l:List UInt8) (j:Nat):upAt l 0 j=l.getD j 0:=by simp[upAt]
theorem upAt_self (l:List UInt8) (k:Nat):upAt l k k=l.getD k 0:=by simp[upAt]
theorem upAt_step (l:List UInt8) (k:Nat):upAt l (k+1) k=upB (l.getD k 0):=by simp[upAt]
theorem upAt_other (l:List UInt8) (k j:Nat) (h:j≠k):upAt l (k+1) j=upAt l k j:=by
 unfold upAt
 by_cases h1:j<k
 ·rw[if_pos h1,if_pos (by omega)]
 ·rw[if_neg h1,if_neg (by omega)]
theorem upAt_all (l:List UInt8) (n j:Nat) (hn:n=l.length) (h:j<(upL l).length):upAt l n j=(upL l)[j]:=by
 have h':j<l.length:=by simpa [upL] using h
 subst hn
 simp[upAt,upL,h',List.getD_eq_getElem?_getD]
open Go.RowKit
structure UpRel (s:ByteArray) (B:Nat) (w:World) (k:Nat) (wr:World):Prop where
 cell:∀j,j<s.size→wr.cell? ⟨B,j,none⟩=some (.int .u8 ((upAt s.data.toList k j).toNat:Int))
 free:∀j,j<s.size→wr.frozen? ⟨B,j,none⟩=false
 below:Below B w wr
theorem UpRel.same {s:ByteArray} {B:Nat} {w wr:World} {k:Nat} (h:UpRel s B w k wr) (hn:¬(97≤(s.data.toList.getD k 0).toNat∧(s.data.toList.getD k 0).toNat≤122)):UpRel s B w (k+1) wr:=by
 refine⟨fun j hj=>?_,h.free,h.below⟩
 rw[h.cell j hj]
 by_cases e:j=k
 ·subst e
  rw[upAt_self,upAt_step,upB_no _ hn]
 ·rw[upAt_other _ _ _ e]
theorem UpRel.put {s:ByteArray} {B:Nat} {w wr:World} {k:Nat} (h:UpRel s B w k wr) (hk:k<s.size) (h1:97≤(s.data.toList.getD k 0).toNat) (h2:(s.data.toList.getD k 0).toNat≤122):
  UpRel s B w (k+1) (wr.setCell ⟨B,k,none⟩ (.int .u8 (((s.data.toList.getD k 0).toNat:Int) - 97+65))):=by
 refine⟨fun j hj=>?_,fun j hj=>?_,h.below.setCell (Nat.le_refl _) _⟩
 ·by_cases e:j=k
  ·subst e
   rw[World.cell?_setCell_same _ _ _ (h.cell j hj),upAt_step,upB_yes _ h1 h2]
   congr 2
   omega
  ·rw[World.cell?_setCell_other _ _ _ _ (by intro h';injection h' with _ h';omega),h.cell j hj,upAt_other _ _ _ e]
 ·rw[World.frozen?_setCell]
  exact h.free j hj
theorem bytes_lt (s:ByteArray) (cap:Nat):s.data.size≤(bytesRow s cap).size:=by
 simp[bytesRow]
theorem UpRel.start (s:ByteArray) (w:World) (cap:Nat) (n:Nat) (hn:n=(bytesRow s cap).size):UpRel s w.heap.size w 0 (w.alloc (.cells (bytesRow s cap) 5 (n,n+1))).drew:=by
 refine⟨fun j hj=>?_,fun j hj=>?_,((Below.refl _ _).alloc (Nat.le_refl _) _).drew⟩
 ·have:=World.cell?_alloc_mark w (bytesRow s cap) 5 (n,n+1) j
  rw[bytesRow_at s cap j hj]at this
  rw[upAt_zero]
  refine Eq.trans this ?_
  rw[List.getD_eq_getElem?_getD,Array.getElem?_toList,Array.getElem?_eq_getElem hj,Option.getD_some]
 ·have:=World.frozen?_alloc_mark w (bytesRow s cap) 5 n (n+1) j
  refine Eq.trans this ?_
  have h2:=bytes_lt s cap
  have h3:s.size=s.data.size:=rfl
  rw[decide_eq_false (by omega),Bool.false_and]
theorem UpRel.back {s:ByteArray} {B:Nat} {w wr:World} (h:UpRel s B w s.size wr) (cap:Nat):
  (convert 47 9 (.slice (some ⟨B,0,none⟩) s.size cap)).run Tryz.prog wr=.ok (.string (upS s)) wr:=by
 have hl:(upL s.data.toList).length=s.size:=by rw[upL,List.length_map,Array.length_toList];rfl
 have:=run_convert_bytes_back (P:=Tryz.prog) wr 47 9 5 ⟨B,0,none⟩ cap (upL s.data.toList) Tryz.underlying47 Tryz.underlying5 Tryz.underlying9 (fun j hj=>by
  have hj':j<s.size:=by omega
  have he:(⟨B,0,none⟩:Addr).add j=⟨B,j,none⟩:=by rw[Addr.add_lit,Nat.zero_add]
  rw[he,h.cell j hj']
  rw[upAt_all s.data.toList s.size j (by rw[Array.length_toList];rfl) hj])
 rw[hl]at this
 exact this
set_option maxRecDepth 100000 in
set_option maxHeartbeats 400000 in
theorem upper_any (s:ByteArray) (w:World) (hs:s.size≤maxLen):
  Calls Tryz.prog 49 #[.string s] w fun e w'=>e=.returned (.string (upS s))∧Below w.heap.size w w':=by
 unfold maxLen at hs
 have hconv:=run_bytes_of_string (P:=Tryz.prog) w 9 47 5 s Tryz.underlying9 Tryz.underlying47 Tryz.underlying5
 obtain⟨cap,hcap⟩:∃c,c=grownCap w s.size 0 5:=⟨_,rfl⟩
 rw[←hcap]at hconv
 obtain⟨n,hn⟩:∃n,n=(bytesRow s cap).size:=⟨_,rfl⟩
 rw[←hn]at hconv
 have HR:Hid (UpRel s w.heap.size w 0 (w.alloc (.cells (bytesRow s cap) 5 (n,n+1))).drew):=UpRel.start s w cap n hn
 clear hcap hn
 go_enter Tryz.func49,Tryz.ntmps49
 go_wp2
 go_loopw [10] (fun i wr=>∃k:Nat,k≤s.size∧i=.int .i64 k∧Hid (UpRel s w.heap.size w k wr)) (fun i _=>s.size - (intOf i).toNat)
 case atStart=>exact⟨0,Nat.zero_le _,rfl,HR⟩
 case round=>
  obtain⟨k,hk,rfl,HK⟩:=hrel
  by_cases hlt:k<s.size
  ·have hc:=HK.out.cell k hlt
   have hf:=HK.out.free k hlt
   rw[upAt_self]at hc
   obtain⟨x,hx⟩:∃x:UInt8,x=s.data.toList.getD k 0:=⟨_,rfl⟩
   rw[←hx]at hc
   have HX:Hid (x=s.data.toList.getD k 0):=hx
   clear hx
   have hx1:x.toNat<256:=x.toNat_lt
   by_cases h1:97≤x.toNat
   ·by_cases h2:x.toNat≤122
    ·have HN:Hid (UpRel s w.heap.size w (k+1) (wr.setCell ⟨w.heap.size,k,none⟩ (.int .u8 ((x.toNat:Int) - 97+65)))):=by
      have:=HK.out.put hlt (by rw[←HX.out];exact h1) (by rw[←HX.out];exact h2)
      rw[←HX.out]at this
      exact this
     clear HK
     go_wp2
     go_roundw
     case rel=>exact⟨k+1,by omega,by go_num,HN⟩
     case measure=>simp[intOf];omega
    ·have HN:Hid (UpRel s w.heap.size w (k+1) wr):=HK.out.same (by rw[←HX.out];omega)
     clear HK
     go_wp2
     go_roundw
     case rel=>exact⟨k+1,by omega,by go_num,HN⟩
     case measure=>simp[intOf];omega
   ·have HN:Hid (UpRel s w.heap.size w (k+1) wr):=HK.out.same (by rw[←HX.out];omega)
    clear HK
    go_wp2
    go_roundw
    case rel=>exact⟨k+1,by omega,by go_num,HN⟩
    case measure=>simp[intOf];omega
  ·have he:k=s.size:=by omega
   subst he
   have hback:=HK.out.back cap
   have HB:Hid (Below w.heap.size w wr):=HK.out.below
   clear HK
   go_wp2
   go_ret
   exact⟨rfl,HB.out⟩
open Go.RowKit
def sameB (a b:ByteArray):Bool:=(upS a).toList==(upS b).toList
set_option maxHeartbeats 400000 in
theorem same_any (a b:ByteArray) (w:World) (ha:a.size≤maxLen) (hb:b.size≤maxLen):
  Calls Tryz.prog 34 #[.string a,.string b] w fun e w'=>e=.returned (.bool (sameB a b))∧Below w.heap.size w w':=by
 go_enter Tryz.func34,Tryz.ntmps34
 go_wp2_with fail
 refine(upper_any a _ ha).mono ?_
 rintro e w1 ⟨rfl,hb1⟩
 go_wp2_with fail
 refine(upper_any b _ hb).mono ?_
 rintro e w2 ⟨rfl,hb2⟩
 go_wp2
 go_ret
 exact⟨rfl,hb1.trans (hb2.mono hb1.size)⟩
open Go.RowKit
theorem badN_spB (c:Int) (f:UInt8→Bool) (h:∀b:UInt8,isB c (b.toNat:Int)=f b):∀l:List UInt8,badN c l=spB f l
 |[]=>rfl
 |b::r=>by
  rw[badN,spB,badN_spB c f h r,h b]
theorem ext_take (s:ByteArray) (k:Nat):(s.extract 0 k).data.toList=s.data.toList.take k:=by
 rw[ext_list]
 simp
set_option maxHeartbeats 1000000 in
set_option maxRecDepth 100000 in
theorem wtw_any (b:Nat) (p:Nat) (w:World) (hc:w.cell? ⟨b,0,none⟩=some (.int .i64 (p:Nat))):
  Calls Tryz.prog 90 #[.pointer (some ⟨b,0,none⟩)] w fun e w'=>e=.returned (.agg #[.int .i64 83,.int .i64 (p:Nat)])∧Below w.heap.size w w':=by
 have hb:b<w.heap.size:=World.block_lt_of_cell? w _ hc
 have HL:Hid (Lies ((w.alloc (.cells #[.int .i64 0,.int .i64 0] 35)).setRow w.heap.size #[.int .i64 83,.int .i64 (p:Int)]) w.heap.size #[.int .i64 83,.int .i64 (p:Int)] 35):=(Lies.new w _ _).row _
 have HL0:Hid (Lies (w.alloc (.cells #[.int .i64 0,.int .i64 0] 35)) w.heap.size #[.int .i64 0,.int .i64 0] 35):=Lies.new w _ _
 have HB:Hid (Below w.heap.size w ((w.alloc (.cells #[.int .i64 0,.int .i64 0] 35)).setRow w.heap.size #[.int .i64 83,.int .i64 (p:Int)])):=below_row ((Below.refl _ _).alloc (Nat.le_refl _) _) (Nat.le_refl _) _
 go_enter Tryz.func90,Tryz.ntmps90
 go_wp2_with (refine wpList_store_row rfl 35 _ _ rfl w.heap.size rfl _ #[.int .i64 83,.int .i64 (p:Int)] rfl 35 HL0.out infoSp rfl (by simp[Value.oneCell']) rfl ?_)
 exact bodyPost_ret (results_row (p:=1) (by kernel_rfl) _ _ w.heap.size 35 _ (0,0) _ rfl HL.out Tryz.underlying35 rfl infoSp) rfl ⟨rfl,HB.out⟩
structure WtS (w:World) (a:Nat) (wr:World):Prop where
 r:Lies wr w.heap.size #[.int .i64 0,.int .i64 0] 35
 pa:Lies wr (w.heap.size+1) #[.int .i64 (a:Nat)] 3
 below:Below w.heap.size w wr
theorem WtS.later {w wr wx:World} {a:Nat} (h:WtS w a wr) (hb:Below wr.heap.size wr wx):WtS w a wx:=
 ⟨h.r.below hb h.r.lt,h.pa.below hb h.pa.lt,h.below.trans (hb.mono (Nat.le_of_lt h.r.lt))⟩
theorem WtS.setA {w wr:World} {a:Nat} (h:WtS w a wr) (m:Nat):WtS w m (wr.setCell ⟨w.heap.size+1,0,none⟩ (.int .i64 (m:Nat))):=
 ⟨h.r.set_other (a:=⟨w.heap.size+1,0,none⟩) (by show w.heap.size≠w.heap.size+1;omega) _,h.pa.set 0 _,h.below.setCell (p:=⟨w.heap.size+1,0,none⟩) (by show w.heap.size≤w.heap.size+1;omega) _⟩
theorem WtS.ret {w wr:World} {a:Nat} (h:WtS w a wr) (ds:Array Value) (R:Ending→World→Prop) (tmps:Array Value) (hq:tmps.getD 4 undef=.pointer (some ⟨w.heap.size,0,none⟩)) (hd:ds.size=2)
  (hR:R (.returned (.agg ds)) (wr.setRow w.heap.size ds)):bodyPost Tryz.prog Tryz.f73 R .ret {tmps:=tmps,defers:=[]} (wr.setRow w.heap.size ds):=
 bodyPost_ret (results_row (p:=4) (by kernel_rfl) tmps _ w.heap.size 35 ds (0,0) _ hq (h.r.row ds) Tryz.underlying35 rfl (by rw[hd];exact infoSp)) rfl hR
set_option maxHeartbeats 4000000 in
set_option maxRecDepth 100000 in
theorem wt_any (t:ByteArray) (k:Nat) (w:World) (ht:Table w) (hg:0<w.heap.size) (hk:k<t.size) (hs:t.size≤255):
  Calls Tryz.prog 73 #[.string t,.int .i64 (k:Nat)] w fun e w'=>e=.returned (.agg (spotV (tagged t.data.toList k)))∧Below w.heap.size w w':=by
 have HT:Hid (∀wx,Below w.heap.size w wx→Table wx):=fun wx hb=>ht.below hg hb
 obtain⟨n,hn⟩:∃n,n=spB lbB (t.data.toList.take k):=⟨_,rfl⟩
 obtain⟨m,hm⟩:∃m,m=spB plB (t.data.toList.drop (k+1)):=⟨_,rfl⟩
 have hnk:n≤k:=by
  rw[hn]
  refine Nat.le_trans (spB_le _ _) ?_
  rw[List.length_take]
  omega
 have hml:k+1+m≤t.size:=by
  have:=spB_le plB (t.data.toList.drop (k+1))
  rw[List.length_drop,len_list]at this
  omega
 have HTG:Hid (tagged t.data.toList k=if n<k∨k=0∨t.data.toList[k - 1]?=some 45 then (83,n) else if k+1+m<t.size∨m=0 then (83,k+1+m) else (0,0)):=by
  show _=_
  unfold tagged
  rw[←hn,←hm,len_list]
 have HBAD:Hid (∀wx,Below w.heap.size w wx→Calls Tryz.prog 38 #[.int .i64 10,.string (t.extract 0 k)] wx fun e w'=>e=.returned (.int .i64 (n:Nat))∧w'=wx):=fun wx hb=>by
  have:=bad_anyT 10 (t.extract 0 k) wx (HT.out wx hb) (by rw[ByteArray.size_extract];unfold maxLen;omega)
  rw[ext_take,badN_spB 10 lbB (fun b=>(ld_is b).2.2.1),←hn]at this
  exact this
 have HSPAN:Hid (∀wx,Below w.heap.size w wx→Calls Tryz.prog 51 #[.int .i64 7,.string t,.int .i64 ((k:Int)+1)] wx fun e w'=>e=.returned (.int .i64 ((k+1+m:Nat):Int))∧w'=wx):=fun wx hb=>by
  have:=span_anyT 7 ((k+1:Nat):Int) t wx (HT.out wx hb) (by unfold maxLen;omega)
  rw[spanI_nat,badN_spB 7 plB (fun b=>(ld_is b).2.2.2.1),←hm]at this
  exact this
 have H0:Hid (WtS w n ((w.alloc (.cells #[.int .i64 0,.int .i64 0] 35)).alloc (.cells #[.int .i64 (n:Nat)] 3))):=⟨(Lies.new w _ _).alloc _,new_one w _ _ _,((Below.refl _ _).alloc (Nat.le_refl _) _).alloc (by simp) _⟩
 have hk':(k:Int)≤(t.size:Int):=by omega
 have hext:min k t.size=k:=by omega
 clear hn hm ht hg
 go_enter Tryz.func73,Tryz.ntmps73
 go_wp2_with fail
 refine(HBAD.out _ ((Below.refl _ _).alloc (Nat.le_refl _) _)).mono ?_
 rintro e w1 ⟨rfl,rfl⟩
 by_cases h1:n<k
 ·have h1':(n:Int)<(k:Int):=by omega
  have HV:Hid (tagged t.data.toList k=(83,n)):=by show _=_;rw[HTG.out,if_pos (Or.inl h1)]
  have hc:=H0.out.pa.cell 0
  clear HTG h1 HBAD HSPAN
  go_wp2_with fail
  refine(wtw_any (w.heap.size+1) n _ hc).mono ?_
  rintro e w5 ⟨rfl,hb5⟩
  have HS5:Hid (WtS w n w5):=H0.out.later hb5
  clear hb5 H0
  go_wp2_with (refine wpList_store_row rfl 35 _ _ rfl w.heap.size rfl _ #[.int .i64 83,.int .i64 (n:Int)] rfl 35 HS5.out.r infoSp rfl (by simp[Value.oneCell']) rfl ?_)
  exact HS5.out.ret #[.int .i64 83,.int .i64 (n:Int)] _ _ rfl rfl ⟨by rw[HV.out];rfl,below_row HS5.out.below (Nat.le_refl _) _⟩
 ·obtain rfl:n=k:=by omega
  have h1':¬(n:Int)<(n:Int):=by omega
  by_cases h0:n=0
  ·subst h0
   have HV:Hid (tagged t.data.toList 0=(83,0)):=by show _=_;rw[HTG.out,if_pos (Or.inr (Or.inl rfl))]
   have hc:=H0.out.pa.cell 0
   clear HTG HBAD HSPAN
   go_wp2_with fail
   refine(wtw_any (w.heap.size+1) 0 _ hc).mono ?_
   rintro e w5 ⟨rfl,hb5⟩
   have HS5:Hid (WtS w 0 w5):=H0.out.later hb5
   clear hb5 H0
   go_wp2_with (refine wpList_store_row rfl 35 _ _ rfl w.heap.size rfl _ #[.int .i64 83,.int .i64 0] rfl 35 HS5.out.r infoSp rfl (by simp[Value.oneCell']) rfl ?_)
   exact HS5.out.ret #[.int .i64 83,.int .i64 0] _ _ rfl rfl ⟨by rw[HV.out];rfl,below_row HS5.out.below (Nat.le_refl _) _⟩
  ·obtain⟨j,rfl⟩:∃j,n=j+1:=⟨n - 1,by omega⟩
   have hj:j<t.size:=by omega
   have h0':((j:Int)+1==0)=false:=by rw[beq_eq_false_iff_ne];omega
   have hlast:t.data.toList[j+1 - 1]?=some t[j]:=by rw[Nat.add_sub_cancel,list_at t j hj]
   have HTG2:Hid (tagged t.data.toList (j+1)=if t[j]=45 then (83,j+1) else if j+1+1+m<t.size∨m=0 then (83,j+1+1+m) else (0,0)):=by
    show _=_
    rw[HTG.out,hlast]
    simp
   clear HTG hlast h0 h1
   by_cases h45:t[j]=45
   ·have hn45:((t[j].toNat:Int)==45)=true:=by rw[h45];rfl
    have HV:Hid (tagged t.data.toList (j+1)=(83,j+1)):=by show _=_;rw[HTG2.out,if_pos h45]
    have hc:=H0.out.pa.cell 0
    clear HTG2 HBAD HSPAN h45
    go_wp2_with fail
    refine(wtw_any (w.heap.size+1) (j+1) _ hc).mono ?_
    rintro e w5 ⟨rfl,hb5⟩
    have HS5:Hid (WtS w (j+1) w5):=H0.out.later hb5
    clear hb5 H0
    go_wp2_with (refine wpList_store_row rfl 35 _ _ rfl w.heap.size rfl _ #[.int .i64 83,.int .i64 ((j+1:Nat):Int)] rfl 35 HS5.out.r infoSp rfl (by simp[Value.oneCell']) rfl ?_)
    exact HS5.out.ret #[.int .i64 83,.int .i64 ((j+1:Nat):Int)] _ _ rfl rfl ⟨by rw[HV.out];rfl,below_row HS5.out.below (Nat.le_refl _) _⟩
   ·have hn45:((t[j].toNat:Int)==45)=false:=by
     rw[beq_eq_false_iff_ne]
     intro e
     exact h45 (UInt8.toNat_inj.1 (by rw[show(45:UInt8).toNat=45 from rfl];omega))
    have HTG3:Hid (tagged t.data.toList (j+1)=if j+1+1+m<t.size∨m=0 then (83,j+1+1+m) else (0,0)):=by show _=_;rw[HTG2.out,if_neg h45]
    clear HTG2 h45 HBAD
    go_wp2_with fail
    refine(HSPAN.out _ H0.out.below).mono ?_
    rintro e w2 ⟨rfl,rfl⟩
    clear HSPAN
    generalize (w.alloc (.cells #[.int .i64 0,.int .i64 0] 35)).alloc (.cells #[.int .i64 ((j+1:Nat):Int)] 3)=W1 at H0 ⊢
    obtain⟨q,hq⟩:∃q,q=j+1+1+m:=⟨_,rfl⟩
    rw[←hq]at HTG3 hml ⊢
    have HS1:Hid (WtS w q (W1.setCell ⟨w.heap.size+1,0,none⟩ (.int .i64 (q:Int)))):=H0.out.setA q
    have hc1:=H0.out.pa.cell 0
    have hf1:=H0.out.pa.frozen 0
    have hz1:=H0.out.pa.lt
    simp at hc1
    by_cases hend:q<t.size∨m=0
    ·have HV:Hid (tagged t.data.toList (j+1)=(83,q)):=by show _=_;rw[HTG3.out,if_pos hend]
     have hc2:=HS1.out.pa.cell 0
     by_cases hlt:q<t.size
     ·have hlt':(q:Int)<(t.size:Int):=by omega
      clear HTG3 hend H0 hq
      go_wp2_with fail
      refine(wtw_any (w.heap.size+1) q _ hc2).mono ?_
      rintro e w5 ⟨rfl,hb5⟩
      have HS5:Hid (WtS w q w5):=HS1.out.later hb5
      clear hb5 HS1
      go_wp2_with (refine wpList_store_row rfl 35 _ _ rfl w.heap.size rfl _ #[.int .i64 83,.int .i64 (q:Int)] rfl 35 HS5.out.r infoSp rfl (by simp[Value.oneCell']) rfl ?_)
      exact HS5.out.ret #[.int .i64 83,.int .i64 (q:Int)] _ _ rfl rfl ⟨by rw[HV.out];rfl,below_row HS5.out.below (Nat.le_refl _) _⟩
     ·have hlt':¬(q:Int)<(t.size:Int):=by omega
      have heq:((q:Int)==(j:Int)+1+1)=true:=by rw[beq_iff_eq];omega
      clear HTG3 hend H0 hq
      go_wp2_with fail
      refine(wtw_any (w.heap.size+1) q _ hc2).mono ?_
      rintro e w5 ⟨rfl,hb5⟩
      have HS5:Hid (WtS w q w5):=HS1.out.later hb5
      clear hb5 HS1
      go_wp2_with (refine wpList_store_row rfl 35 _ _ rfl w.heap.size rfl _ #[.int .i64 83,.int .i64 (q:Int)] rfl 35 HS5.out.r infoSp rfl (by simp[Value.oneCell']) rfl ?_)
      exact HS5.out.ret #[.int .i64 83,.int .i64 (q:Int)] _ _ rfl rfl ⟨by rw[HV.out];rfl,below_row HS5.out.below (Nat.le_refl _) _⟩
    ·have HV:Hid (tagged t.data.toList (j+1)=(0,0)):=by show _=_;rw[HTG3.out,if_neg hend]
     have hlt':¬(q:Int)<(t.size:Int):=by omega
     have heq:((q:Int)==(j:Int)+1+1)=false:=by rw[beq_eq_false_iff_ne];omega
     clear HTG3 hend H0 hq
     go_wp2_with (refine wpList_store_row rfl 35 _ _ rfl w.heap.size rfl _ #[.int .i64 0,.int .i64 0] rfl 35 HS1.out.r infoSp rfl (by simp[Value.oneCell']) rfl ?_)
     exact HS1.out.ret #[.int .i64 0,.int .i64 0] _ _ rfl rfl ⟨by rw[HV.out];rfl,below_row HS1.out.below (Nat.le_refl _) _⟩
theorem up_six_fin:∀b:Fin 256,(upB (UInt8.ofNat b.val)=73↔smB (UInt8.ofNat b.val)=105)∧(upB (UInt8.ofNat b.val)=80↔smB (UInt8.ofNat b.val)=112)∧(upB (UInt8.ofNat b.val)=86↔smB (UInt8.ofNat b.val)=118)∧(upB (UInt8.ofNat b.val)=54↔smB (UInt8.ofNat b.val)=54)∧(upB (UInt8.ofNat b.val)=58↔smB (UInt8.ofNat b.val)=58):=by decide+kernel
theorem up_six (c:UInt8):(upB c=73↔smB c=105)∧(upB c=80↔smB c=112)∧(upB c=86↔smB c=118)∧(upB c=54↔smB c=54)∧(upB c=58↔smB c=58):=by
 have:=up_six_fin ⟨c.toNat,c.toNat_lt⟩
 simpa using this
theorem same_sixB (t:ByteArray) (h:5≤t.size):sameB (t.extract 0 5) ⟨#[73,80,118,54,58]⟩=sixB t.data.toList:=by
 have hl:5≤t.data.toList.length:=by rw[len_list];exact h
 unfold sameB sixB
 rw[decide_eq_true hl,Bool.true_and]
 have e1:(upS (t.extract 0 5)).toList=upL (t.data.toList.take 5):=by
  show(upS (t.extract 0 5)).toList=_
  rw[ByteArray.toList_eq]
  unfold upS
  rw[ext_take]
 have e2:(upS ⟨#[73,80,118,54,58]⟩).toList=[73,80,86,54,58]:=by
  rw[ByteArray.toList_eq]
  rfl
 rw[e1,e2]
 match h5:t.data.toList.take 5,(show(t.data.toList.take 5).length=5 by rw[List.length_take];omega) with
 |[a,b,c,d,e],_=>
  rw[Bool.eq_iff_iff,beq_iff_eq,decide_eq_true_eq]
  simp only[upL,sml,List.map_cons,List.map_nil,List.cons.injEq,and_true]
  rw[(up_six a).1,(up_six b).2.1,(up_six c).2.2.1,(up_six d).2.2.2.1,(up_six e).2.2.2.2]
set_option maxHeartbeats 1000000 in
set_option maxRecDepth 100000 in
theorem six_any (t:ByteArray) (w:World):Calls Tryz.prog 72 #[.string t] w fun e w'=>e=.returned (.bool (sixB t.data.toList))∧Below w.heap.size w w':=by
 by_cases h5:5≤t.size
 ·have h5':(5:Int)≤(t.size:Int):=by omega
  have HS:Hid (Calls Tryz.prog 34 #[.string (t.extract 0 5),.string ⟨#[73,80,118,54,58]⟩] w fun e w'=>e=.returned (.bool (sixB t.data.toList))∧Below w.heap.size w w'):=by
   have:=same_any (t.extract 0 5) ⟨#[73,80,118,54,58]⟩ w (by rw[ByteArray.size_extract];unfold maxLen;omega) (by unfold maxLen;decide)
   rw[same_sixB t h5]at this
   exact this
  obtain⟨r,hr⟩:∃r,r=sixB t.data.toList:=⟨_,rfl⟩
  have HR:Hid (r=sixB t.data.toList):=hr
  rw[←hr]at HS
  clear hr
  go_enter Tryz.func72,Tryz.ntmps72
  go_wp2_with fail
  refine HS.out.mono ?_
  rintro e w1 ⟨rfl,hb1⟩
  have HB1:Hid (Below w.heap.size w w1):=hb1
  clear hb1
  go_wp2_with fail
  go_ret
  exact⟨by rw[←HR.out];rfl,HB1.out⟩
 ·have h5':¬(5:Int)≤(t.size:Int):=by omega
  have hr:sixB t.data.toList=false:=by
   unfold sixB
   rw[decide_eq_false (by rw[len_list];exact h5),Bool.false_and]
  rw[hr]
  go_enter Tryz.func72,Tryz.ntmps72
  go_wp2_with fail
  go_ret
  exact⟨rfl,Below.refl _ _⟩
end Go.Proofs.YtfjpkfhbmldmfabGreatDoor
