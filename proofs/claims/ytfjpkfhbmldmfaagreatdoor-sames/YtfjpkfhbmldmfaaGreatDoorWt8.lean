/-
  The contract of domain.wrongDomain: it tells what the plain form tells.
-/
import Derived.Test.YtfjpkfhbmldmfaaGreatDoorWd8
import Derived.Test.YtfjpkfhbmldmfaaGreatDoorProg
import Derived.WalkKit
import Derived.WalkSpells
import Derived.Below
import Derived.Laws.IdiomStrings
import Derived.Test.YtfjpkfhbmldmfaaGreatDoorLate5
namespace Go.Proofs.YtfjpkfhbmldmfaaGreatDoor
open Go.RowKit
structure WdS (w:World) (s:ByteArray) (a b f:Nat) (wr:World):Prop where
 t:Lies wr w.heap.size #[.string s] 9
 r:Lies wr (w.heap.size+1) #[.int .i64 0,.int .i64 0] 32
 pa:Lies wr (w.heap.size+2) #[.int .i64 (a:Nat)] 3
 pb:Lies wr (w.heap.size+3) #[.int .i64 (b:Nat)] 3
 pf:Lies wr (w.heap.size+4) #[.int .i64 (f:Nat)] 3
 below:Below w.heap.size w wr
theorem WdS.later {w wr wx:World} {s:ByteArray} {a b f:Nat} (h:WdS w s a b f wr) (hb:Below wr.heap.size wr wx):WdS w s a b f wx:=
 ⟨h.t.below hb h.t.lt,h.r.below hb h.r.lt,h.pa.below hb h.pa.lt,h.pb.below hb h.pb.lt,h.pf.below hb h.pf.lt,h.below.trans (hb.mono (Nat.le_of_lt h.t.lt))⟩
theorem WdS.setA {w wr:World} {s:ByteArray} {a b f:Nat} (h:WdS w s a b f wr) (m:Nat):WdS w s m b f (wr.setCell ⟨w.heap.size+2,0,none⟩ (.int .i64 (m:Nat))):=
 ⟨h.t.set_other (a:=⟨w.heap.size+2,0,none⟩) (by show w.heap.size≠w.heap.size+2;omega) _,h.r.set_other (a:=⟨w.heap.size+2,0,none⟩) (by show w.heap.size+1≠w.heap.size+2;omega) _,h.pa.set 0 _,h.pb.set_other (a:=⟨w.heap.size+2,0,none⟩) (by show w.heap.size+3≠w.heap.size+2;omega) _,h.pf.set_other (a:=⟨w.heap.size+2,0,none⟩) (by show w.heap.size+4≠w.heap.size+2;omega) _,h.below.setCell (p:=⟨w.heap.size+2,0,none⟩) (by show w.heap.size≤w.heap.size+2;omega) _⟩
theorem WdS.setB {w wr:World} {s:ByteArray} {a b f:Nat} (h:WdS w s a b f wr) (m:Nat):WdS w s a m f (wr.setCell ⟨w.heap.size+3,0,none⟩ (.int .i64 (m:Nat))):=
 ⟨h.t.set_other (a:=⟨w.heap.size+3,0,none⟩) (by show w.heap.size≠w.heap.size+3;omega) _,h.r.set_other (a:=⟨w.heap.size+3,0,none⟩) (by show w.heap.size+1≠w.heap.size+3;omega) _,h.pa.set_other (a:=⟨w.heap.size+3,0,none⟩) (by show w.heap.size+2≠w.heap.size+3;omega) _,h.pb.set 0 _,h.pf.set_other (a:=⟨w.heap.size+3,0,none⟩) (by show w.heap.size+4≠w.heap.size+3;omega) _,h.below.setCell (p:=⟨w.heap.size+3,0,none⟩) (by show w.heap.size≤w.heap.size+3;omega) _⟩
theorem WdS.setF {w wr:World} {s:ByteArray} {a b f:Nat} (h:WdS w s a b f wr) (m:Nat):WdS w s a b m (wr.setCell ⟨w.heap.size+4,0,none⟩ (.int .i64 (m:Nat))):=
 ⟨h.t.set_other (a:=⟨w.heap.size+4,0,none⟩) (by show w.heap.size≠w.heap.size+4;omega) _,h.r.set_other (a:=⟨w.heap.size+4,0,none⟩) (by show w.heap.size+1≠w.heap.size+4;omega) _,h.pa.set_other (a:=⟨w.heap.size+4,0,none⟩) (by show w.heap.size+2≠w.heap.size+4;omega) _,h.pb.set_other (a:=⟨w.heap.size+4,0,none⟩) (by show w.heap.size+3≠w.heap.size+4;omega) _,h.pf.set 0 _,h.below.setCell (p:=⟨w.heap.size+4,0,none⟩) (by show w.heap.size≤w.heap.size+4;omega) _⟩
theorem WdS.cells {w wr:World} {s:ByteArray} {a b f:Nat} (h:WdS w s a b f wr):wr.cell? ⟨w.heap.size,0,none⟩=some (.string s)∧wr.cell? ⟨w.heap.size+2,0,none⟩=some (.int .i64 (a:Nat))∧wr.cell? ⟨w.heap.size+3,0,none⟩=some (.int .i64 (b:Nat))∧wr.cell? ⟨w.heap.size+4,0,none⟩=some (.int .i64 (f:Nat))∧wr.frozen? ⟨w.heap.size+2,0,none⟩=false∧wr.frozen? ⟨w.heap.size+3,0,none⟩=false∧wr.frozen? ⟨w.heap.size+4,0,none⟩=false∧w.heap.size+4<wr.heap.size:=
 ⟨h.t.cell 0,h.pa.cell 0,h.pb.cell 0,h.pf.cell 0,h.pa.frozen 0,h.pb.frozen 0,h.pf.frozen 0,h.pf.lt⟩
theorem WdS.ret {w wr:World} {s:ByteArray} {a b f:Nat} (h:WdS w s a b f wr) (ds:Array Value) (R:Ending→World→Prop) (tmps:Array Value) (hq:tmps.getD 4 undef=.pointer (some ⟨w.heap.size+1,0,none⟩)) (hd:ds.size=2)
  (hR:R (.returned (.agg ds)) (wr.setRow (w.heap.size+1) ds)):bodyPost Tryz.prog Tryz.f101 R .ret {tmps:=tmps,defers:=[]} (wr.setRow (w.heap.size+1) ds):=
 bodyPost_ret (results_row (p:=4) (by kernel_rfl) tmps _ (w.heap.size+1) 32 ds (0,0) _ hq (h.r.row ds) Tryz.underlying32 rfl (by rw[hd];exact infoSp)) rfl hR
theorem mE_iff {s:ByteArray} {a b:Nat} {h:Bool} (hh:b<a→h=decide (s.data.toList[a - 1]?=some 45)):(0<a - b∧h=false)↔mE s a b=true:=by
 unfold mE
 constructor
 ·rintro ⟨h1,h2⟩
  have:=hh (by omega)
  rw[h2]at this
  rw[decide_eq_true (show b<a by omega),←this]
  rfl
 ·intro h1
  rw[Bool.and_eq_true,decide_eq_true_eq]at h1
  have:=hh h1.1
  rw[←this]at h1
  refine⟨by omega,?_⟩
  cases h
  ·rfl
  ·simp at h1
theorem wdGo_dot {F a n:Nat} {h:Bool} {c:UInt8} {r:List UInt8} (hc:c=46):wdGo F a n h (c::r)=if 0<n∧h=false then wdGo F (a+1) 0 false r else some a:=by
 rw[wdGo,if_pos hc]
theorem wdGo_else {F a n:Nat} {h:Bool} {c:UInt8} {r:List UInt8} (hc:¬c=46):wdGo F a n h (c::r)=if n=63∨stB F a n c=false then some a else wdGo F (a+1) (n+1) (decide (c=45)) r:=by
 rw[wdGo,if_neg hc]
set_option maxHeartbeats 8000000 in
set_option maxRecDepth 100000 in
theorem wd_any (s:ByteArray) (wide:Bool) (w:World) (ht:Table w) (hg:0<w.heap.size) (hf:Fst w):
  Calls Tryz.prog 101 #[.string s,.bool wide] w fun e w'=>e=.returned (.agg (spotV (wd wide s.data.toList)))∧Below w.heap.size w w':=by
 have HT:Hid (∀wx,Below w.heap.size w wx→Table wx):=fun wx hb=>ht.below hg hb
 have HF:Hid (∀wx,Below w.heap.size w wx→Fst wx):=fun wx hb=>hf.below hb hf.lt
 have HL0:Hid (Lies ((w.alloc (.cells #[.string s] 9)).alloc (.cells #[.int .i64 0,.int .i64 0] 32)) (w.heap.size+1) #[.int .i64 0,.int .i64 0] 32):=new_one w _ _ _
 have HB0:Hid (Below w.heap.size w ((w.alloc (.cells #[.string s] 9)).alloc (.cells #[.int .i64 0,.int .i64 0] 32))):=((Below.refl _ _).alloc (Nat.le_refl _) _).alloc (by simp) _
 have hT0:Lies ((w.alloc (.cells #[.string s] 9)).alloc (.cells #[.int .i64 0,.int .i64 0] 32)) w.heap.size #[.string s] 9:=(Lies.new w _ _).alloc _
 clear ht hf hg
 by_cases h255:255<s.size
 ·have HW:Hid (wd wide s.data.toList=(81,255)):=by
   show _=_
   unfold wd
   rw[if_pos (by rw[len_list];exact h255)]
  have h255':(255:Int)<(s.size:Int):=by omega
  clear hT0
  go_enter Tryz.func101,Tryz.ntmps101
  go_wp2_with (refine wpList_store_row rfl 32 _ _ rfl (w.heap.size+1) rfl _ #[.int .i64 81,.int .i64 255] rfl 32 HL0.out infoSp rfl (by simp[Value.oneCell']) rfl ?_)
  exact bodyPost_ret (results_row (p:=4) (by kernel_rfl) _ _ (w.heap.size+1) 32 _ (0,0) _ rfl (HL0.out.row _) Tryz.underlying32 rfl infoSp) rfl ⟨by rw[HW.out];rfl,below_row HB0.out (by omega) _⟩
 ·have hs:s.size≤255:=by omega
  have hs':¬(255:Int)<(s.size:Int):=by omega
  have H0:Hid (WdS w s 0 0 0 (((((w.alloc (.cells #[.string s] 9)).alloc (.cells #[.int .i64 0,.int .i64 0] 32)).alloc (.cells #[.int .i64 0] 3)).alloc (.cells #[.int .i64 0] 3)).alloc (.cells #[.int .i64 0] 3))):=by
   have h0:WdS w s 0 0 0 (((((w.alloc (.cells #[.string s] 9)).alloc (.cells #[.int .i64 0,.int .i64 0] 32)).alloc (.cells #[.int .i64 0] 3)).alloc (.cells #[.int .i64 0] 3)).alloc (.cells #[.int .i64 0] 3)):=
    ⟨((hT0.alloc _).alloc _).alloc _,((HL0.out.alloc _).alloc _).alloc _,((new_two w _ _ _ _).alloc _).alloc _,by
     have:=(Lies.new (((w.alloc (.cells #[.string s] 9)).alloc (.cells #[.int .i64 0,.int .i64 0] 32)).alloc (.cells #[.int .i64 0] 3)) #[.int .i64 0] 3).alloc (.cells #[.int .i64 0] 3)
     simpa using this,by
     have:=Lies.new ((((w.alloc (.cells #[.string s] 9)).alloc (.cells #[.int .i64 0,.int .i64 0] 32)).alloc (.cells #[.int .i64 0] 3)).alloc (.cells #[.int .i64 0] 3)) #[.int .i64 0] 3
     simpa using this,((HB0.out.alloc (by simp;omega) _).alloc (by simp;omega) _).alloc (by simp;omega) _⟩
   exact h0
  clear hT0 HL0 HB0 h255
  cases wide
  ·obtain⟨F,hF⟩:∃F,F=0:=⟨_,rfl⟩
   have HWD:Hid (wd false s.data.toList=match wdGo F 0 0 false s.data.toList with|none=>(0,0)|some a=>(80,a)):=by
    show _=_
    unfold wd
    rw[if_neg (by rw[len_list];omega),hF]
    rfl
   have HS0:Hid (WdS w s 0 0 F (((((w.alloc (.cells #[.string s] 9)).alloc (.cells #[.int .i64 0,.int .i64 0] 32)).alloc (.cells #[.int .i64 0] 3)).alloc (.cells #[.int .i64 0] 3)).alloc (.cells #[.int .i64 0] 3))):=by rw[hF];exact H0
   clear H0 hF
   go_enter Tryz.func101,Tryz.ntmps101
   go_wp2_with fail
   go_loopw [21] (fun _ wr=>∃(a b:Nat) (h:Bool),a≤s.size∧b≤a∧Hid (WdS w s a b F wr)∧Hid (b<a→h=decide (s.data.toList[a - 1]?=some 45))∧Hid (wdGo F 0 0 false s.data.toList=wdGo F a (a - b) h (s.data.toList.drop a))) (fun _ wr=>s.size - (match wr.cell? ⟨w.heap.size+2,0,none⟩ with|some v=>(intOf v).toNat|none=>0))
   case atStart=>exact⟨0,0,false,by omega,by omega,HS0,fun h=>absurd h (by omega),rfl⟩
   case round=>
    obtain⟨a,b,h,ha,hba,HS,HH,HV⟩:=hrel
    clear HS0
    obtain⟨c0,c2,c3,c4,f2,f3,f4,hz⟩:=HS.out.cells
    have HME:Hid ((match wr.cell? ⟨w.heap.size+2,0,none⟩ with|some v=>(intOf v).toNat|none=>0)=a):=by
     show _=_
     rw[c2]
     simp[intOf]
    have HM:Hid (∀wx,WdS w s a b F wx→Calls Tryz.prog 137 #[.pointer (some ⟨w.heap.size+2,0,none⟩),.pointer (some ⟨w.heap.size+3,0,none⟩),.pointer (some ⟨w.heap.size,0,none⟩)] wx fun e w'=>e=.returned (.bool (mE s a b))∧w'=wx):=fun wx hx=>wdm_any _ _ _ s a b wx hx.cells.2.1 hx.cells.2.2.1 hx.cells.1 ha hs
    have hiff:=mE_iff HH.out
    have HIFF:Hid ((0<a - b∧h=false)↔mE s a b=true):=hiff
    obtain⟨m,hm⟩:∃m,m=mE s a b:=⟨_,rfl⟩
    rw[←hm]at HM HIFF
    clear hm hiff
    by_cases hlt:a<s.size
    ·have hlt':(a:Int)<(s.size:Int):=by omega
     have hd:=drop_head s a hlt
     by_cases h46:s[a]=46
     ·have hn46:((s[a].toNat:Int)==46)=true:=by rw[h46];rfl
      have HV2:Hid (wdGo F 0 0 false s.data.toList=if 0<a - b∧h=false then wdGo F (a+1) 0 false (s.data.toList.drop (a+1)) else some a):=by
       show _=_
       rw[HV.out,hd,wdGo_dot h46]
      clear HV hd h46
      cases m
      ·have HV3:Hid (wdGo F 0 0 false s.data.toList=some a):=by
        show _=_
        rw[HV2.out,if_neg (fun hh=>by have:=HIFF.out.1 hh;cases this)]
       have HSx:=HS
       clear HV2 HIFF HME HH
       go_wp2_with fail
       refine(HM.out _ HS.out).mono ?_
       rintro e w2 ⟨rfl,rfl⟩
       clear HM HS
       go_wp2_with fail
       refine(wdw_any (w.heap.size+2) (a) _ HSx.out.cells.2.1).mono ?_
       rintro e w5 ⟨rfl,hb5⟩
       have HS5:=HSx.out.later hb5
       clear hb5
       have HS6:Hid (WdS w s (a) b F w5):=HS5
       clear HS5
       go_wp2_with (refine wpList_store_row rfl 32 _ _ rfl (w.heap.size+1) rfl _ #[.int .i64 80,.int .i64 ((a:Nat):Int)] rfl 32 HS6.out.r infoSp rfl (by simp[Value.oneCell']) rfl ?_)
       exact HS6.out.ret #[.int .i64 80,.int .i64 ((a:Nat):Int)] _ _ rfl rfl ⟨by rw[HWD.out,HV3.out];rfl,below_row HS6.out.below (by omega) _⟩
      ·have HV3:Hid (wdGo F 0 0 false s.data.toList=wdGo F (a+1) (a+1 - (a+1)) false (s.data.toList.drop (a+1))):=by
        show _=_
        rw[HV2.out,if_pos (HIFF.out.2 rfl),Nat.sub_self]
       have HSn:Hid (WdS w s (a+1) (a+1) F ((wr.setCell ⟨w.heap.size+3,0,none⟩ (.int .i64 ((a:Int)+1))).setCell ⟨w.heap.size+2,0,none⟩ (.int .i64 ((a:Int)+1)))):=(HS.out.setB (a+1)).setA (a+1)
       clear HV2 HIFF HH
       go_wp2_with fail
       refine(HM.out _ HS.out).mono ?_
       rintro e w2 ⟨rfl,rfl⟩
       clear HM HS
       go_wp2_with fail
       go_roundw
       case rel=>exact⟨a+1,a+1,false,by omega,by omega,HSn,fun h=>absurd h (by omega),HV3⟩
       case measure=>
        rw[HSn.out.cells.2.1,HME.out]
        simp[intOf]
        omega
     ·have hn46:((s[a].toNat:Int)==46)=false:=by
       rw[beq_eq_false_iff_ne]
       intro e
       exact h46 (UInt8.toNat_inj.1 (by rw[show(46:UInt8).toNat=46 from rfl];omega))
      have HV2:Hid (wdGo F 0 0 false s.data.toList=if a - b=63∨stB F a (a - b) s[a]=false then some a else wdGo F (a+1) (a - b+1) (decide (s[a]=45)) (s.data.toList.drop (a+1))):=by
       show _=_
       rw[HV.out,hd,wdGo_else h46]
      have HST:Hid (Calls Tryz.prog 138 #[.pointer (some ⟨w.heap.size,0,none⟩),.pointer (some ⟨w.heap.size+2,0,none⟩),.pointer (some ⟨w.heap.size+3,0,none⟩),.pointer (some ⟨w.heap.size+4,0,none⟩)] wr fun e w'=>e=.returned (.bool (stB F a (a - b) s[a]))∧w'=wr):=wds_any _ _ _ _ s a b F wr (HT.out _ HS.out.below) c2 c3 c0 c4 hlt
      have HNX:Hid (decide (s[a]=45)=decide (s.data.toList[a+1 - 1]?=some 45)):=by
       show _=_
       rw[Nat.add_sub_cancel,list_at s a hlt]
       simp
      clear HV hd h46 HM HIFF HH
      obtain⟨st,hst⟩:∃st,st=stB F a (a - b) s[a]:=⟨_,rfl⟩
      rw[←hst]at HV2 HST
      clear hst
      by_cases h63:a - b=63
      ·have h63':((a:Int) - (b:Int)==63)=true:=by rw[beq_iff_eq];omega
       have HV3:Hid (wdGo F 0 0 false s.data.toList=some a):=by
        show _=_
        rw[HV2.out,if_pos (Or.inl h63)]
       have HSx:=HS
       clear HV2 HME HS HST HNX h63
       go_wp2_with fail
       refine(wdw_any (w.heap.size+2) (a) _ HSx.out.cells.2.1).mono ?_
       rintro e w5 ⟨rfl,hb5⟩
       have HS5:=HSx.out.later hb5
       clear hb5
       have HS6:Hid (WdS w s (a) b F w5):=HS5
       clear HS5
       go_wp2_with (refine wpList_store_row rfl 32 _ _ rfl (w.heap.size+1) rfl _ #[.int .i64 80,.int .i64 ((a:Nat):Int)] rfl 32 HS6.out.r infoSp rfl (by simp[Value.oneCell']) rfl ?_)
       exact HS6.out.ret #[.int .i64 80,.int .i64 ((a:Nat):Int)] _ _ rfl rfl ⟨by rw[HWD.out,HV3.out];rfl,below_row HS6.out.below (by omega) _⟩
      ·have h63':((a:Int) - (b:Int)==63)=false:=by rw[beq_eq_false_iff_ne];omega
       cases st
       ·have HV3:Hid (wdGo F 0 0 false s.data.toList=some a):=by
         show _=_
         rw[HV2.out,if_pos (Or.inr rfl)]
        have HSx:=HS
        clear HV2 HME HS HNX h63
        go_wp2_with fail
        refine HST.out.mono ?_
        rintro e w2 ⟨rfl,rfl⟩
        clear HST
        go_wp2_with fail
        refine(wdw_any (w.heap.size+2) (a) _ HSx.out.cells.2.1).mono ?_
        rintro e w5 ⟨rfl,hb5⟩
        have HS5:=HSx.out.later hb5
        clear hb5
        have HS6:Hid (WdS w s (a) b F w5):=HS5
        clear HS5
        go_wp2_with (refine wpList_store_row rfl 32 _ _ rfl (w.heap.size+1) rfl _ #[.int .i64 80,.int .i64 ((a:Nat):Int)] rfl 32 HS6.out.r infoSp rfl (by simp[Value.oneCell']) rfl ?_)
        exact HS6.out.ret #[.int .i64 80,.int .i64 ((a:Nat):Int)] _ _ rfl rfl ⟨by rw[HWD.out,HV3.out];rfl,below_row HS6.out.below (by omega) _⟩
       ·have HV3:Hid (wdGo F 0 0 false s.data.toList=wdGo F (a+1) (a+1 - b) (decide (s[a]=45)) (s.data.toList.drop (a+1))):=by
         show _=_
         rw[HV2.out,if_neg (fun hh=>by rcases hh with hh|hh;exact h63 hh;cases hh),show a+1 - b=a - b+1 from by omega]
        have HSn:Hid (WdS w s (a+1) b F (wr.setCell ⟨w.heap.size+2,0,none⟩ (.int .i64 ((a:Int)+1)))):=HS.out.setA (a+1)
        clear HV2 HS h63
        go_wp2_with fail
        refine HST.out.mono ?_
        rintro e w2 ⟨rfl,rfl⟩
        clear HST
        go_wp2_with fail
        go_roundw
        case rel=>exact⟨a+1,b,decide (s[a]=45),by omega,by omega,HSn,fun _=>HNX.out,HV3⟩
        case measure=>
         rw[HSn.out.cells.2.1,HME.out]
         simp[intOf]
         omega
    ·obtain rfl:a=s.size:=by omega
     have hlt':¬(s.size:Int)<(s.size:Int):=by omega
     have HV2:Hid (wdGo F 0 0 false s.data.toList=if 0<s.size - b∧h=false then none else some s.size):=by
      show _=_
      rw[HV.out,drop_end s s.size (Nat.le_refl _),wdGo]
     clear HV HME HH
     cases m
     ·have HV3:Hid (wdGo F 0 0 false s.data.toList=some s.size):=by
       show _=_
       rw[HV2.out,if_neg (fun hh=>by have:=HIFF.out.1 hh;cases this)]
      have HSx:=HS
      clear HV2 HIFF
      go_wp2_with fail
      refine(HM.out _ HS.out).mono ?_
      rintro e w2 ⟨rfl,rfl⟩
      clear HM HS
      go_wp2_with fail
      refine(wdw_any (w.heap.size+2) (s.size) _ HSx.out.cells.2.1).mono ?_
      rintro e w5 ⟨rfl,hb5⟩
      have HS5:=HSx.out.later hb5
      clear hb5
      have HS6:Hid (WdS w s (s.size) b F w5):=HS5
      clear HS5
      go_wp2_with (refine wpList_store_row rfl 32 _ _ rfl (w.heap.size+1) rfl _ #[.int .i64 80,.int .i64 ((s.size:Nat):Int)] rfl 32 HS6.out.r infoSp rfl (by simp[Value.oneCell']) rfl ?_)
      exact HS6.out.ret #[.int .i64 80,.int .i64 ((s.size:Nat):Int)] _ _ rfl rfl ⟨by rw[HWD.out,HV3.out];rfl,below_row HS6.out.below (by omega) _⟩
     ·have HV3:Hid (wdGo F 0 0 false s.data.toList=none):=by
       show _=_
       rw[HV2.out,if_pos (HIFF.out.2 rfl)]
      clear HV2 HIFF
      go_wp2_with fail
      refine(HM.out _ HS.out).mono ?_
      rintro e w2 ⟨rfl,rfl⟩
      clear HM
      go_wp2_with (refine wpList_store_row rfl 32 _ _ rfl (w.heap.size+1) rfl _ #[.int .i64 0,.int .i64 0] rfl 32 HS.out.r infoSp rfl (by simp[Value.oneCell']) rfl ?_)
      exact HS.out.ret #[.int .i64 0,.int .i64 0] _ _ rfl rfl ⟨by rw[HWD.out,HV3.out];rfl,below_row HS.out.below (by omega) _⟩
  ·obtain⟨F,hF⟩:∃F,F=badU s.data.toList:=⟨_,rfl⟩
   have HWD:Hid (wd true s.data.toList=match wdGo F 0 0 false s.data.toList with|none=>(0,0)|some a=>(80,a)):=by
    show _=_
    unfold wd
    rw[if_neg (by rw[len_list];omega),hF]
    rfl
   have c40:=H0.out.cells.2.2.2.1
   go_enter Tryz.func101,Tryz.ntmps101
   go_wp2_with fail
   refine(ubs_any s _ (HF.out _ H0.out.below) (by omega)).mono ?_
   rintro e w1 ⟨rfl,hb1⟩
   rw[←hF]
   have HS1:=H0.out.later hb1
   obtain⟨c0,c2,c3,c4,f2,f3,f4,hz⟩:=HS1.cells
   have HS0:Hid (WdS w s 0 0 F (w1.setCell ⟨w.heap.size+4,0,none⟩ (.int .i64 (F:Nat)))):=HS1.setF F
   clear H0 hF c40 hb1 HS1
   go_wp2_with fail
   clear c0 c2 c3 c4 f2 f3 f4 hz
   go_loopw [21] (fun _ wr=>∃(a b:Nat) (h:Bool),a≤s.size∧b≤a∧Hid (WdS w s a b F wr)∧Hid (b<a→h=decide (s.data.toList[a - 1]?=some 45))∧Hid (wdGo F 0 0 false s.data.toList=wdGo F a (a - b) h (s.data.toList.drop a))) (fun _ wr=>s.size - (match wr.cell? ⟨w.heap.size+2,0,none⟩ with|some v=>(intOf v).toNat|none=>0))
   case atStart=>exact⟨0,0,false,by omega,by omega,HS0,fun h=>absurd h (by omega),rfl⟩
   case round=>
    obtain⟨a,b,h,ha,hba,HS,HH,HV⟩:=hrel
    clear HS0
    obtain⟨c0,c2,c3,c4,f2,f3,f4,hz⟩:=HS.out.cells
    have HME:Hid ((match wr.cell? ⟨w.heap.size+2,0,none⟩ with|some v=>(intOf v).toNat|none=>0)=a):=by
     show _=_
     rw[c2]
     simp[intOf]
    have HM:Hid (∀wx,WdS w s a b F wx→Calls Tryz.prog 137 #[.pointer (some ⟨w.heap.size+2,0,none⟩),.pointer (some ⟨w.heap.size+3,0,none⟩),.pointer (some ⟨w.heap.size,0,none⟩)] wx fun e w'=>e=.returned (.bool (mE s a b))∧w'=wx):=fun wx hx=>wdm_any _ _ _ s a b wx hx.cells.2.1 hx.cells.2.2.1 hx.cells.1 ha hs
    have hiff:=mE_iff HH.out
    have HIFF:Hid ((0<a - b∧h=false)↔mE s a b=true):=hiff
    obtain⟨m,hm⟩:∃m,m=mE s a b:=⟨_,rfl⟩
    rw[←hm]at HM HIFF
    clear hm hiff
    by_cases hlt:a<s.size
    ·have hlt':(a:Int)<(s.size:Int):=by omega
     have hd:=drop_head s a hlt
     by_cases h46:s[a]=46
     ·have hn46:((s[a].toNat:Int)==46)=true:=by rw[h46];rfl
      have HV2:Hid (wdGo F 0 0 false s.data.toList=if 0<a - b∧h=false then wdGo F (a+1) 0 false (s.data.toList.drop (a+1)) else some a):=by
       show _=_
       rw[HV.out,hd,wdGo_dot h46]
      clear HV hd h46
      cases m
      ·have HV3:Hid (wdGo F 0 0 false s.data.toList=some a):=by
        show _=_
        rw[HV2.out,if_neg (fun hh=>by have:=HIFF.out.1 hh;cases this)]
       have HSx:=HS
       clear HV2 HIFF HME HH
       go_wp2_with fail
       refine(HM.out _ HS.out).mono ?_
       rintro e w2 ⟨rfl,rfl⟩
       clear HM HS
       go_wp2_with fail
       refine(wdw_any (w.heap.size+2) (a) _ HSx.out.cells.2.1).mono ?_
       rintro e w5 ⟨rfl,hb5⟩
       have HS5:=HSx.out.later hb5
       clear hb5
       have HS6:Hid (WdS w s (a) b F w5):=HS5
       clear HS5
       go_wp2_with (refine wpList_store_row rfl 32 _ _ rfl (w.heap.size+1) rfl _ #[.int .i64 80,.int .i64 ((a:Nat):Int)] rfl 32 HS6.out.r infoSp rfl (by simp[Value.oneCell']) rfl ?_)
       exact HS6.out.ret #[.int .i64 80,.int .i64 ((a:Nat):Int)] _ _ rfl rfl ⟨by rw[HWD.out,HV3.out];rfl,below_row HS6.out.below (by omega) _⟩
      ·have HV3:Hid (wdGo F 0 0 false s.data.toList=wdGo F (a+1) (a+1 - (a+1)) false (s.data.toList.drop (a+1))):=by
        show _=_
        rw[HV2.out,if_pos (HIFF.out.2 rfl),Nat.sub_self]
       have HSn:Hid (WdS w s (a+1) (a+1) F ((wr.setCell ⟨w.heap.size+3,0,none⟩ (.int .i64 ((a:Int)+1))).setCell ⟨w.heap.size+2,0,none⟩ (.int .i64 ((a:Int)+1)))):=(HS.out.setB (a+1)).setA (a+1)
       clear HV2 HIFF HH
       go_wp2_with fail
       refine(HM.out _ HS.out).mono ?_
       rintro e w2 ⟨rfl,rfl⟩
       clear HM HS
       go_wp2_with fail
       go_roundw
       case rel=>exact⟨a+1,a+1,false,by omega,by omega,HSn,fun h=>absurd h (by omega),HV3⟩
       case measure=>
        rw[HSn.out.cells.2.1,HME.out]
        simp[intOf]
        omega
     ·have hn46:((s[a].toNat:Int)==46)=false:=by
       rw[beq_eq_false_iff_ne]
       intro e
       exact h46 (UInt8.toNat_inj.1 (by rw[show(46:UInt8).toNat=46 from rfl];omega))
      have HV2:Hid (wdGo F 0 0 false s.data.toList=if a - b=63∨stB F a (a - b) s[a]=false then some a else wdGo F (a+1) (a - b+1) (decide (s[a]=45)) (s.data.toList.drop (a+1))):=by
       show _=_
       rw[HV.out,hd,wdGo_else h46]
      have HST:Hid (Calls Tryz.prog 138 #[.pointer (some ⟨w.heap.size,0,none⟩),.pointer (some ⟨w.heap.size+2,0,none⟩),.pointer (some ⟨w.heap.size+3,0,none⟩),.pointer (some ⟨w.heap.size+4,0,none⟩)] wr fun e w'=>e=.returned (.bool (stB F a (a - b) s[a]))∧w'=wr):=wds_any _ _ _ _ s a b F wr (HT.out _ HS.out.below) c2 c3 c0 c4 hlt
      have HNX:Hid (decide (s[a]=45)=decide (s.data.toList[a+1 - 1]?=some 45)):=by
       show _=_
       rw[Nat.add_sub_cancel,list_at s a hlt]
       simp
      clear HV hd h46 HM HIFF HH
      obtain⟨st,hst⟩:∃st,st=stB F a (a - b) s[a]:=⟨_,rfl⟩
      rw[←hst]at HV2 HST
      clear hst
      by_cases h63:a - b=63
      ·have h63':((a:Int) - (b:Int)==63)=true:=by rw[beq_iff_eq];omega
       have HV3:Hid (wdGo F 0 0 false s.data.toList=some a):=by
        show _=_
        rw[HV2.out,if_pos (Or.inl h63)]
       have HSx:=HS
       clear HV2 HME HS HST HNX h63
       go_wp2_with fail
       refine(wdw_any (w.heap.size+2) (a) _ HSx.out.cells.2.1).mono ?_
       rintro e w5 ⟨rfl,hb5⟩
       have HS5:=HSx.out.later hb5
       clear hb5
       have HS6:Hid (WdS w s (a) b F w5):=HS5
       clear HS5
       go_wp2_with (refine wpList_store_row rfl 32 _ _ rfl (w.heap.size+1) rfl _ #[.int .i64 80,.int .i64 ((a:Nat):Int)] rfl 32 HS6.out.r infoSp rfl (by simp[Value.oneCell']) rfl ?_)
       exact HS6.out.ret #[.int .i64 80,.int .i64 ((a:Nat):Int)] _ _ rfl rfl ⟨by rw[HWD.out,HV3.out];rfl,below_row HS6.out.below (by omega) _⟩
      ·have h63':((a:Int) - (b:Int)==63)=false:=by rw[beq_eq_false_iff_ne];omega
       cases st
       ·have HV3:Hid (wdGo F 0 0 false s.data.toList=some a):=by
         show _=_
         rw[HV2.out,if_pos (Or.inr rfl)]
        have HSx:=HS
        clear HV2 HME HS HNX h63
        go_wp2_with fail
        refine HST.out.mono ?_
        rintro e w2 ⟨rfl,rfl⟩
        clear HST
        go_wp2_with fail
        refine(wdw_any (w.heap.size+2) (a) _ HSx.out.cells.2.1).mono ?_
        rintro e w5 ⟨rfl,hb5⟩
        have HS5:=HSx.out.later hb5
        clear hb5
        have HS6:Hid (WdS w s (a) b F w5):=HS5
        clear HS5
        go_wp2_with (refine wpList_store_row rfl 32 _ _ rfl (w.heap.size+1) rfl _ #[.int .i64 80,.int .i64 ((a:Nat):Int)] rfl 32 HS6.out.r infoSp rfl (by simp[Value.oneCell']) rfl ?_)
        exact HS6.out.ret #[.int .i64 80,.int .i64 ((a:Nat):Int)] _ _ rfl rfl ⟨by rw[HWD.out,HV3.out];rfl,below_row HS6.out.below (by omega) _⟩
       ·have HV3:Hid (wdGo F 0 0 false s.data.toList=wdGo F (a+1) (a+1 - b) (decide (s[a]=45)) (s.data.toList.drop (a+1))):=by
         show _=_
         rw[HV2.out,if_neg (fun hh=>by rcases hh with hh|hh;exact h63 hh;cases hh),show a+1 - b=a - b+1 from by omega]
        have HSn:Hid (WdS w s (a+1) b F (wr.setCell ⟨w.heap.size+2,0,none⟩ (.int .i64 ((a:Int)+1)))):=HS.out.setA (a+1)
        clear HV2 HS h63
        go_wp2_with fail
        refine HST.out.mono ?_
        rintro e w2 ⟨rfl,rfl⟩
        clear HST
        go_wp2_with fail
        go_roundw
        case rel=>exact⟨a+1,b,decide (s[a]=45),by omega,by omega,HSn,fun _=>HNX.out,HV3⟩
        case measure=>
         rw[HSn.out.cells.2.1,HME.out]
         simp[intOf]
         omega
    ·obtain rfl:a=s.size:=by omega
     have hlt':¬(s.size:Int)<(s.size:Int):=by omega
     have HV2:Hid (wdGo F 0 0 false s.data.toList=if 0<s.size - b∧h=false then none else some s.size):=by
      show _=_
      rw[HV.out,drop_end s s.size (Nat.le_refl _),wdGo]
     clear HV HME HH
     cases m
     ·have HV3:Hid (wdGo F 0 0 false s.data.toList=some s.size):=by
       show _=_
       rw[HV2.out,if_neg (fun hh=>by have:=HIFF.out.1 hh;cases this)]
      have HSx:=HS
      clear HV2 HIFF
      go_wp2_with fail
      refine(HM.out _ HS.out).mono ?_
      rintro e w2 ⟨rfl,rfl⟩
      clear HM HS
      go_wp2_with fail
      refine(wdw_any (w.heap.size+2) (s.size) _ HSx.out.cells.2.1).mono ?_
      rintro e w5 ⟨rfl,hb5⟩
      have HS5:=HSx.out.later hb5
      clear hb5
      have HS6:Hid (WdS w s (s.size) b F w5):=HS5
      clear HS5
      go_wp2_with (refine wpList_store_row rfl 32 _ _ rfl (w.heap.size+1) rfl _ #[.int .i64 80,.int .i64 ((s.size:Nat):Int)] rfl 32 HS6.out.r infoSp rfl (by simp[Value.oneCell']) rfl ?_)
      exact HS6.out.ret #[.int .i64 80,.int .i64 ((s.size:Nat):Int)] _ _ rfl rfl ⟨by rw[HWD.out,HV3.out];rfl,below_row HS6.out.below (by omega) _⟩
     ·have HV3:Hid (wdGo F 0 0 false s.data.toList=none):=by
       show _=_
       rw[HV2.out,if_pos (HIFF.out.2 rfl)]
      clear HV2 HIFF
      go_wp2_with fail
      refine(HM.out _ HS.out).mono ?_
      rintro e w2 ⟨rfl,rfl⟩
      clear HM
      go_wp2_with (refine wpList_store_row rfl 32 _ _ rfl (w.heap.size+1) rfl _ #[.int .i64 0,.int .i64 0] rfl 32 HS.out.r infoSp rfl (by simp[Value.oneCell']) rfl ?_)
      exact HS.out.ret #[.int .i64 0,.int .i64 0] _ _ rfl rfl ⟨by rw[HWD.out,HV3.out];rfl,below_row HS.out.below (by omega) _⟩
def upB (b:UInt8):UInt8:=if 97≤b.toNat∧b.toNat≤122 then UInt8.ofNat (b.toNat - 32) else b
def upL (l:List UInt8):List UInt8:=l.map upB
def upS (s:ByteArray):ByteArray:=⟨(upL s.data.toList).toArray⟩
theorem upB_no (b:UInt8) (h:¬(97≤b.toNat∧b.toNat≤122)):upB b=b:=if_neg h
theorem upB_yes (b:UInt8) (h1:97≤b.toNat) (h2:b.toNat≤122):(upB b).toNat=b.toNat - 32:=by
 unfold upB
 rw[if_pos ⟨h1,h2⟩]
 simp
 omega
def upAt (l:List UInt8) (k j:Nat):UInt8:=if j<k then upB (l.getD j 0) else l.getD j 0
theorem upAt_zero (l:List UInt8) (j:Nat):upAt l 0 j=l.getD j 0:=by simp[upAt]
theorem upAt_self (l:List UInt8) (k:Nat):upAt l k k=l.getD k 0:=by simp[upAt]
theorem upAt_step (l:List UInt8) (k:Nat):upAt l (k+1) k=upB (l.getD k 0):=by simp[upAt]
theorem upAt_other (l:List UInt8) (k j:Nat) (h:j≠k):upAt l (k+1) j=upAt l k j:=by
 unfold upAt
 by_cases h1:j<k
 ·rw[if_pos h1,if_pos (by omega)]
 ·rw[if_neg h1,if_neg (by omega)]
theorem upAt_all (l:List UInt8) (n j:Nat) (hn:n=l.length) (h:j<(upL l).length):upAt l n j=(upL l)[j]:=by
 have h':j<l.length:=by simpa [upL] using h
 subst hn
 simp[upAt,upL,h',List.getD_eq_getElem?_getD]
open Go.RowKit
structure UpRel (s:ByteArray) (B:Nat) (w:World) (k:Nat) (wr:World):Prop where
 cell:∀j,j<s.size→wr.cell? ⟨B,j,none⟩=some (.int .u8 ((upAt s.data.toList k j).toNat:Int))
 free:∀j,j<s.size→wr.frozen? ⟨B,j,none⟩=false
 below:Below B w wr
theorem UpRel.same {s:ByteArray} {B:Nat} {w wr:World} {k:Nat} (h:UpRel s B w k wr) (hn:¬(97≤(s.data.toList.getD k 0).toNat∧(s.data.toList.getD k 0).toNat≤122)):UpRel s B w (k+1) wr:=by
 refine⟨fun j hj=>?_,h.free,h.below⟩
 rw[h.cell j hj]
 by_cases e:j=k
 ·subst e
  rw[upAt_self,upAt_step,upB_no _ hn]
 ·rw[upAt_other _ _ _ e]
theorem UpRel.put {s:ByteArray} {B:Nat} {w wr:World} {k:Nat} (h:UpRel s B w k wr) (hk:k<s.size) (h1:97≤(s.data.toList.getD k 0).toNat) (h2:(s.data.toList.getD k 0).toNat≤122):
  UpRel s B w (k+1) (wr.setCell ⟨B,k,none⟩ (.int .u8 (((s.data.toList.getD k 0).toNat:Int) - 97+65))):=by
 refine⟨fun j hj=>?_,fun j hj=>?_,h.below.setCell (Nat.le_refl _) _⟩
 ·by_cases e:j=k
  ·subst e
   rw[World.cell?_setCell_same _ _ _ (h.cell j hj),upAt_step,upB_yes _ h1 h2]
   congr 2
   omega
  ·rw[World.cell?_setCell_other _ _ _ _ (by intro h';injection h' with _ h';omega),h.cell j hj,upAt_other _ _ _ e]
 ·rw[World.frozen?_setCell]
  exact h.free j hj
theorem bytes_lt (s:ByteArray) (cap:Nat):s.data.size≤(bytesRow s cap).size:=by
 simp[bytesRow]
theorem UpRel.start (s:ByteArray) (w:World) (cap:Nat) (n:Nat) (hn:n=(bytesRow s cap).size):UpRel s w.heap.size w 0 (w.alloc (.cells (bytesRow s cap) 5 (n,n+1))).drew:=by
 refine⟨fun j hj=>?_,fun j hj=>?_,((Below.refl _ _).alloc (Nat.le_refl _) _).drew⟩
 ·have:=World.cell?_alloc_mark w (bytesRow s cap) 5 (n,n+1) j
  rw[bytesRow_at s cap j hj]at this
  rw[upAt_zero]
  refine Eq.trans this ?_
  rw[List.getD_eq_getElem?_getD,Array.getElem?_toList,Array.getElem?_eq_getElem hj,Option.getD_some]
 ·have:=World.frozen?_alloc_mark w (bytesRow s cap) 5 n (n+1) j
  refine Eq.trans this ?_
  have h2:=bytes_lt s cap
  have h3:s.size=s.data.size:=rfl
  rw[decide_eq_false (by omega),Bool.false_and]
theorem UpRel.back {s:ByteArray} {B:Nat} {w wr:World} (h:UpRel s B w s.size wr) (cap:Nat):
  (convert 98 9 (.slice (some ⟨B,0,none⟩) s.size cap)).run Tryz.prog wr=.ok (.string (upS s)) wr:=by
 have hl:(upL s.data.toList).length=s.size:=by rw[upL,List.length_map,Array.length_toList];rfl
 have:=run_convert_bytes_back (P:=Tryz.prog) wr 98 9 5 ⟨B,0,none⟩ cap (upL s.data.toList) Tryz.underlying98 Tryz.underlying5 Tryz.underlying9 (fun j hj=>by
  have hj':j<s.size:=by omega
  have he:(⟨B,0,none⟩:Addr).add j=⟨B,j,none⟩:=by rw[Addr.add_lit,Nat.zero_add]
  rw[he,h.cell j hj']
  rw[upAt_all s.data.toList s.size j (by rw[Array.length_toList];rfl) hj])
 rw[hl]at this
 exact this
set_option maxRecDepth 100000 in
set_option maxHeartbeats 400000 in
theorem upper_any (s:ByteArray) (w:World) (hs:s.size≤maxLen):
  Calls Tryz.prog 86 #[.string s] w fun e w'=>e=.returned (.string (upS s))∧Below w.heap.size w w':=by
 unfold maxLen at hs
 have hconv:=run_bytes_of_string (P:=Tryz.prog) w 9 98 5 s Tryz.underlying9 Tryz.underlying98 Tryz.underlying5
 obtain⟨cap,hcap⟩:∃c,c=grownCap w s.size 0 5:=⟨_,rfl⟩
 rw[←hcap]at hconv
 obtain⟨n,hn⟩:∃n,n=(bytesRow s cap).size:=⟨_,rfl⟩
 rw[←hn]at hconv
 have HR:Hid (UpRel s w.heap.size w 0 (w.alloc (.cells (bytesRow s cap) 5 (n,n+1))).drew):=UpRel.start s w cap n hn
 clear hcap hn
 go_enter Tryz.func86,Tryz.ntmps86
 go_wp2
 go_loopw [10] (fun i wr=>∃k:Nat,k≤s.size∧i=.int .i64 k∧Hid (UpRel s w.heap.size w k wr)) (fun i _=>s.size - (intOf i).toNat)
 case atStart=>exact⟨0,Nat.zero_le _,rfl,HR⟩
 case round=>
  obtain⟨k,hk,rfl,HK⟩:=hrel
  by_cases hlt:k<s.size
  ·have hc:=HK.out.cell k hlt
   have hf:=HK.out.free k hlt
   rw[upAt_self]at hc
   obtain⟨x,hx⟩:∃x:UInt8,x=s.data.toList.getD k 0:=⟨_,rfl⟩
   rw[←hx]at hc
   have HX:Hid (x=s.data.toList.getD k 0):=hx
   clear hx
   have hx1:x.toNat<256:=x.toNat_lt
   by_cases h1:97≤x.toNat
   ·by_cases h2:x.toNat≤122
    ·have HN:Hid (UpRel s w.heap.size w (k+1) (wr.setCell ⟨w.heap.size,k,none⟩ (.int .u8 ((x.toNat:Int) - 97+65)))):=by
      have:=HK.out.put hlt (by rw[←HX.out];exact h1) (by rw[←HX.out];exact h2)
      rw[←HX.out]at this
      exact this
     clear HK
     go_wp2
     go_roundw
     case rel=>exact⟨k+1,by omega,by go_num,HN⟩
     case measure=>simp[intOf];omega
    ·have HN:Hid (UpRel s w.heap.size w (k+1) wr):=HK.out.same (by rw[←HX.out];omega)
     clear HK
     go_wp2
     go_roundw
     case rel=>exact⟨k+1,by omega,by go_num,HN⟩
     case measure=>simp[intOf];omega
   ·have HN:Hid (UpRel s w.heap.size w (k+1) wr):=HK.out.same (by rw[←HX.out];omega)
    clear HK
    go_wp2
    go_roundw
    case rel=>exact⟨k+1,by omega,by go_num,HN⟩
    case measure=>simp[intOf];omega
  ·have he:k=s.size:=by omega
   subst he
   have hback:=HK.out.back cap
   have HB:Hid (Below w.heap.size w wr):=HK.out.below
   clear HK
   go_wp2
   go_ret
   exact⟨rfl,HB.out⟩
open Go.RowKit
def sameB (a b:ByteArray):Bool:=(upS a).toList==(upS b).toList
set_option maxHeartbeats 400000 in
theorem same_any (a b:ByteArray) (w:World) (ha:a.size≤maxLen) (hb:b.size≤maxLen):
  Calls Tryz.prog 62 #[.string a,.string b] w fun e w'=>e=.returned (.bool (sameB a b))∧Below w.heap.size w w':=by
 go_enter Tryz.func62,Tryz.ntmps62
 go_wp2_with fail
 refine(upper_any a _ ha).mono ?_
 rintro e w1 ⟨rfl,hb1⟩
 go_wp2_with fail
 refine(upper_any b _ hb).mono ?_
 rintro e w2 ⟨rfl,hb2⟩
 go_wp2
 go_ret
 exact⟨rfl,hb1.trans (hb2.mono hb1.size)⟩
open Go.RowKit
theorem badN_spB (c:Int) (f:UInt8→Bool) (h:∀b:UInt8,isB c (b.toNat:Int)=f b):∀l:List UInt8,badN c l=spB f l
 |[]=>rfl
 |b::r=>by
  rw[badN,spB,badN_spB c f h r,h b]
theorem ext_take (s:ByteArray) (k:Nat):(s.extract 0 k).data.toList=s.data.toList.take k:=by
 rw[ext_list]
 simp
set_option maxHeartbeats 1000000 in
set_option maxRecDepth 100000 in
theorem wtw_any (b:Nat) (p:Nat) (w:World) (hc:w.cell? ⟨b,0,none⟩=some (.int .i64 (p:Nat))):
  Calls Tryz.prog 173 #[.pointer (some ⟨b,0,none⟩)] w fun e w'=>e=.returned (.agg #[.int .i64 83,.int .i64 (p:Nat)])∧Below w.heap.size w w':=by
 have hb:b<w.heap.size:=World.block_lt_of_cell? w _ hc
 have HL:Hid (Lies ((w.alloc (.cells #[.int .i64 0,.int .i64 0] 32)).setRow w.heap.size #[.int .i64 83,.int .i64 (p:Int)]) w.heap.size #[.int .i64 83,.int .i64 (p:Int)] 32):=(Lies.new w _ _).row _
 have HL0:Hid (Lies (w.alloc (.cells #[.int .i64 0,.int .i64 0] 32)) w.heap.size #[.int .i64 0,.int .i64 0] 32):=Lies.new w _ _
 have HB:Hid (Below w.heap.size w ((w.alloc (.cells #[.int .i64 0,.int .i64 0] 32)).setRow w.heap.size #[.int .i64 83,.int .i64 (p:Int)])):=below_row ((Below.refl _ _).alloc (Nat.le_refl _) _) (Nat.le_refl _) _
 go_enter Tryz.func173,Tryz.ntmps173
 go_wp2_with (refine wpList_store_row rfl 32 _ _ rfl w.heap.size rfl _ #[.int .i64 83,.int .i64 (p:Int)] rfl 32 HL0.out infoSp rfl (by simp[Value.oneCell']) rfl ?_)
 exact bodyPost_ret (results_row (p:=1) (by kernel_rfl) _ _ w.heap.size 32 _ (0,0) _ rfl HL.out Tryz.underlying32 rfl infoSp) rfl ⟨rfl,HB.out⟩
structure WtS (w:World) (a:Nat) (wr:World):Prop where
 r:Lies wr w.heap.size #[.int .i64 0,.int .i64 0] 32
 pa:Lies wr (w.heap.size+1) #[.int .i64 (a:Nat)] 3
 below:Below w.heap.size w wr
theorem WtS.later {w wr wx:World} {a:Nat} (h:WtS w a wr) (hb:Below wr.heap.size wr wx):WtS w a wx:=
 ⟨h.r.below hb h.r.lt,h.pa.below hb h.pa.lt,h.below.trans (hb.mono (Nat.le_of_lt h.r.lt))⟩
theorem WtS.setA {w wr:World} {a:Nat} (h:WtS w a wr) (m:Nat):WtS w m (wr.setCell ⟨w.heap.size+1,0,none⟩ (.int .i64 (m:Nat))):=
 ⟨h.r.set_other (a:=⟨w.heap.size+1,0,none⟩) (by show w.heap.size≠w.heap.size+1;omega) _,h.pa.set 0 _,h.below.setCell (p:=⟨w.heap.size+1,0,none⟩) (by show w.heap.size≤w.heap.size+1;omega) _⟩
theorem WtS.ret {w wr:World} {a:Nat} (h:WtS w a wr) (ds:Array Value) (R:Ending→World→Prop) (tmps:Array Value) (hq:tmps.getD 4 undef=.pointer (some ⟨w.heap.size,0,none⟩)) (hd:ds.size=2)
  (hR:R (.returned (.agg ds)) (wr.setRow w.heap.size ds)):bodyPost Tryz.prog Tryz.f140 R .ret {tmps:=tmps,defers:=[]} (wr.setRow w.heap.size ds):=
 bodyPost_ret (results_row (p:=4) (by kernel_rfl) tmps _ w.heap.size 32 ds (0,0) _ hq (h.r.row ds) Tryz.underlying32 rfl (by rw[hd];exact infoSp)) rfl hR
set_option maxHeartbeats 4000000 in
set_option maxRecDepth 100000 in
theorem wt_any (t:ByteArray) (k:Nat) (w:World) (ht:Table w) (hg:0<w.heap.size) (hk:k<t.size) (hs:t.size≤255):
  Calls Tryz.prog 140 #[.string t,.int .i64 (k:Nat)] w fun e w'=>e=.returned (.agg (spotV (tagged t.data.toList k)))∧Below w.heap.size w w':=by
 have HT:Hid (∀wx,Below w.heap.size w wx→Table wx):=fun wx hb=>ht.below hg hb
 obtain⟨n,hn⟩:∃n,n=spB lbB (t.data.toList.take k):=⟨_,rfl⟩
 obtain⟨m,hm⟩:∃m,m=spB plB (t.data.toList.drop (k+1)):=⟨_,rfl⟩
 have hnk:n≤k:=by
  rw[hn]
  refine Nat.le_trans (spB_le _ _) ?_
  rw[List.length_take]
  omega
 have hml:k+1+m≤t.size:=by
  have:=spB_le plB (t.data.toList.drop (k+1))
  rw[List.length_drop,len_list]at this
  omega
 have HTG:Hid (tagged t.data.toList k=if n<k∨k=0∨t.data.toList[k - 1]?=some 45 then (83,n) else if k+1+m<t.size∨m=0 then (83,k+1+m) else (0,0)):=by
  show _=_
  unfold tagged
  rw[←hn,←hm,len_list]
 have HBAD:Hid (∀wx,Below w.heap.size w wx→Calls Tryz.prog 80 #[.int .i64 10,.string (t.extract 0 k)] wx fun e w'=>e=.returned (.int .i64 (n:Nat))∧w'=wx):=fun wx hb=>by
  have:=bad_anyT 10 (t.extract 0 k) wx (HT.out wx hb) (by rw[ByteArray.size_extract];unfold maxLen;omega)
  rw[ext_take,badN_spB 10 lbB (fun b=>(ld_is b).2.2.1),←hn]at this
  exact this
 have HSPAN:Hid (∀wx,Below w.heap.size w wx→Calls Tryz.prog 112 #[.int .i64 7,.string t,.int .i64 ((k:Int)+1)] wx fun e w'=>e=.returned (.int .i64 ((k+1+m:Nat):Int))∧w'=wx):=fun wx hb=>by
  have:=span_anyT 7 ((k+1:Nat):Int) t wx (HT.out wx hb) (by unfold maxLen;omega)
  rw[spanI_nat,badN_spB 7 plB (fun b=>(ld_is b).2.2.2.1),←hm]at this
  exact this
 have H0:Hid (WtS w n ((w.alloc (.cells #[.int .i64 0,.int .i64 0] 32)).alloc (.cells #[.int .i64 (n:Nat)] 3))):=⟨(Lies.new w _ _).alloc _,new_one w _ _ _,((Below.refl _ _).alloc (Nat.le_refl _) _).alloc (by simp) _⟩
 have hk':(k:Int)≤(t.size:Int):=by omega
 have hext:min k t.size=k:=by omega
 clear hn hm ht hg
 go_enter Tryz.func140,Tryz.ntmps140
 go_wp2_with fail
 refine(HBAD.out _ ((Below.refl _ _).alloc (Nat.le_refl _) _)).mono ?_
 rintro e w1 ⟨rfl,rfl⟩
 by_cases h1:n<k
 ·have h1':(n:Int)<(k:Int):=by omega
  have HV:Hid (tagged t.data.toList k=(83,n)):=by show _=_;rw[HTG.out,if_pos (Or.inl h1)]
  have hc:=H0.out.pa.cell 0
  clear HTG h1 HBAD HSPAN
  go_wp2_with fail
  refine(wtw_any (w.heap.size+1) n _ hc).mono ?_
  rintro e w5 ⟨rfl,hb5⟩
  have HS5:Hid (WtS w n w5):=H0.out.later hb5
  clear hb5 H0
  go_wp2_with (refine wpList_store_row rfl 32 _ _ rfl w.heap.size rfl _ #[.int .i64 83,.int .i64 (n:Int)] rfl 32 HS5.out.r infoSp rfl (by simp[Value.oneCell']) rfl ?_)
  exact HS5.out.ret #[.int .i64 83,.int .i64 (n:Int)] _ _ rfl rfl ⟨by rw[HV.out];rfl,below_row HS5.out.below (Nat.le_refl _) _⟩
 ·obtain rfl:n=k:=by omega
  have h1':¬(n:Int)<(n:Int):=by omega
  by_cases h0:n=0
  ·subst h0
   have HV:Hid (tagged t.data.toList 0=(83,0)):=by show _=_;rw[HTG.out,if_pos (Or.inr (Or.inl rfl))]
   have hc:=H0.out.pa.cell 0
   clear HTG HBAD HSPAN
   go_wp2_with fail
   refine(wtw_any (w.heap.size+1) 0 _ hc).mono ?_
   rintro e w5 ⟨rfl,hb5⟩
   have HS5:Hid (WtS w 0 w5):=H0.out.later hb5
   clear hb5 H0
   go_wp2_with (refine wpList_store_row rfl 32 _ _ rfl w.heap.size rfl _ #[.int .i64 83,.int .i64 0] rfl 32 HS5.out.r infoSp rfl (by simp[Value.oneCell']) rfl ?_)
   exact HS5.out.ret #[.int .i64 83,.int .i64 0] _ _ rfl rfl ⟨by rw[HV.out];rfl,below_row HS5.out.below (Nat.le_refl _) _⟩
  ·obtain⟨j,rfl⟩:∃j,n=j+1:=⟨n - 1,by omega⟩
   have hj:j<t.size:=by omega
   have h0':((j:Int)+1==0)=false:=by rw[beq_eq_false_iff_ne];omega
   have hlast:t.data.toList[j+1 - 1]?=some t[j]:=by rw[Nat.add_sub_cancel,list_at t j hj]
   have HTG2:Hid (tagged t.data.toList (j+1)=if t[j]=45 then (83,j+1) else if j+1+1+m<t.size∨m=0 then (83,j+1+1+m) else (0,0)):=by
    show _=_
    rw[HTG.out,hlast]
    simp
   clear HTG hlast h0 h1
   by_cases h45:t[j]=45
   ·have hn45:((t[j].toNat:Int)==45)=true:=by rw[h45];rfl
    have HV:Hid (tagged t.data.toList (j+1)=(83,j+1)):=by show _=_;rw[HTG2.out,if_pos h45]
    have hc:=H0.out.pa.cell 0
    clear HTG2 HBAD HSPAN h45
    go_wp2_with fail
    refine(wtw_any (w.heap.size+1) (j+1) _ hc).mono ?_
    rintro e w5 ⟨rfl,hb5⟩
    have HS5:Hid (WtS w (j+1) w5):=H0.out.later hb5
    clear hb5 H0
    go_wp2_with (refine wpList_store_row rfl 32 _ _ rfl w.heap.size rfl _ #[.int .i64 83,.int .i64 ((j+1:Nat):Int)] rfl 32 HS5.out.r infoSp rfl (by simp[Value.oneCell']) rfl ?_)
    exact HS5.out.ret #[.int .i64 83,.int .i64 ((j+1:Nat):Int)] _ _ rfl rfl ⟨by rw[HV.out];rfl,below_row HS5.out.below (Nat.le_refl _) _⟩
   ·have hn45:((t[j].toNat:Int)==45)=false:=by
     rw[beq_eq_false_iff_ne]
     intro e
     exact h45 (UInt8.toNat_inj.1 (by rw[show(45:UInt8).toNat=45 from rfl];omega))
    have HTG3:Hid (tagged t.data.toList (j+1)=if j+1+1+m<t.size∨m=0 then (83,j+1+1+m) else (0,0)):=by show _=_;rw[HTG2.out,if_neg h45]
    clear HTG2 h45 HBAD
    go_wp2_with fail
    refine(HSPAN.out _ H0.out.below).mono ?_
    rintro e w2 ⟨rfl,rfl⟩
    clear HSPAN
    generalize (w.alloc (.cells #[.int .i64 0,.int .i64 0] 32)).alloc (.cells #[.int .i64 ((j+1:Nat):Int)] 3)=W1 at H0 ⊢
    obtain⟨q,hq⟩:∃q,q=j+1+1+m:=⟨_,rfl⟩
    rw[←hq]at HTG3 hml ⊢
    have HS1:Hid (WtS w q (W1.setCell ⟨w.heap.size+1,0,none⟩ (.int .i64 (q:Int)))):=H0.out.setA q
    have hc1:=H0.out.pa.cell 0
    have hf1:=H0.out.pa.frozen 0
    have hz1:=H0.out.pa.lt
    simp at hc1
    by_cases hend:q<t.size∨m=0
    ·have HV:Hid (tagged t.data.toList (j+1)=(83,q)):=by show _=_;rw[HTG3.out,if_pos hend]
     have hc2:=HS1.out.pa.cell 0
     by_cases hlt:q<t.size
     ·have hlt':(q:Int)<(t.size:Int):=by omega
      clear HTG3 hend H0 hq
      go_wp2_with fail
      refine(wtw_any (w.heap.size+1) q _ hc2).mono ?_
      rintro e w5 ⟨rfl,hb5⟩
      have HS5:Hid (WtS w q w5):=HS1.out.later hb5
      clear hb5 HS1
      go_wp2_with (refine wpList_store_row rfl 32 _ _ rfl w.heap.size rfl _ #[.int .i64 83,.int .i64 (q:Int)] rfl 32 HS5.out.r infoSp rfl (by simp[Value.oneCell']) rfl ?_)
      exact HS5.out.ret #[.int .i64 83,.int .i64 (q:Int)] _ _ rfl rfl ⟨by rw[HV.out];rfl,below_row HS5.out.below (Nat.le_refl _) _⟩
     ·have hlt':¬(q:Int)<(t.size:Int):=by omega
      have heq:((q:Int)==(j:Int)+1+1)=true:=by rw[beq_iff_eq];omega
      clear HTG3 hend H0 hq
      go_wp2_with fail
      refine(wtw_any (w.heap.size+1) q _ hc2).mono ?_
      rintro e w5 ⟨rfl,hb5⟩
      have HS5:Hid (WtS w q w5):=HS1.out.later hb5
      clear hb5 HS1
      go_wp2_with (refine wpList_store_row rfl 32 _ _ rfl w.heap.size rfl _ #[.int .i64 83,.int .i64 (q:Int)] rfl 32 HS5.out.r infoSp rfl (by simp[Value.oneCell']) rfl ?_)
      exact HS5.out.ret #[.int .i64 83,.int .i64 (q:Int)] _ _ rfl rfl ⟨by rw[HV.out];rfl,below_row HS5.out.below (Nat.le_refl _) _⟩
    ·have HV:Hid (tagged t.data.toList (j+1)=(0,0)):=by show _=_;rw[HTG3.out,if_neg hend]
     have hlt':¬(q:Int)<(t.size:Int):=by omega
     have heq:((q:Int)==(j:Int)+1+1)=false:=by rw[beq_eq_false_iff_ne];omega
     clear HTG3 hend H0 hq
     go_wp2_with (refine wpList_store_row rfl 32 _ _ rfl w.heap.size rfl _ #[.int .i64 0,.int .i64 0] rfl 32 HS1.out.r infoSp rfl (by simp[Value.oneCell']) rfl ?_)
     exact HS1.out.ret #[.int .i64 0,.int .i64 0] _ _ rfl rfl ⟨by rw[HV.out];rfl,below_row HS1.out.below (Nat.le_refl _) _⟩
theorem up_six_fin:∀b:Fin 256,(upB (UInt8.ofNat b.val)=73↔smB (UInt8.ofNat b.val)=105)∧(upB (UInt8.ofNat b.val)=80↔smB (UInt8.ofNat b.val)=112)∧(upB (UInt8.ofNat b.val)=86↔smB (UInt8.ofNat b.val)=118)∧(upB (UInt8.ofNat b.val)=54↔smB (UInt8.ofNat b.val)=54)∧(upB (UInt8.ofNat b.val)=58↔smB (UInt8.ofNat b.val)=58):=by decide+kernel
theorem up_six (c:UInt8):(upB c=73↔smB c=105)∧(upB c=80↔smB c=112)∧(upB c=86↔smB c=118)∧(upB c=54↔smB c=54)∧(upB c=58↔smB c=58):=by
 have:=up_six_fin ⟨c.toNat,c.toNat_lt⟩
 simpa using this
theorem same_sixB (t:ByteArray) (h:5≤t.size):sameB (t.extract 0 5) ⟨#[73,80,118,54,58]⟩=sixB t.data.toList:=by
 have hl:5≤t.data.toList.length:=by rw[len_list];exact h
 unfold sameB sixB
 rw[decide_eq_true hl,Bool.true_and]
 have e1:(upS (t.extract 0 5)).toList=upL (t.data.toList.take 5):=by
  show(upS (t.extract 0 5)).toList=_
  rw[ByteArray.toList_eq]
  unfold upS
  rw[ext_take]
 have e2:(upS ⟨#[73,80,118,54,58]⟩).toList=[73,80,86,54,58]:=by
  rw[ByteArray.toList_eq]
  rfl
 rw[e1,e2]
 match h5:t.data.toList.take 5,(show(t.data.toList.take 5).length=5 by rw[List.length_take];omega) with
 |[a,b,c,d,e],_=>
  rw[Bool.eq_iff_iff,beq_iff_eq,decide_eq_true_eq]
  simp only[upL,sml,List.map_cons,List.map_nil,List.cons.injEq,and_true]
  rw[(up_six a).1,(up_six b).2.1,(up_six c).2.2.1,(up_six d).2.2.2.1,(up_six e).2.2.2.2]
set_option maxHeartbeats 1000000 in
set_option maxRecDepth 100000 in
theorem six_any (t:ByteArray) (w:World):Calls Tryz.prog 139 #[.string t] w fun e w'=>e=.returned (.bool (sixB t.data.toList))∧Below w.heap.size w w':=by
 by_cases h5:5≤t.size
 ·have h5':(5:Int)≤(t.size:Int):=by omega
  have HS:Hid (Calls Tryz.prog 62 #[.string (t.extract 0 5),.string ⟨#[73,80,118,54,58]⟩] w fun e w'=>e=.returned (.bool (sixB t.data.toList))∧Below w.heap.size w w'):=by
   have:=same_any (t.extract 0 5) ⟨#[73,80,118,54,58]⟩ w (by rw[ByteArray.size_extract];unfold maxLen;omega) (by unfold maxLen;decide)
   rw[same_sixB t h5]at this
   exact this
  obtain⟨r,hr⟩:∃r,r=sixB t.data.toList:=⟨_,rfl⟩
  have HR:Hid (r=sixB t.data.toList):=hr
  rw[←hr]at HS
  clear hr
  go_enter Tryz.func139,Tryz.ntmps139
  go_wp2_with fail
  refine HS.out.mono ?_
  rintro e w1 ⟨rfl,hb1⟩
  have HB1:Hid (Below w.heap.size w w1):=hb1
  clear hb1
  go_wp2_with fail
  go_ret
  exact⟨by rw[←HR.out];rfl,HB1.out⟩
 ·have h5':¬(5:Int)≤(t.size:Int):=by omega
  have hr:sixB t.data.toList=false:=by
   unfold sixB
   rw[decide_eq_false (by rw[len_list];exact h5),Bool.false_and]
  rw[hr]
  go_enter Tryz.func139,Tryz.ntmps139
  go_wp2_with fail
  go_ret
  exact⟨rfl,Below.refl _ _⟩
end Go.Proofs.YtfjpkfhbmldmfaaGreatDoor
