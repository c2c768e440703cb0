/-
  The program's quoted.
-/
import Derived.Test.YtfjpkfhbmldmfaaGreatDoorXb9
import Derived.Test.YtfjpkfhbmldmfaaGreatDoorQc9
import Derived.Test.YtfjpkfhbmldmfaaGreatDoorCk8
import Derived.Test.YtfjpkfhbmldmfaaGreatDoorPtF
import Derived.Test.YtfjpkfhbmldmfaaGreatDoorRl8
namespace Go.Proofs.YtfjpkfhbmldmfaaGreatDoor
open Go.RowKit
theorem may_fin:∀b:Fin 256,((UInt8.ofNat b.val)≠34→(UInt8.ofNat b.val)≠92→qtB (UInt8.ofNat b.val)=mayB (UInt8.ofNat b.val))∧mayB 92=true:=by decide+kernel
theorem may_is (c:UInt8):(c≠34→c≠92→qtB c=mayB c):=by
 have:=(may_fin ⟨c.toNat,c.toNat_lt⟩).1
 simpa using this
theorem may_92:mayB 92=true:=by decide
def qtR (mark:Nat):Except (Option Nat) (List UInt8×Nat)→Except (Nat×Nat) (Value×Nat)
 | .ok (m,n)=>.ok (.string (txt m),n)
 | .error none=>.error (91,mark)
 | .error (some p)=>.error (90,p)
set_option maxHeartbeats 8000000 in
set_option maxRecDepth 100000 in
theorem quoted_any (b:Nat) (s:ByteArray) (a:Nat) (ha:a<s.size) (hs:s.size≤140737488355328) (wide:Bool) (w:World) (hT:Tb w) (h:RdAt w b s a wide 0 0):
  Calls Tryz.prog 127 #[.pointer (some ⟨b,0,none⟩)] w (Come b s wide w (qtR a (qtM (a+1) false (s.data.toList.drop (a+1))))):=by
 have HT:Hid (∀wx,Below w.heap.size w wx→Table wx):=fun wx hx=>(hT.below hx).cls
 have HR:Hid (∀wx,Below w.heap.size w wx→RdAt wx b s a wide 0 0):=fun wx hx=>h.below hx
 have HF:Hid (∀er p:Nat,∀wx,Below w.heap.size w wx→Calls Tryz.prog 42 #[.pointer (some ⟨b,0,none⟩),.int .i64 (er:Nat),.int .i64 (p:Nat)] wx fun e w'=>e=gaveUp er∧RdAt w' b s a wide er p∧But b w w'):=fun er p wx hx=>(fail_any b s a wide er p wx (h.below hx)).mono (fun e w' q=>⟨q.1,q.2.1,(But.of_below hx).trans q.2.2⟩)
 obtain⟨X,hX⟩:∃X,X=qtM (a+1) false (s.data.toList.drop (a+1)):=⟨_,rfl⟩
 rw[←hX]
 have HX0:Hid (X=preA [] (qtM (a+1) false (s.data.toList.drop (a+1)))):=by show _=_;rw[hX];exact preA_nil _
 clear hX hT
 obtain⟨c0,c1,_,_,_⟩:=h.cells
 have hbw:b<w.heap.size:=h.lt
 clear h
 go_enter Tryz.func127,Tryz.ntmps127
 go_wp2_with fail
 go_loopw [4,5] (fun u c wr=>∃(i:Nat) (acc:List UInt8),a+1≤i∧i≤s.size∧c=.int .i64 i∧acc.length≤i∧Hid (wr.ownsRow w.heap.size 5 1 u acc.length (cellsB acc))∧Hid (Below w.heap.size w wr)∧Hid (X=preA acc (qtM i false (s.data.toList.drop i)))) (fun _ c _=>s.size - (intOf c).toNat)
 case atStart=>exact⟨a+1,[],Nat.le_refl _,ha,by go_num,Nat.zero_le _,⟨rfl,.inl ⟨rfl,rfl⟩⟩,Below.refl _ _,HX0⟩
 case round=>
  obtain⟨i,acc,hmi,hi,rfl,hacc,HO,HB,HX⟩:=hrel
  obtain⟨k0,k1,_,_,_⟩:=(HR.out wr HB.out).cells
  have f1:=(HR.out wr HB.out).lies.frozen 1
  clear HX0 c0 c1
  by_cases hlt:i<s.size
  ·have hlt':(i:Int)<(s.size:Int):=by omega
   have HD:Hid (s.data.toList.drop i=s[i]::s.data.toList.drop (i+1)):=drop_at s i hlt
   obtain⟨e34,_⟩:=b_eq s[i] 34 34 rfl
   obtain⟨e92,_⟩:=b_eq s[i] 92 92 rfl
   by_cases h34:s[i]=34
   ·have HXX:Hid (X=.ok (acc,i+1)):=by
     show _=_
     rw[HX.out,HD.out,qtM,if_pos h34,preA,List.append_nil]
    rw[decide_eq_true h34]at e34
    have hcv:(convert 98 9 u4).run Tryz.prog (wr.setCell ⟨b,1,none⟩ (.int .i64 ((i:Int)+1)))=.ok (.string (txt acc)) (wr.setCell ⟨b,1,none⟩ (.int .i64 ((i:Int)+1))):=by
     exact conv_own (ownsRow_setCell_below HO.out hbw _)
    have HG:Hid (RdAt (wr.setCell ⟨b,1,none⟩ (.int .i64 ((i+1:Nat):Int))) b s (i+1) wide 0 0):=(HR.out wr HB.out).go (i+1)
    have HBB:Hid (But b w (wr.setCell ⟨b,1,none⟩ (.int .i64 ((i+1:Nat):Int)))):=(But.of_below HB.out).set _ _
    clear h34 e92 HX HD HF HT HR
    go_wp2_with fail
    go_ret
    rw[HXX.out]
    exact⟨HBB.out,rfl,HG.out⟩
   ·rw[decide_eq_false h34]at e34
    by_cases h92:s[i]=92
    ·rw[decide_eq_true h92]at e92
     by_cases hend:i+1<s.size
     ·have hend':(i:Int)+1<(s.size:Int):=by omega
      have HD1:Hid (s.data.toList.drop (i+1)=s[i+1]::s.data.toList.drop (i+2)):=drop_at s (i+1) hend
      have HE:=esc_any s[i+1] wr (HT.out wr HB.out)
      by_cases hsh:shB s[i+1]=true
      ·have HXX:Hid (X=preA (acc++[s[i+1]]) (qtM (i+2) false (s.data.toList.drop (i+2)))):=by
        show _=_
        rw[HX.out,HD.out,qtM,if_neg h34,if_pos h92,HD1.out,qtM,if_pos hsh,preA_pre]
       rw[hsh]at HE
       have HE1:Hid (Calls Tryz.prog 104 #[.int .u8 (s[i+1].toNat:Int)] wr fun e w'=>e=.returned (.bool true)∧w'=wr):=HE
       clear h34 h92 HX HD HD1 hsh HE HF HT HR
       go_wp2_with fail
       refine HE1.out.mono ?_
       rintro e w1 ⟨rfl,rfl⟩
       clear HE1
       go_wp2_with (at_builtin;refine wpList_append_byte rfl _ _ rfl w.heap.size u4 acc.length acc rfl (HO.out.alloc _) w1 s[i+1] _ rfl rfl 1 rfl (by omega) HB.out.size ?_;intro v3 w3 hown3 hbel3)
       have HB3:Hid (Below w.heap.size w w3):=hbel3 _ _ HB.out (Nat.le_refl _)
       have HO3:Hid (w3.ownsRow w.heap.size 5 1 v3 (acc++[s[i+1]]).length (cellsB (acc++[s[i+1]]))):=by
        show World.ownsRow _ _ _ _ _ _ _
        rw[List.length_append,List.length_singleton]
        exact hown3
       clear hown3 hbel3 HO HB
       go_wp2_with fail
       go_roundw
       case rel=>exact⟨i+2,acc++[s[i+1]],by omega,by omega,by go_num,by simp only[List.length_append,List.length_singleton];omega,HO3,HB3,HXX⟩
       case measure=>simp[intOf];omega
      ·have HXX:Hid (X=.error (some i)):=by
        show _=_
        rw[HX.out,HD.out,qtM,if_neg h34,if_pos h92,HD1.out,qtM,if_neg hsh,preA]
        rfl
       rw[Bool.not_eq_true]at hsh
       rw[hsh]at HE
       have HE1:Hid (Calls Tryz.prog 104 #[.int .u8 (s[i+1].toNat:Int)] wr fun e w'=>e=.returned (.bool false)∧w'=wr):=HE
       have HF1:Hid (Calls Tryz.prog 42 #[.pointer (some ⟨b,0,none⟩),.int .i64 90,.int .i64 (i:Nat)] wr fun e w'=>e=gaveUp 90∧RdAt w' b s a wide 90 i∧But b w w'):=HF.out 90 i wr HB.out
       clear h34 h92 HX HD HD1 hsh HE HF HT HR HO
       go_wp2_with fail
       refine HE1.out.mono ?_
       rintro e w1 ⟨rfl,rfl⟩
       clear HE1
       go_wp2_with fail
       refine HF1.out.mono ?_
       rintro e w1 ⟨rfl,h1,h2⟩
       have hxx:=HXX.out
       subst hxx
       exact⟨rfl,h2,rfl,a,h1⟩
     ·have hend':¬(i:Int)+1<(s.size:Int):=by omega
      have HXX:Hid (X=preA (acc++[s[i]]) (qtM (i+1) false (s.data.toList.drop (i+1)))):=by
       show _=_
       rw[HX.out,HD.out,qtM,if_neg h34,if_pos h92,drop_past s (i+1) (by omega),qtM,qtM,preA,preA]
      have HM:=may_any s[i] wr (HT.out wr HB.out)
      have hm92:mayB s[i]=true:=by rw[h92];exact may_92
      rw[hm92]at HM
      have HM1:Hid (Calls Tryz.prog 75 #[.int .u8 (s[i].toNat:Int)] wr fun e w'=>e=.returned (.bool true)∧w'=wr):=HM
      clear h34 h92 HX HD HM hm92 HF HT HR
      go_wp2_with fail
      refine HM1.out.mono ?_
      rintro e w1 ⟨rfl,rfl⟩
      clear HM1
      go_wp2_with (at_builtin;refine wpList_append_byte rfl _ _ rfl w.heap.size u4 acc.length acc rfl (HO.out.alloc _) w1 s[i] _ rfl rfl 1 rfl (by omega) HB.out.size ?_;intro v3 w3 hown3 hbel3)
      have HB3:Hid (Below w.heap.size w w3):=hbel3 _ _ HB.out (Nat.le_refl _)
      have HO3:Hid (w3.ownsRow w.heap.size 5 1 v3 (acc++[s[i]]).length (cellsB (acc++[s[i]]))):=by
       show World.ownsRow _ _ _ _ _ _ _
       rw[List.length_append,List.length_singleton]
       exact hown3
      clear hown3 hbel3 HO HB
      go_wp2_with fail
      go_roundw
      case rel=>exact⟨i+1,acc++[s[i]],by omega,by omega,by go_num,by simp only[List.length_append,List.length_singleton];omega,HO3,HB3,HXX⟩
      case measure=>simp[intOf];omega
    ·rw[decide_eq_false h92]at e92
     have hq:=may_is s[i] h34 h92
     have HM:=may_any s[i] wr (HT.out wr HB.out)
     by_cases hmy:mayB s[i]=true
     ·have HXX:Hid (X=preA (acc++[s[i]]) (qtM (i+1) false (s.data.toList.drop (i+1)))):=by
       show _=_
       rw[HX.out,HD.out,qtM,if_neg h34,if_neg h92,if_pos (by rw[hq];exact hmy),preA_pre]
      rw[hmy]at HM
      have HM1:Hid (Calls Tryz.prog 75 #[.int .u8 (s[i].toNat:Int)] wr fun e w'=>e=.returned (.bool true)∧w'=wr):=HM
      clear h34 h92 HX HD HM hmy hq HF HT HR
      go_wp2_with fail
      refine HM1.out.mono ?_
      rintro e w1 ⟨rfl,rfl⟩
      clear HM1
      go_wp2_with (at_builtin;refine wpList_append_byte rfl _ _ rfl w.heap.size u4 acc.length acc rfl (HO.out.alloc _) w1 s[i] _ rfl rfl 1 rfl (by omega) HB.out.size ?_;intro v3 w3 hown3 hbel3)
      have HB3:Hid (Below w.heap.size w w3):=hbel3 _ _ HB.out (Nat.le_refl _)
      have HO3:Hid (w3.ownsRow w.heap.size 5 1 v3 (acc++[s[i]]).length (cellsB (acc++[s[i]]))):=by
       show World.ownsRow _ _ _ _ _ _ _
       rw[List.length_append,List.length_singleton]
       exact hown3
      clear hown3 hbel3 HO HB
      go_wp2_with fail
      go_roundw
      case rel=>exact⟨i+1,acc++[s[i]],by omega,by omega,by go_num,by simp only[List.length_append,List.length_singleton];omega,HO3,HB3,HXX⟩
      case measure=>simp[intOf];omega
     ·rw[Bool.not_eq_true]at hmy
      have HXX:Hid (X=.error (some i)):=by
       show _=_
       rw[HX.out,HD.out,qtM,if_neg h34,if_neg h92,if_neg (by rw[hq,hmy];decide),preA]
      rw[hmy]at HM
      have HM1:Hid (Calls Tryz.prog 75 #[.int .u8 (s[i].toNat:Int)] wr fun e w'=>e=.returned (.bool false)∧w'=wr):=HM
      have HF1:Hid (Calls Tryz.prog 42 #[.pointer (some ⟨b,0,none⟩),.int .i64 90,.int .i64 (i:Nat)] wr fun e w'=>e=gaveUp 90∧RdAt w' b s a wide 90 i∧But b w w'):=HF.out 90 i wr HB.out
      clear h34 h92 HX HD HM hmy hq HF HT HR HO
      go_wp2_with fail
      refine HM1.out.mono ?_
      rintro e w1 ⟨rfl,rfl⟩
      clear HM1
      go_wp2_with fail
      refine HF1.out.mono ?_
      rintro e w1 ⟨rfl,h1,h2⟩
      have hxx:=HXX.out
      subst hxx
      exact⟨rfl,h2,rfl,a,h1⟩
  ·have hlt':¬(i:Int)<(s.size:Int):=by omega
   have HXX:Hid (X=.error none):=by
    show _=_
    rw[HX.out,drop_past s i (by omega),qtM,preA]
   have HF1:Hid (Calls Tryz.prog 42 #[.pointer (some ⟨b,0,none⟩),.int .i64 91,.int .i64 (a:Nat)] wr fun e w'=>e=gaveUp 91∧RdAt w' b s a wide 91 a∧But b w w'):=HF.out 91 a wr HB.out
   clear HX HO HF HT HR
   go_wp2_with fail
   refine HF1.out.mono ?_
   rintro e w1 ⟨rfl,h1,h2⟩
   have hxx:=HXX.out
   subst hxx
   exact⟨rfl,h2,rfl,a,h1⟩
open Go.RowKit
def strV:Except (Nat×Nat) (List UInt8×Nat)→Except (Nat×Nat) (Value×Nat)
 | .ok (m,n)=>.ok (.string (txt m),n)
 | .error e=>.error e
def meR (s:ByteArray) (a:Nat):Except (Nat×Nat) (List UInt8×Nat):=
 if nxB s a 34=true then (match qtM (a+1) false (s.data.toList.drop (a+1)) with
  | .ok (m,n)=>.ok (m,n)
  | .error none=>.error (91,a)
  | .error (some p)=>.error (90,p))
 else if rowL (s.data.toList.drop a)=0 then .error (90,a)
 else .ok ((s.data.toList.drop a).take (rowL (s.data.toList.drop a)),a+rowL (s.data.toList.drop a))
theorem Tb.drew {w:World} (h:Tb w):Tb w.drew:=h.below (Below.refl _ w).drew
theorem Come.from {b:Nat} {s:ByteArray} {wide:Bool} {w wx w':World} {X:Except (Nat×Nat) (Value×Nat)} {e:Ending} (hx:But b w wx) (h:Come b s wide wx X e w'):Come b s wide w X e w':=⟨hx.trans h.1,h.2⟩
theorem ext_txt (s:ByteArray) (a n:Nat):s.extract a (a+n)=txt ((s.data.toList.drop a).take n):=by
 have h:(s.extract a (a+n)).data.toList=(s.data.toList.drop a).take n:=by
  rw[ext_list,List.drop_take,Nat.add_sub_cancel_left]
 rw[←h]
 exact(txt_back _).symm
set_option maxHeartbeats 8000000 in
set_option maxRecDepth 100000 in
theorem meant_any (b:Nat) (s:ByteArray) (a:Nat) (ha:a≤s.size) (hs:s.size≤140737488355328) (wide:Bool) (w:World) (hT:Tb w) (h:RdAt w b s a wide 0 0):
  Calls Tryz.prog 93 #[.pointer (some ⟨b,0,none⟩)] w (Come b s wide w (strV (meR s a))):=by
 have HN:Hid (Calls Tryz.prog 64 #[.pointer (some ⟨b,0,none⟩),.int .u8 34] w fun e w'=>e=.returned (.bool (nxB s a 34))∧w'=w.drew):=next_any b s a ha hs wide 0 0 34 w h
 unfold meR
 cases hx:nxB s a 34
 ·rw[hx]at HN
  rw[if_neg (by decide)]
  obtain⟨Y,hY⟩:∃Y,Y=strV (if rowL (s.data.toList.drop a)=0 then .error (90,a) else .ok ((s.data.toList.drop a).take (rowL (s.data.toList.drop a)),a+rowL (s.data.toList.drop a))):=⟨_,rfl⟩
  rw[←hY]
  have hn:=rowL_le (s.data.toList.drop a)
  rw[List.length_drop,len_list]at hn
  obtain⟨n,hnn⟩:∃n,n=rowL (s.data.toList.drop a):=⟨_,rfl⟩
  rw[←hnn]at hn hY
  have HY:Hid (Y=strV (if n=0 then .error (90,a) else .ok ((s.data.toList.drop a).take n,a+n))):=hY
  clear hY
  obtain⟨t,ht⟩:∃t,t=s.extract a s.size:=⟨_,rfl⟩
  have htx:s.extract a s.size=t:=ht.symm
  have HAT:Hid (Calls Tryz.prog 106 #[.string t] w.drew.drew fun e w'=>e=.returned (.int .i64 (n:Nat))∧w'=w.drew.drew):=by
   have:=atoms_any t (by rw[ht,ByteArray.size_extract];unfold maxLen;omega) w.drew.drew hT.cls
   rw[ht,ext_drop,←hnn,←ht]at this
   exact this
  have HTX:Hid (s.extract a (a+n)=txt ((s.data.toList.drop a).take n)):=ext_txt s a n
  obtain⟨c0,c1,_,_,_⟩:=h.drew.cells
  have f1:=h.drew.lies.frozen 1
  have HG:Hid (RdAt (w.drew.drew.setCell ⟨b,1,none⟩ (.int .i64 ((a:Int)+(n:Int)))) b s (a+n) wide 0 0):=h.drew.drew.go (a+n)
  have HB:Hid (But b w (w.drew.drew.setCell ⟨b,1,none⟩ (.int .i64 ((a:Int)+(n:Int))))):=(But.refl b w).drew.drew.set _ _
  have htz:t.size≤140737488355328:=by rw[ht,ByteArray.size_extract];omega
  clear h ht hT
  have ha':(a:Int)≤(s.size:Int):=by omega
  have hn':(a:Int)+(n:Int)≤(s.size:Int):=by omega
  have han:(a:Int)≤(a:Int)+(n:Int):=by omega
  have htn:((a:Int)+(n:Int)).toNat=a+n:=by omega
  have hwr:IntKind.i64.wrap ((a:Int)+(n:Int))=(a:Int)+(n:Int):=wrap_add _ _ (by omega) (by omega) (by omega)
  have HNN:Hid (n=rowL (s.data.toList.drop a)):=hnn
  clear hnn hx
  go_enter Tryz.func93,Tryz.ntmps93
  go_wp2_with fail
  refine HN.out.mono ?_
  rintro e w1 ⟨rfl,rfl⟩
  clear HN
  go_upto_region 4 with fail
  refine wp_region_late (fun wx=>wx.cell? ⟨b,0,none⟩=some (.string s)∧wx.cell? ⟨b,1,none⟩=some (.int .i64 (a:Int))) 14 (by kernel_rfl) ⟨c0,c1⟩ (fun hHeld=>?_)
  refine tk8 0 (some 12) _ ?_
  simp only[Act.put,pA,pB,pC]
  refine tk8 1 (some 13) _ ?_
  simp only[Act.put,pA,pB,pC]
  refine tk8 2 (some 14) _ ?_
  simp only[Act.put,pA,pB,pC]
  refine tk8 3 (some 15) _ ?_
  simp only[Act.put,pA,pB,pC]
  refine tk8 4 (some 16) _ ?_
  simp only[Act.put,pA,pB,pC]
  refine tk8 5 (some 17) _ ?_
  simp only[Act.put,pA,pB,pC]
  refine tk8 6 (some 18) _ ?_
  simp only[Act.put,pA,pB,pC]
  refine tk8 7 (some 19) _ ?_
  simp only[Act.put,pA,pB,pC]
  refine tk8 8 (some 20) _ ?_
  simp only[Act.put,pA,pB,pC]
  refine tk8 9 (some 21) (.string t) ?_
  simp only[Act.put,pA,pB,pC]
  refine on9 10 ?_
  go_simp
  refine Calls.mono (HAT.out) ?_
  rintro e y1 ⟨rfl,rfl⟩
  refine⟨hHeld,?_⟩
  refine tk8 11 (some 23) (.int .i64 ((a:Int)+(n:Int))) ?_
  simp only[Act.put,pA,pB,pC]
  refine on9 12 ?_
  refine oper_val (some 24) (.pointer (some ⟨b,0,none⟩)) rfl (by go_simp<;>(first|with_reducible rfl|omega|skip)) ?_
  refine⟨Or.inr hHeld,?_⟩
  simp only[Act.put,pA,pB,pC]
  refine tk8 13 (some 25) (.pointer (some ⟨b,1,none⟩)) ?_
  simp only[Act.put,pA,pB,pC]
  refine on9 14 ?_
  refine oper_skip (w':=w.drew.drew.setCell ⟨b,1,none⟩ (.int .i64 ((a:Int)+(n:Int)))) (by go_simp<;>(first|with_reducible rfl|omega|skip)) rfl ?_
  refine⟨Or.inl rfl,?_⟩
  refine wpAnyE_done (by kernel_rfl) ?_ _
  clear hHeld
  generalize (w.drew.drew.setCell ⟨b,1,none⟩ (.int .i64 ((a:Int)+(n:Int))))=w3 at HG HB ⊢
  obtain⟨d0,d1,_,_,_⟩:=HG.out.cells
  clear c0 c1 f1
  have d1':w3.cell? ⟨b,1,none⟩=some (.int .i64 ((a:Int)+(n:Int))):=d1
  clear d1
  have d1:=d1'
  clear d1'
  by_cases h0:n=0
  ·have hy:=HY.out
   rw[if_pos h0]at hy
   subst hy
   have heq:((a:Int)+(n:Int)==(a:Int))=true:=by rw[beq_iff_eq];omega
   have HF:Hid (Calls Tryz.prog 42 #[.pointer (some ⟨b,0,none⟩),.int .i64 90,.int .i64 (a:Nat)] w3 fun e w'=>e=gaveUp 90∧RdAt w' b s (a+n) wide 90 a∧But b w3 w'):=fail_any b s (a+n) wide 90 a w3 HG.out
   clear h0
   go_wp2_with fail
   refine HF.out.mono ?_
   rintro e w4 ⟨rfl,h1,h2⟩
   exact⟨rfl,HB.out.trans h2,rfl,a+n,h1⟩
  ·have hy:=HY.out
   rw[if_neg h0]at hy
   subst hy
   have heq:((a:Int)+(n:Int)==(a:Int))=false:=by rw[beq_eq_false_iff_ne];omega
   go_upto_region 7 with fail
   refine wp_region_late (fun wx=>wx.cell? ⟨b,0,none⟩=some (.string s)∧wx.cell? ⟨b,1,none⟩=some (.int .i64 ((a:Int)+(n:Int)))) 11 (by kernel_rfl) ⟨d0,d1⟩ (fun hHeld=>?_)
   refine tk9 0 (some 35) _ ?_
   simp only[Act.put,pA,pB,pC]
   refine tk9 1 (some 36) _ ?_
   simp only[Act.put,pA,pB,pC]
   refine tk9 2 (some 37) _ ?_
   simp only[Act.put,pA,pB,pC]
   refine tk9 3 (some 38) _ ?_
   simp only[Act.put,pA,pB,pC]
   refine tk9 4 (some 39) _ ?_
   simp only[Act.put,pA,pB,pC]
   refine tk9 5 (some 40) _ ?_
   simp only[Act.put,pA,pB,pC]
   refine tk9 6 (some 41) _ ?_
   simp only[Act.put,pA,pB,pC]
   refine tk9 7 (some 42) _ ?_
   simp only[Act.put,pA,pB,pC]
   refine tk9 8 (some 43) _ ?_
   simp only[Act.put,pA,pB,pC]
   refine tk9 9 (some 44) (.string (s.extract a (a+n))) ?_
   simp only[Act.put,pA,pB,pC]
   refine tk9 10 (some 2) _ ?_
   simp only[Act.put,pA,pB,pC]
   refine wpAnyE_done (by kernel_rfl) ?_ _
   clear hHeld
   go_wp2_with fail
   go_ret
   rw[HTX.out]
   exact⟨HB.out.drew,rfl,HG.out.drew⟩
 ·rw[hx]at HN
  rw[if_pos rfl]
  have hl:a<s.size:=by
   rcases Nat.lt_or_ge a s.size with hl|hl
   ·exact hl
   ·rw[nx_past s a 34 hl]at hx
    cases hx
  have HQ:Hid (Calls Tryz.prog 127 #[.pointer (some ⟨b,0,none⟩)] w.drew (Come b s wide w.drew (qtR a (qtM (a+1) false (s.data.toList.drop (a+1)))))):=quoted_any b s a hl hs wide w.drew hT.drew h.drew
  have HD:Hid (But b w w.drew):=(But.refl b w).drew
  clear h hT hx
  generalize qtM (a+1) false (s.data.toList.drop (a+1))=X at HQ ⊢
  go_enter Tryz.func93,Tryz.ntmps93
  go_wp2_with fail
  refine HN.out.mono ?_
  rintro e w1 ⟨rfl,rfl⟩
  clear HN
  go_wp2_with fail
  refine HQ.out.mono ?_
  rintro e w2 hc
  clear HQ
  rcases X with(_|p)|⟨m,n⟩
  ·obtain⟨h1,rfl,a',h2⟩:=hc
   exact⟨rfl,HD.out.trans h1,rfl,a',h2⟩
  ·obtain⟨h1,rfl,a',h2⟩:=hc
   exact⟨rfl,HD.out.trans h1,rfl,a',h2⟩
  ·obtain⟨h1,rfl,h2⟩:=hc
   go_wp2_with fail
   go_ret
   exact⟨HD.out.trans h1,rfl,h2⟩
end Go.Proofs.YtfjpkfhbmldmfaaGreatDoor
