/-
  The statements' own letters, tagged.
-/
import Derived.Test.YtfjpkfhbmldmfabGreatDoorYe9
namespace Go.Proofs.YtfjpkfhbmldmfabGreatDoor
open Go.RowKit
theorem ld_iff (c:UInt8):ldB c=true↔(48≤c.toNat∧c.toNat≤57)∨(65≤c.toNat∧c.toNat≤90)∨(97≤c.toNat∧c.toNat≤122):=by
 unfold ldB dgB
 simp[or_assoc]
theorem b_nat (c d:UInt8):c=d↔c.toNat=d.toNat:=⟨fun h=>by rw[h],fun h=>UInt8.toNat_inj.1 h⟩
theorem pl_iff (c:UInt8):plB c=true↔33≤c.toNat∧c.toNat≤126∧c.toNat≠91∧c.toNat≠93∧c.toNat≠92:=by
 unfold plB
 simp only[Bool.and_eq_true,decide_eq_true_eq,Bool.not_eq_true',decide_eq_false_iff_not,b_nat]
 constructor
 ·rintro ⟨⟨⟨⟨h1,h2⟩,h3⟩,h4⟩,h5⟩
  exact⟨h1,h2,h3,h5,h4⟩
 ·rintro ⟨h1,h2,h3,h5,h4⟩
  exact⟨⟨⟨⟨h1,h2⟩,h3⟩,h4⟩,h5⟩
set_option maxHeartbeats 8000000 in
set_option maxRecDepth 100000 in
theorem letters_any (s:ByteArray) (hs:s.size≤140737488355328) (most:Nat) (hm:most≤1000) (w:World):
  Calls Tryz.prog 27 #[.string s,.int .i64 (most:Int)] w fun e w'=>e=.returned (.string (txt (ltrs s.data.toList most)))∧Below w.heap.size w w':=by
 obtain⟨Y,hY⟩:∃Y,Y=(s.data.toList.filter ldB).take most:=⟨_,rfl⟩
 obtain⟨X,hX⟩:∃X,X=ltrs s.data.toList most:=⟨_,rfl⟩
 rw[←hX]
 have HXY:Hid (X=if Y=[] then [120] else Y):=by
  show _=_
  rw[hX,hY]
  rfl
 have HX0:Hid (Y=tkF ldB most [] (s.data.toList.drop 0)):=hY
 clear hX hY
 go_enter Tryz.func27,Tryz.ntmps27
 go_wp2_with fail
 go_loopw [5,6] (fun u c wr=>∃(i:Nat) (acc:List UInt8),i≤s.size∧c=.int .i64 i∧acc.length≤i∧Hid (wr.ownsRow w.heap.size 5 1 u acc.length (cellsB acc))∧Hid (Below w.heap.size w wr)∧Hid (Y=tkF ldB most acc (s.data.toList.drop i))) (fun _ c _=>s.size - (intOf c).toNat)
 case atStart=>exact⟨0,[],Nat.zero_le _,by go_num,Nat.zero_le _,⟨rfl,.inr ⟨w.heap.size,0,#[],rfl,Nat.le_refl _,Lies.new w #[] 5,Nat.le_refl _,by unfold maxLen;omega,rfl,rfl⟩⟩,(Below.refl _ _).alloc (Nat.le_refl _) _,HX0⟩
 case round=>
  obtain⟨i,acc,hi,rfl,hacc,HO,HB,HX⟩:=hrel
  clear HX0
  obtain⟨sa,sc,hu,_⟩:=own_bts HO.out
  subst hu
  have hcv:(convert 47 9 (.slice sa acc.length sc)).run Tryz.prog wr=.ok (.string (txt acc)) wr:=conv_own HO.out
  have HFI:Hid (Y=acc→(acc=[]∧X=[120])∨(0<acc.length∧X=acc)):=fun h=>by
   by_cases ha:acc=[]
   ·exact Or.inl ⟨ha,by rw[HXY.out,h,if_pos ha]⟩
   ·exact Or.inr ⟨List.length_pos_iff.2 ha,by rw[HXY.out,h,if_neg ha]⟩
  by_cases hlt:i<s.size
  ·have hlt':(i:Int)<(s.size:Int):=by omega
   have HD:Hid (s.data.toList.drop i=s[i]::s.data.toList.drop (i+1)):=drop_at s i hlt
   by_cases hmo:acc.length<most
   ·have hmo':(acc.length:Int)<(most:Int):=by omega
    have hc8:=s[i].toNat_lt
    clear HFI
    by_cases hk7:s[i].toNat<48
    ·have g97:¬(97:Int)≤(s[i].toNat:Int):=by omega
     have l122:(s[i].toNat:Int)≤122:=by omega
     have g65:¬(65:Int)≤(s[i].toNat:Int):=by omega
     have l90:(s[i].toNat:Int)≤90:=by omega
     have g48:¬(48:Int)≤(s[i].toNat:Int):=by omega
     have l57:(s[i].toNat:Int)≤57:=by omega
     have HXX:Hid (Y=tkF ldB most acc (s.data.toList.drop (i+1))):=by
      show _=_
      rw[HX.out,HD.out,tkF_no (fun h=>by have:=(ld_iff _).1 h;omega)]
     clear HX HD hcv
     go_wp2_with fail
     go_roundw
     case rel=>exact⟨i+1,acc,hlt,by go_num,by omega,HO,HB,HXX⟩
     case measure=>simp[intOf];omega
    ·by_cases hk6:s[i].toNat≤57
     ·have g97:¬(97:Int)≤(s[i].toNat:Int):=by omega
      have l122:(s[i].toNat:Int)≤122:=by omega
      have g65:¬(65:Int)≤(s[i].toNat:Int):=by omega
      have l90:(s[i].toNat:Int)≤90:=by omega
      have g48:(48:Int)≤(s[i].toNat:Int):=by omega
      have l57:(s[i].toNat:Int)≤57:=by omega
      have HXX:Hid (Y=tkF ldB most (acc++[s[i]]) (s.data.toList.drop (i+1))):=by
       show _=_
       rw[HX.out,HD.out,tkF_yes hmo ((ld_iff _).2 (by omega))]
      clear HX HD hcv
      go_wp2_with (at_builtin;refine wpList_append_byte rfl _ _ rfl w.heap.size (.slice sa acc.length sc) acc.length acc rfl (HO.out.alloc _) wr s[i] _ rfl rfl 1 rfl (by omega) HB.out.size ?_;intro v3 w3 hown3 hbel3)
      have HB3:Hid (Below w.heap.size w w3):=hbel3 _ _ HB.out (Nat.le_refl _)
      have HO3:Hid (w3.ownsRow w.heap.size 5 1 v3 (acc++[s[i]]).length (cellsB (acc++[s[i]]))):=by
       show World.ownsRow _ _ _ _ _ _ _
       rw[List.length_append,List.length_singleton]
       exact hown3
      clear hown3 hbel3 HO HB
      go_wp2_with fail
      go_roundw
      case rel=>exact⟨i+1,acc++[s[i]],hlt,by go_num,by simp only[List.length_append,List.length_singleton];omega,HO3,HB3,HXX⟩
      case measure=>simp[intOf];omega
     ·by_cases hk5:s[i].toNat<65
      ·have g97:¬(97:Int)≤(s[i].toNat:Int):=by omega
       have l122:(s[i].toNat:Int)≤122:=by omega
       have g65:¬(65:Int)≤(s[i].toNat:Int):=by omega
       have l90:(s[i].toNat:Int)≤90:=by omega
       have g48:(48:Int)≤(s[i].toNat:Int):=by omega
       have l57:¬(s[i].toNat:Int)≤57:=by omega
       have HXX:Hid (Y=tkF ldB most acc (s.data.toList.drop (i+1))):=by
        show _=_
        rw[HX.out,HD.out,tkF_no (fun h=>by have:=(ld_iff _).1 h;omega)]
       clear HX HD hcv
       go_wp2_with fail
       go_roundw
       case rel=>exact⟨i+1,acc,hlt,by go_num,by omega,HO,HB,HXX⟩
       case measure=>simp[intOf];omega
      ·by_cases hk4:s[i].toNat≤90
       ·have g97:¬(97:Int)≤(s[i].toNat:Int):=by omega
        have l122:(s[i].toNat:Int)≤122:=by omega
        have g65:(65:Int)≤(s[i].toNat:Int):=by omega
        have l90:(s[i].toNat:Int)≤90:=by omega
        have g48:(48:Int)≤(s[i].toNat:Int):=by omega
        have l57:¬(s[i].toNat:Int)≤57:=by omega
        have HXX:Hid (Y=tkF ldB most (acc++[s[i]]) (s.data.toList.drop (i+1))):=by
         show _=_
         rw[HX.out,HD.out,tkF_yes hmo ((ld_iff _).2 (by omega))]
        clear HX HD hcv
        go_wp2_with (at_builtin;refine wpList_append_byte rfl _ _ rfl w.heap.size (.slice sa acc.length sc) acc.length acc rfl (HO.out.alloc _) wr s[i] _ rfl rfl 1 rfl (by omega) HB.out.size ?_;intro v3 w3 hown3 hbel3)
        have HB3:Hid (Below w.heap.size w w3):=hbel3 _ _ HB.out (Nat.le_refl _)
        have HO3:Hid (w3.ownsRow w.heap.size 5 1 v3 (acc++[s[i]]).length (cellsB (acc++[s[i]]))):=by
         show World.ownsRow _ _ _ _ _ _ _
         rw[List.length_append,List.length_singleton]
         exact hown3
        clear hown3 hbel3 HO HB
        go_wp2_with fail
        go_roundw
        case rel=>exact⟨i+1,acc++[s[i]],hlt,by go_num,by simp only[List.length_append,List.length_singleton];omega,HO3,HB3,HXX⟩
        case measure=>simp[intOf];omega
       ·by_cases hk3:s[i].toNat<97
        ·have g97:¬(97:Int)≤(s[i].toNat:Int):=by omega
         have l122:(s[i].toNat:Int)≤122:=by omega
         have g65:(65:Int)≤(s[i].toNat:Int):=by omega
         have l90:¬(s[i].toNat:Int)≤90:=by omega
         have g48:(48:Int)≤(s[i].toNat:Int):=by omega
         have l57:¬(s[i].toNat:Int)≤57:=by omega
         have HXX:Hid (Y=tkF ldB most acc (s.data.toList.drop (i+1))):=by
          show _=_
          rw[HX.out,HD.out,tkF_no (fun h=>by have:=(ld_iff _).1 h;omega)]
         clear HX HD hcv
         go_wp2_with fail
         go_roundw
         case rel=>exact⟨i+1,acc,hlt,by go_num,by omega,HO,HB,HXX⟩
         case measure=>simp[intOf];omega
        ·by_cases hk2:s[i].toNat≤122
         ·have g97:(97:Int)≤(s[i].toNat:Int):=by omega
          have l122:(s[i].toNat:Int)≤122:=by omega
          have g65:(65:Int)≤(s[i].toNat:Int):=by omega
          have l90:¬(s[i].toNat:Int)≤90:=by omega
          have g48:(48:Int)≤(s[i].toNat:Int):=by omega
          have l57:¬(s[i].toNat:Int)≤57:=by omega
          have HXX:Hid (Y=tkF ldB most (acc++[s[i]]) (s.data.toList.drop (i+1))):=by
           show _=_
           rw[HX.out,HD.out,tkF_yes hmo ((ld_iff _).2 (by omega))]
          clear HX HD hcv
          go_wp2_with (at_builtin;refine wpList_append_byte rfl _ _ rfl w.heap.size (.slice sa acc.length sc) acc.length acc rfl (HO.out.alloc _) wr s[i] _ rfl rfl 1 rfl (by omega) HB.out.size ?_;intro v3 w3 hown3 hbel3)
          have HB3:Hid (Below w.heap.size w w3):=hbel3 _ _ HB.out (Nat.le_refl _)
          have HO3:Hid (w3.ownsRow w.heap.size 5 1 v3 (acc++[s[i]]).length (cellsB (acc++[s[i]]))):=by
           show World.ownsRow _ _ _ _ _ _ _
           rw[List.length_append,List.length_singleton]
           exact hown3
          clear hown3 hbel3 HO HB
          go_wp2_with fail
          go_roundw
          case rel=>exact⟨i+1,acc++[s[i]],hlt,by go_num,by simp only[List.length_append,List.length_singleton];omega,HO3,HB3,HXX⟩
          case measure=>simp[intOf];omega
         ·have g97:(97:Int)≤(s[i].toNat:Int):=by omega
          have l122:¬(s[i].toNat:Int)≤122:=by omega
          have g65:(65:Int)≤(s[i].toNat:Int):=by omega
          have l90:¬(s[i].toNat:Int)≤90:=by omega
          have g48:(48:Int)≤(s[i].toNat:Int):=by omega
          have l57:¬(s[i].toNat:Int)≤57:=by omega
          have HXX:Hid (Y=tkF ldB most acc (s.data.toList.drop (i+1))):=by
           show _=_
           rw[HX.out,HD.out,tkF_no (fun h=>by have:=(ld_iff _).1 h;omega)]
          clear HX HD hcv
          go_wp2_with fail
          go_roundw
          case rel=>exact⟨i+1,acc,hlt,by go_num,by omega,HO,HB,HXX⟩
          case measure=>simp[intOf];omega
   ·have hmo':¬(acc.length:Int)<(most:Int):=by omega
    have HYY:Y=acc:=by
     rw[HX.out,tkF_full (by omega)]
    clear HX HD
    rcases HFI.out HYY with⟨ha,hx⟩|⟨ha,hx⟩
    ·have HXX:Hid (X=[120]):=hx
     subst ha
     clear HYY hx HFI
     go_wp2_with fail
     go_ret
     exact⟨by rw[HXX.out];rfl,HB.out⟩
    ·have HXX:Hid (X=acc):=hx
     have ha':((acc.length:Int)==0)=false:=by rw[beq_eq_false_iff_ne];omega
     clear HYY hx HFI
     go_wp2_with fail
     go_ret
     exact⟨by rw[HXX.out];rfl,HB.out⟩
  ·have hlt':¬(i:Int)<(s.size:Int):=by omega
   have HYY:Y=acc:=by
    rw[HX.out,List.drop_of_length_le (by rw[Array.length_toList];show s.size≤i;omega),tkF_end]
   clear HX
   rcases HFI.out HYY with⟨ha,hx⟩|⟨ha,hx⟩
   ·have HXX:Hid (X=[120]):=hx
    subst ha
    clear HYY hx HFI
    go_wp2_with fail
    go_ret
    exact⟨by rw[HXX.out];rfl,HB.out⟩
   ·have HXX:Hid (X=acc):=hx
    have ha':((acc.length:Int)==0)=false:=by rw[beq_eq_false_iff_ne];omega
    clear HYY hx HFI
    go_wp2_with fail
    go_ret
    exact⟨by rw[HXX.out];rfl,HB.out⟩
set_option maxHeartbeats 8000000 in
set_option maxRecDepth 100000 in
theorem taggedl_any (s:ByteArray) (hs:s.size≤140737488355328) (most:Nat) (hm:most≤1000) (w:World):
  Calls Tryz.prog 44 #[.string s,.int .i64 (most:Int)] w fun e w'=>e=.returned (.string (txt (tggd s.data.toList most)))∧Below w.heap.size w w':=by
 obtain⟨Y,hY⟩:∃Y,Y=(s.data.toList.filter plB).take most:=⟨_,rfl⟩
 obtain⟨X,hX⟩:∃X,X=tggd s.data.toList most:=⟨_,rfl⟩
 rw[←hX]
 have HXY:Hid (X=if Y=[] then [121] else Y):=by
  show _=_
  rw[hX,hY]
  rfl
 have HX0:Hid (Y=tkF plB most [] (s.data.toList.drop 0)):=hY
 clear hX hY
 go_enter Tryz.func44,Tryz.ntmps44
 go_wp2_with fail
 go_loopw [5,6] (fun u c wr=>∃(i:Nat) (acc:List UInt8),i≤s.size∧c=.int .i64 i∧acc.length≤i∧Hid (wr.ownsRow w.heap.size 5 1 u acc.length (cellsB acc))∧Hid (Below w.heap.size w wr)∧Hid (Y=tkF plB most acc (s.data.toList.drop i))) (fun _ c _=>s.size - (intOf c).toNat)
 case atStart=>exact⟨0,[],Nat.zero_le _,by go_num,Nat.zero_le _,⟨rfl,.inr ⟨w.heap.size,0,#[],rfl,Nat.le_refl _,Lies.new w #[] 5,Nat.le_refl _,by unfold maxLen;omega,rfl,rfl⟩⟩,(Below.refl _ _).alloc (Nat.le_refl _) _,HX0⟩
 case round=>
  obtain⟨i,acc,hi,rfl,hacc,HO,HB,HX⟩:=hrel
  clear HX0
  obtain⟨sa,sc,hu,_⟩:=own_bts HO.out
  subst hu
  have hcv:(convert 47 9 (.slice sa acc.length sc)).run Tryz.prog wr=.ok (.string (txt acc)) wr:=conv_own HO.out
  have HFI:Hid (Y=acc→(acc=[]∧X=[121])∨(0<acc.length∧X=acc)):=fun h=>by
   by_cases ha:acc=[]
   ·exact Or.inl ⟨ha,by rw[HXY.out,h,if_pos ha]⟩
   ·exact Or.inr ⟨List.length_pos_iff.2 ha,by rw[HXY.out,h,if_neg ha]⟩
  by_cases hlt:i<s.size
  ·have hlt':(i:Int)<(s.size:Int):=by omega
   have HD:Hid (s.data.toList.drop i=s[i]::s.data.toList.drop (i+1)):=drop_at s i hlt
   by_cases hmo:acc.length<most
   ·have hmo':(acc.length:Int)<(most:Int):=by omega
    have hc8:=s[i].toNat_lt
    clear HFI
    by_cases hk6:s[i].toNat<33
    ·have g33:¬(33:Int)≤(s[i].toNat:Int):=by omega
     have HXX:Hid (Y=tkF plB most acc (s.data.toList.drop (i+1))):=by
      show _=_
      rw[HX.out,HD.out,tkF_no (fun h=>by have:=(pl_iff _).1 h;omega)]
     clear HX HD hcv
     go_wp2_with fail
     go_roundw
     case rel=>exact⟨i+1,acc,hlt,by go_num,by omega,HO,HB,HXX⟩
     case measure=>simp[intOf];omega
    ·by_cases hk5:126<s[i].toNat
     ·have g33:(33:Int)≤(s[i].toNat:Int):=by omega
      have l126:¬(s[i].toNat:Int)≤126:=by omega
      have HXX:Hid (Y=tkF plB most acc (s.data.toList.drop (i+1))):=by
       show _=_
       rw[HX.out,HD.out,tkF_no (fun h=>by have:=(pl_iff _).1 h;omega)]
      clear HX HD hcv
      go_wp2_with fail
      go_roundw
      case rel=>exact⟨i+1,acc,hlt,by go_num,by omega,HO,HB,HXX⟩
      case measure=>simp[intOf];omega
     ·by_cases hk4:s[i].toNat=91
      ·have n91:(s[i].toNat:Int)=91:=by omega
       have HXX:Hid (Y=tkF plB most acc (s.data.toList.drop (i+1))):=by
        show _=_
        rw[HX.out,HD.out,tkF_no (fun h=>by have:=(pl_iff _).1 h;omega)]
       clear HX HD hcv
       go_wp2_with fail
       go_roundw
       case rel=>exact⟨i+1,acc,hlt,by go_num,by omega,HO,HB,HXX⟩
       case measure=>simp[intOf];omega
      ·by_cases hk3:s[i].toNat=93
       ·have n93:(s[i].toNat:Int)=93:=by omega
        have HXX:Hid (Y=tkF plB most acc (s.data.toList.drop (i+1))):=by
         show _=_
         rw[HX.out,HD.out,tkF_no (fun h=>by have:=(pl_iff _).1 h;omega)]
        clear HX HD hcv
        go_wp2_with fail
        go_roundw
        case rel=>exact⟨i+1,acc,hlt,by go_num,by omega,HO,HB,HXX⟩
        case measure=>simp[intOf];omega
       ·by_cases hk2:s[i].toNat=92
        ·have n92:(s[i].toNat:Int)=92:=by omega
         have HXX:Hid (Y=tkF plB most acc (s.data.toList.drop (i+1))):=by
          show _=_
          rw[HX.out,HD.out,tkF_no (fun h=>by have:=(pl_iff _).1 h;omega)]
         clear HX HD hcv
         go_wp2_with fail
         go_roundw
         case rel=>exact⟨i+1,acc,hlt,by go_num,by omega,HO,HB,HXX⟩
         case measure=>simp[intOf];omega
        ·have g33:(33:Int)≤(s[i].toNat:Int):=by omega
         have l126:(s[i].toNat:Int)≤126:=by omega
         have n91:((s[i].toNat:Int) != 91)=true:=by rw[bne_iff_ne];omega
         have n93:((s[i].toNat:Int) != 93)=true:=by rw[bne_iff_ne];omega
         have n92:((s[i].toNat:Int) != 92)=true:=by rw[bne_iff_ne];omega
         have HXX:Hid (Y=tkF plB most (acc++[s[i]]) (s.data.toList.drop (i+1))):=by
          show _=_
          rw[HX.out,HD.out,tkF_yes hmo ((pl_iff _).2 (by omega))]
         clear HX HD hcv
         go_wp2_with (at_builtin;refine wpList_append_byte rfl _ _ rfl w.heap.size (.slice sa acc.length sc) acc.length acc rfl (HO.out.alloc _) wr s[i] _ rfl rfl 1 rfl (by omega) HB.out.size ?_;intro v3 w3 hown3 hbel3)
         have HB3:Hid (Below w.heap.size w w3):=hbel3 _ _ HB.out (Nat.le_refl _)
         have HO3:Hid (w3.ownsRow w.heap.size 5 1 v3 (acc++[s[i]]).length (cellsB (acc++[s[i]]))):=by
          show World.ownsRow _ _ _ _ _ _ _
          rw[List.length_append,List.length_singleton]
          exact hown3
         clear hown3 hbel3 HO HB
         go_wp2_with fail
         go_roundw
         case rel=>exact⟨i+1,acc++[s[i]],hlt,by go_num,by simp only[List.length_append,List.length_singleton];omega,HO3,HB3,HXX⟩
         case measure=>simp[intOf];omega
   ·have hmo':¬(acc.length:Int)<(most:Int):=by omega
    have HYY:Y=acc:=by
     rw[HX.out,tkF_full (by omega)]
    clear HX HD
    rcases HFI.out HYY with⟨ha,hx⟩|⟨ha,hx⟩
    ·have HXX:Hid (X=[121]):=hx
     subst ha
     clear HYY hx HFI
     go_wp2_with fail
     go_ret
     exact⟨by rw[HXX.out];rfl,HB.out⟩
    ·have HXX:Hid (X=acc):=hx
     have ha':((acc.length:Int)==0)=false:=by rw[beq_eq_false_iff_ne];omega
     clear HYY hx HFI
     go_wp2_with fail
     go_ret
     exact⟨by rw[HXX.out];rfl,HB.out⟩
  ·have hlt':¬(i:Int)<(s.size:Int):=by omega
   have HYY:Y=acc:=by
    rw[HX.out,List.drop_of_length_le (by rw[Array.length_toList];show s.size≤i;omega),tkF_end]
   clear HX
   rcases HFI.out HYY with⟨ha,hx⟩|⟨ha,hx⟩
   ·have HXX:Hid (X=[121]):=hx
    subst ha
    clear HYY hx HFI
    go_wp2_with fail
    go_ret
    exact⟨by rw[HXX.out];rfl,HB.out⟩
   ·have HXX:Hid (X=acc):=hx
    have ha':((acc.length:Int)==0)=false:=by rw[beq_eq_false_iff_ne];omega
    clear HYY hx HFI
    go_wp2_with fail
    go_ret
    exact⟨by rw[HXX.out];rfl,HB.out⟩
end Go.Proofs.YtfjpkfhbmldmfabGreatDoor
