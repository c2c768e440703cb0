/-
  The document's placeWrong and Name.
-/
import Derived.Test.YtfjpkfhbmldmfaaGreatDoorQa9
import Derived.Test.YtfjpkfhbmldmfaaGreatDoorRDec
import Derived.Test.YtfjpkfhbmldmfaaGreatDoorWd8
import Derived.Test.YtfjpkfhbmldmfaaGreatDoorCk8
namespace Go.Proofs.YtfjpkfhbmldmfaaGreatDoor
open Go.RowKit
def fmd (wide:Bool) (s:List UInt8):Nat:=if wide=true then badU s else 0
theorem pw_endv {F:Nat} {s:ByteArray} {b i:Nat} (h:i=s.size∨∃h:i<s.size,s[i]=46):pw F s.data.toList b i=(decide (i=b)||decide (s.data.toList[i - 1]?=some 45)):=by
 unfold pw
 rcases h with h|⟨h,h'⟩
 ·rw[List.getElem?_eq_none (by rw[len_list];omega)]
 ·rw[list_at s i h,h']
  rfl
theorem pw_mid {F:Nat} {s:ByteArray} {b i:Nat} (h:i<s.size) (h':s[i]≠46):pw F s.data.toList b i=pwC F i (i - b) s[i]:=by
 unfold pw
 rw[list_at s i h]
 exact if_neg h'
theorem pwC_no {F a n:Nat} {c:UInt8} (h1:letB c=false) (h2:dgB c=false) (h3:¬c=45) (h4:¬(128≤c.toNat∧a<F)):pwC F a n c=true:=if_pos ⟨h1,h2,h3,h4⟩
theorem pwC_yes {F a n:Nat} {c:UInt8} (h:letB c=true∨dgB c=true∨c=45∨(128≤c.toNat∧a<F)):pwC F a n c=(decide (63≤n)||(decide (c=45)&&decide (n=0))):=by
 unfold pwC
 rw[if_neg]
 rintro ⟨a1,a2,a3,a4⟩
 rcases h with h|h|h|h
 ·rw[h]at a1;cases a1
 ·rw[h]at a2;cases a2
 ·exact a3 h
 ·exact a4 h
set_option maxHeartbeats 8000000 in
set_option maxRecDepth 100000 in
theorem pwe_any (s:ByteArray) (wide:Bool) (b i:Nat) (hb:b≤i) (hi:i≤s.size) (hs:s.size≤255) (h:i=s.size∨∃h:i<s.size,s[i]=46) (w:World):
  Calls Tryz.prog 131 #[.string s,.bool wide,.int .i64 (b:Nat),.int .i64 (i:Nat)] w fun e w'=>e=.returned (.bool (pw (fmd wide s.data.toList) s.data.toList b i))∧Below w.heap.size w w':=by
 rw[pw_endv h]
 by_cases hz:i=s.size
 ·have hzb:((i:Int)==(s.size:Int))=true:=by rw[beq_iff_eq];omega
  by_cases he:i=b
  ·have heb:((i:Int)==(b:Int))=true:=by rw[beq_iff_eq];omega
   rw[decide_eq_true he]
   clear he h hz
   go_enter Tryz.func131,Tryz.ntmps131
   go_wp2_with fail
   go_ret
   exact⟨by first|rfl|simp,Below.refl _ _⟩
  ·have heb:((i:Int)==(b:Int))=false:=by rw[beq_eq_false_iff_ne];omega
   rw[decide_eq_false he]
   obtain⟨m,rfl⟩:∃m,i=m+1:=⟨i - 1,by omega⟩
   have hzc:((m:Int)+1==(s.size:Int))=true:=by rw[beq_iff_eq];omega
   have hm:m<s.size:=by omega
   have heb':((m:Int)+1==(b:Int))=false:=by rw[beq_eq_false_iff_ne];omega
   rw[Nat.add_sub_cancel,list_at s m hm]
   obtain⟨e45,n45⟩:=b_eq s[m] 45 45 rfl
   have HE:Hid (decide (some s[m]=some (45:UInt8))=((s[m].toNat:Int)==45)):=by show _=_;rw[e45];simp
   clear he h heb e45 n45 hz hzb
   go_enter Tryz.func131,Tryz.ntmps131
   go_wp2_with fail
   go_ret
   exact⟨by rw[HE.out];rfl,Below.refl _ _⟩
 ·have hlt:i<s.size:=by omega
  have hc:s[i]=46:=by rcases h with h|⟨_,h⟩;exact absurd h hz;exact h
  obtain⟨e46,n46⟩:=b_eq s[i] 46 46 rfl
  rw[decide_eq_true hc]at e46 n46
  clear hc
  have hzb:((i:Int)==(s.size:Int))=false:=by rw[beq_eq_false_iff_ne];omega
  by_cases he:i=b
  ·have heb:((i:Int)==(b:Int))=true:=by rw[beq_iff_eq];omega
   rw[decide_eq_true he]
   clear he h hz
   go_enter Tryz.func131,Tryz.ntmps131
   go_wp2_with fail
   go_ret
   exact⟨by first|rfl|simp,Below.refl _ _⟩
  ·have heb:((i:Int)==(b:Int))=false:=by rw[beq_eq_false_iff_ne];omega
   rw[decide_eq_false he]
   obtain⟨m,rfl⟩:∃m,i=m+1:=⟨i - 1,by omega⟩
   have hzc:((m:Int)+1==(s.size:Int))=false:=by rw[beq_eq_false_iff_ne];omega
   have hm:m<s.size:=by omega
   have heb':((m:Int)+1==(b:Int))=false:=by rw[beq_eq_false_iff_ne];omega
   rw[Nat.add_sub_cancel,list_at s m hm]
   obtain⟨e45,n45⟩:=b_eq s[m] 45 45 rfl
   have HE:Hid (decide (some s[m]=some (45:UInt8))=((s[m].toNat:Int)==45)):=by show _=_;rw[e45];simp
   clear he h heb e45 n45 hz hzb
   go_enter Tryz.func131,Tryz.ntmps131
   go_wp2_with fail
   go_ret
   exact⟨by rw[HE.out];rfl,Below.refl _ _⟩
set_option maxHeartbeats 16000000 in
set_option maxRecDepth 100000 in
theorem pwm_any (s:ByteArray) (wide:Bool) (b i:Nat) (hb:b≤i) (hlt:i<s.size) (hs:s.size≤255) (hc:s[i]≠46) (w:World):
  Calls Tryz.prog 131 #[.string s,.bool wide,.int .i64 (b:Nat),.int .i64 (i:Nat)] w fun e w'=>e=.returned (.bool (pw (fmd wide s.data.toList) s.data.toList b i))∧Below w.heap.size w w':=by
 rw[pw_mid hlt hc]
 have hzb:((i:Int)==(s.size:Int))=false:=by rw[beq_eq_false_iff_ne];omega
 obtain⟨e46,n46⟩:=b_eq s[i] 46 46 rfl
 rw[decide_eq_false hc]at e46 n46
 obtain⟨e45,n45⟩:=b_eq s[i] 45 45 rfl
 have HL:Hid (∀w:World,Calls Tryz.prog 132 #[.int .u8 (s[i].toNat:Int)] w fun e w'=>e=.returned (.bool (letB s[i]))∧w'=w):=letter_any s[i]
 have HD:Hid (∀w:World,Calls Tryz.prog 133 #[.int .u8 (s[i].toNat:Int)] w fun e w'=>e=.returned (.bool (dgB s[i]))∧w'=w):=digit_any s[i]
 obtain⟨R,hR⟩:∃R,R=pwC (fmd wide s.data.toList) i (i - b) s[i]:=⟨_,rfl⟩
 have HN:Hid (letB s[i]=false→dgB s[i]=false→¬s[i]=45→¬(128≤s[i].toNat∧i<fmd wide s.data.toList)→R=true):=fun h1 h2 h3 h4=>by rw[hR];exact pwC_no h1 h2 h3 h4
 have HY:Hid ((letB s[i]=true∨dgB s[i]=true∨s[i]=45∨(128≤s[i].toNat∧i<fmd wide s.data.toList))→R=(decide (63≤(i:Int) - (b:Int))||(((s[i].toNat:Int)==45)&&((i:Int)==(b:Int))))):=fun h=>by
  rw[hR,pwC_yes h,e45]
  congr 1
  ·rw[Bool.eq_iff_iff,decide_eq_true_eq,decide_eq_true_eq];omega
  ·congr 1
   rw[Bool.eq_iff_iff,decide_eq_true_eq,beq_iff_eq];omega
 rw[←hR]
 clear hR hc
 obtain⟨x1,h1⟩:∃x,x=letB s[i]:=⟨_,rfl⟩
 obtain⟨x2,h2⟩:∃x,x=dgB s[i]:=⟨_,rfl⟩
 rw[←h1]at HL HN HY
 rw[←h2]at HD HN HY
 clear h1 h2
 have HC:Hid (decide (s[i]=45)=true↔s[i]=45):=decide_eq_true_iff
 obtain⟨x3,h3⟩:∃x,x=decide (s[i]=45):=⟨_,rfl⟩
 rw[←h3]at e45 n45 HC
 clear h3
 cases wide
 ·have HH:Hid (¬(128≤s[i].toNat∧i<fmd false s.data.toList)):=fun h=>by simp[fmd]at h
  cases x1
  ·cases x2
   ·cases x3
    ·have HR:Hid (R=true):=HN.out rfl rfl (fun h=>by simpa using HC.out.2 h) HH.out
     clear HN HY HC
     go_enter Tryz.func131,Tryz.ntmps131
     go_wp2_with fail
     refine(HL.out _).mono ?_
     rintro e w1 ⟨rfl,rfl⟩
     go_wp2_with fail
     refine(HD.out _).mono ?_
     rintro e w1 ⟨rfl,rfl⟩
     clear HL HD
     go_wp2_with fail
     all_goals go_ret
     all_goals exact⟨by rw[HR.out];first|rfl|(simp;done)|(simp_all;done)|(simp_all;omega),Below.refl _ _⟩
    ·have HR:Hid (R=(decide (63≤(i:Int) - (b:Int))||(((s[i].toNat:Int)==45)&&((i:Int)==(b:Int))))):=HY.out (.inr (.inr (.inl (HC.out.1 rfl))))
     clear HN HY HC
     go_enter Tryz.func131,Tryz.ntmps131
     go_wp2_with fail
     refine(HL.out _).mono ?_
     rintro e w1 ⟨rfl,rfl⟩
     go_wp2_with fail
     refine(HD.out _).mono ?_
     rintro e w1 ⟨rfl,rfl⟩
     clear HL HD
     go_wp2_with fail
     all_goals go_ret
     all_goals exact⟨by rw[HR.out];first|rfl|(simp;done)|(simp_all;done)|(simp_all;omega),Below.refl _ _⟩
   ·have HR:Hid (R=(decide (63≤(i:Int) - (b:Int))||(((s[i].toNat:Int)==45)&&((i:Int)==(b:Int))))):=HY.out (.inr (.inl rfl))
    clear HN HY HC
    go_enter Tryz.func131,Tryz.ntmps131
    go_wp2_with fail
    refine(HL.out _).mono ?_
    rintro e w1 ⟨rfl,rfl⟩
    go_wp2_with fail
    refine(HD.out _).mono ?_
    rintro e w1 ⟨rfl,rfl⟩
    clear HL HD
    go_wp2_with fail
    all_goals go_ret
    all_goals exact⟨by rw[HR.out];first|rfl|(simp;done)|(simp_all;done)|(simp_all;omega),Below.refl _ _⟩
  ·have HR:Hid (R=(decide (63≤(i:Int) - (b:Int))||(((s[i].toNat:Int)==45)&&((i:Int)==(b:Int))))):=HY.out (.inl rfl)
   clear HN HY HC
   go_enter Tryz.func131,Tryz.ntmps131
   go_wp2_with fail
   refine(HL.out _).mono ?_
   rintro e w1 ⟨rfl,rfl⟩
   clear HL HD
   go_wp2_with fail
   all_goals go_ret
   all_goals exact⟨by rw[HR.out];first|rfl|(simp;done)|(simp_all;done)|(simp_all;omega),Below.refl _ _⟩
 ·by_cases h127:(127:Int)<(s[i].toNat:Int)
  ·obtain⟨c,w2,hconv,hrow,hc1, -,hb2,hz2,hl2⟩:=conv_bytes w s
   have HBT:Hid (Bts (some ⟨w.heap.size,0,none⟩) s.data.toList w2):=.inr ⟨w.heap.size,0,rfl,by omega,hrow⟩
   have hD:=dbad_any (some ⟨w.heap.size,0,none⟩) s.data.toList c w2 HBT.out (by rw[len_list];omega) (by rw[len_list];omega)
   rw[len_list]at hD
   have HB2:Hid (Below w.heap.size w w2):=hb2
   have HS2:Hid (w.heap.size≤w2.heap.size):=Nat.le_of_lt hz2
   clear hrow hb2 hz2 hl2 HBT hc1
   by_cases hF:i<badU s.data.toList
   ·have HH:Hid (128≤s[i].toNat∧i<fmd true s.data.toList):=⟨by omega,by simpa [fmd] using hF⟩
    have hF':(i:Int)<(badU s.data.toList:Int):=by omega
    generalize badU s.data.toList=F at hD hF hF'
    clear hF
    cases x1
    ·cases x2
     ·cases x3
      ·have HR:Hid (R=(decide (63≤(i:Int) - (b:Int))||(((s[i].toNat:Int)==45)&&((i:Int)==(b:Int))))):=HY.out (.inr (.inr (.inr HH.out)))
       clear HN HY HC
       go_enter Tryz.func131,Tryz.ntmps131
       go_wp2_with fail
       refine hD.mono ?_
       rintro e w3 ⟨rfl,b3⟩
       have HB3:Hid (Below w.heap.size w w3):=HB2.out.trans (b3.mono HS2.out)
       clear hD b3 hconv
       go_wp2_with fail
       refine(HL.out _).mono ?_
       rintro e w1 ⟨rfl,rfl⟩
       go_wp2_with fail
       refine(HD.out _).mono ?_
       rintro e w1 ⟨rfl,rfl⟩
       clear HL HD
       go_wp2_with fail
       all_goals go_ret
       all_goals exact⟨by rw[HR.out];first|rfl|(simp;done)|(simp_all;done)|(simp_all;omega),HB3.out⟩
      ·have HR:Hid (R=(decide (63≤(i:Int) - (b:Int))||(((s[i].toNat:Int)==45)&&((i:Int)==(b:Int))))):=HY.out (.inr (.inr (.inl (HC.out.1 rfl))))
       clear HN HY HC
       go_enter Tryz.func131,Tryz.ntmps131
       go_wp2_with fail
       refine hD.mono ?_
       rintro e w3 ⟨rfl,b3⟩
       have HB3:Hid (Below w.heap.size w w3):=HB2.out.trans (b3.mono HS2.out)
       clear hD b3 hconv
       go_wp2_with fail
       refine(HL.out _).mono ?_
       rintro e w1 ⟨rfl,rfl⟩
       go_wp2_with fail
       refine(HD.out _).mono ?_
       rintro e w1 ⟨rfl,rfl⟩
       clear HL HD
       go_wp2_with fail
       all_goals go_ret
       all_goals exact⟨by rw[HR.out];first|rfl|(simp;done)|(simp_all;done)|(simp_all;omega),HB3.out⟩
     ·have HR:Hid (R=(decide (63≤(i:Int) - (b:Int))||(((s[i].toNat:Int)==45)&&((i:Int)==(b:Int))))):=HY.out (.inr (.inl rfl))
      clear HN HY HC
      go_enter Tryz.func131,Tryz.ntmps131
      go_wp2_with fail
      refine hD.mono ?_
      rintro e w3 ⟨rfl,b3⟩
      have HB3:Hid (Below w.heap.size w w3):=HB2.out.trans (b3.mono HS2.out)
      clear hD b3 hconv
      go_wp2_with fail
      refine(HL.out _).mono ?_
      rintro e w1 ⟨rfl,rfl⟩
      go_wp2_with fail
      refine(HD.out _).mono ?_
      rintro e w1 ⟨rfl,rfl⟩
      clear HL HD
      go_wp2_with fail
      all_goals go_ret
      all_goals exact⟨by rw[HR.out];first|rfl|(simp;done)|(simp_all;done)|(simp_all;omega),HB3.out⟩
    ·have HR:Hid (R=(decide (63≤(i:Int) - (b:Int))||(((s[i].toNat:Int)==45)&&((i:Int)==(b:Int))))):=HY.out (.inl rfl)
     clear HN HY HC
     go_enter Tryz.func131,Tryz.ntmps131
     go_wp2_with fail
     refine hD.mono ?_
     rintro e w3 ⟨rfl,b3⟩
     have HB3:Hid (Below w.heap.size w w3):=HB2.out.trans (b3.mono HS2.out)
     clear hD b3 hconv
     go_wp2_with fail
     refine(HL.out _).mono ?_
     rintro e w1 ⟨rfl,rfl⟩
     clear HL HD
     go_wp2_with fail
     all_goals go_ret
     all_goals exact⟨by rw[HR.out];first|rfl|(simp;done)|(simp_all;done)|(simp_all;omega),HB3.out⟩
   ·have HH:Hid (¬(128≤s[i].toNat∧i<fmd true s.data.toList)):=fun h=>hF (by simpa [fmd] using h.2)
    have hF':¬(i:Int)<(badU s.data.toList:Int):=by omega
    generalize badU s.data.toList=F at hD hF hF'
    clear hF
    cases x1
    ·cases x2
     ·cases x3
      ·have HR:Hid (R=true):=HN.out rfl rfl (fun h=>by simpa using HC.out.2 h) HH.out
       clear HN HY HC
       go_enter Tryz.func131,Tryz.ntmps131
       go_wp2_with fail
       refine hD.mono ?_
       rintro e w3 ⟨rfl,b3⟩
       have HB3:Hid (Below w.heap.size w w3):=HB2.out.trans (b3.mono HS2.out)
       clear hD b3 hconv
       go_wp2_with fail
       refine(HL.out _).mono ?_
       rintro e w1 ⟨rfl,rfl⟩
       go_wp2_with fail
       refine(HD.out _).mono ?_
       rintro e w1 ⟨rfl,rfl⟩
       clear HL HD
       go_wp2_with fail
       all_goals go_ret
       all_goals exact⟨by rw[HR.out];first|rfl|(simp;done)|(simp_all;done)|(simp_all;omega),HB3.out⟩
      ·have HR:Hid (R=(decide (63≤(i:Int) - (b:Int))||(((s[i].toNat:Int)==45)&&((i:Int)==(b:Int))))):=HY.out (.inr (.inr (.inl (HC.out.1 rfl))))
       clear HN HY HC
       go_enter Tryz.func131,Tryz.ntmps131
       go_wp2_with fail
       refine hD.mono ?_
       rintro e w3 ⟨rfl,b3⟩
       have HB3:Hid (Below w.heap.size w w3):=HB2.out.trans (b3.mono HS2.out)
       clear hD b3 hconv
       go_wp2_with fail
       refine(HL.out _).mono ?_
       rintro e w1 ⟨rfl,rfl⟩
       go_wp2_with fail
       refine(HD.out _).mono ?_
       rintro e w1 ⟨rfl,rfl⟩
       clear HL HD
       go_wp2_with fail
       all_goals go_ret
       all_goals exact⟨by rw[HR.out];first|rfl|(simp;done)|(simp_all;done)|(simp_all;omega),HB3.out⟩
     ·have HR:Hid (R=(decide (63≤(i:Int) - (b:Int))||(((s[i].toNat:Int)==45)&&((i:Int)==(b:Int))))):=HY.out (.inr (.inl rfl))
      clear HN HY HC
      go_enter Tryz.func131,Tryz.ntmps131
      go_wp2_with fail
      refine hD.mono ?_
      rintro e w3 ⟨rfl,b3⟩
      have HB3:Hid (Below w.heap.size w w3):=HB2.out.trans (b3.mono HS2.out)
      clear hD b3 hconv
      go_wp2_with fail
      refine(HL.out _).mono ?_
      rintro e w1 ⟨rfl,rfl⟩
      go_wp2_with fail
      refine(HD.out _).mono ?_
      rintro e w1 ⟨rfl,rfl⟩
      clear HL HD
      go_wp2_with fail
      all_goals go_ret
      all_goals exact⟨by rw[HR.out];first|rfl|(simp;done)|(simp_all;done)|(simp_all;omega),HB3.out⟩
    ·have HR:Hid (R=(decide (63≤(i:Int) - (b:Int))||(((s[i].toNat:Int)==45)&&((i:Int)==(b:Int))))):=HY.out (.inl rfl)
     clear HN HY HC
     go_enter Tryz.func131,Tryz.ntmps131
     go_wp2_with fail
     refine hD.mono ?_
     rintro e w3 ⟨rfl,b3⟩
     have HB3:Hid (Below w.heap.size w w3):=HB2.out.trans (b3.mono HS2.out)
     clear hD b3 hconv
     go_wp2_with fail
     refine(HL.out _).mono ?_
     rintro e w1 ⟨rfl,rfl⟩
     clear HL HD
     go_wp2_with fail
     all_goals go_ret
     all_goals exact⟨by rw[HR.out];first|rfl|(simp;done)|(simp_all;done)|(simp_all;omega),HB3.out⟩
  ·have HH:Hid (¬(128≤s[i].toNat∧i<fmd true s.data.toList)):=fun h=>by omega
   cases x1
   ·cases x2
    ·cases x3
     ·have HR:Hid (R=true):=HN.out rfl rfl (fun h=>by simpa using HC.out.2 h) HH.out
      clear HN HY HC
      go_enter Tryz.func131,Tryz.ntmps131
      go_wp2_with fail
      refine(HL.out _).mono ?_
      rintro e w1 ⟨rfl,rfl⟩
      go_wp2_with fail
      refine(HD.out _).mono ?_
      rintro e w1 ⟨rfl,rfl⟩
      clear HL HD
      go_wp2_with fail
      all_goals go_ret
      all_goals exact⟨by rw[HR.out];first|rfl|(simp;done)|(simp_all;done)|(simp_all;omega),Below.refl _ _⟩
     ·have HR:Hid (R=(decide (63≤(i:Int) - (b:Int))||(((s[i].toNat:Int)==45)&&((i:Int)==(b:Int))))):=HY.out (.inr (.inr (.inl (HC.out.1 rfl))))
      clear HN HY HC
      go_enter Tryz.func131,Tryz.ntmps131
      go_wp2_with fail
      refine(HL.out _).mono ?_
      rintro e w1 ⟨rfl,rfl⟩
      go_wp2_with fail
      refine(HD.out _).mono ?_
      rintro e w1 ⟨rfl,rfl⟩
      clear HL HD
      go_wp2_with fail
      all_goals go_ret
      all_goals exact⟨by rw[HR.out];first|rfl|(simp;done)|(simp_all;done)|(simp_all;omega),Below.refl _ _⟩
    ·have HR:Hid (R=(decide (63≤(i:Int) - (b:Int))||(((s[i].toNat:Int)==45)&&((i:Int)==(b:Int))))):=HY.out (.inr (.inl rfl))
     clear HN HY HC
     go_enter Tryz.func131,Tryz.ntmps131
     go_wp2_with fail
     refine(HL.out _).mono ?_
     rintro e w1 ⟨rfl,rfl⟩
     go_wp2_with fail
     refine(HD.out _).mono ?_
     rintro e w1 ⟨rfl,rfl⟩
     clear HL HD
     go_wp2_with fail
     all_goals go_ret
     all_goals exact⟨by rw[HR.out];first|rfl|(simp;done)|(simp_all;done)|(simp_all;omega),Below.refl _ _⟩
   ·have HR:Hid (R=(decide (63≤(i:Int) - (b:Int))||(((s[i].toNat:Int)==45)&&((i:Int)==(b:Int))))):=HY.out (.inl rfl)
    clear HN HY HC
    go_enter Tryz.func131,Tryz.ntmps131
    go_wp2_with fail
    refine(HL.out _).mono ?_
    rintro e w1 ⟨rfl,rfl⟩
    clear HL HD
    go_wp2_with fail
    all_goals go_ret
    all_goals exact⟨by rw[HR.out];first|rfl|(simp;done)|(simp_all;done)|(simp_all;omega),Below.refl _ _⟩
theorem rpw_any (s:ByteArray) (wide:Bool) (b i:Nat) (hb:b≤i) (hi:i≤s.size) (hs:s.size≤255) (w:World):
  Calls Tryz.prog 131 #[.string s,.bool wide,.int .i64 (b:Nat),.int .i64 (i:Nat)] w fun e w'=>e=.returned (.bool (pw (fmd wide s.data.toList) s.data.toList b i))∧Below w.heap.size w w':=by
 by_cases h:i=s.size∨∃h:i<s.size,s[i]=46
 ·exact pwe_any s wide b i hb hi hs h w
 ·have hlt:i<s.size:=by
   rcases Nat.lt_or_ge i s.size with h'|h'
   ·exact h'
   ·exact absurd (.inl (by omega)) h
  exact pwm_any s wide b i hb hlt hs (fun hc=>h (.inr ⟨hlt,hc⟩)) w
structure NmS (w:World) (F:Nat) (s:ByteArray) (b i:Nat) (wr:World):Prop where
 le:b≤i
 mid:i≤s.size→∃h,NmAt F s.data.toList b i h
 fin:i=s.size+1→wdGo F 0 0 false s.data.toList=none
 cell:Lies wr w.heap.size #[.int .i64 0,.int .i64 0] 32
 below:Below w.heap.size w wr
set_option maxHeartbeats 8000000 in
set_option maxRecDepth 100000 in
theorem rname_any (s:ByteArray) (wide:Bool) (w:World):Calls Tryz.prog 96 #[.string s,.bool wide] w fun e w'=>e=.returned (.agg (spotV (wd wide s.data.toList)))∧Below w.heap.size w w':=by
 have HL0:Hid (Lies (w.alloc (.cells #[.int .i64 0,.int .i64 0] 32)) w.heap.size #[.int .i64 0,.int .i64 0] 32):=Lies.new w _ _
 have HB0:Hid (Below w.heap.size w (w.alloc (.cells #[.int .i64 0,.int .i64 0] 32))):=(Below.refl _ _).alloc (Nat.le_refl _) _
 by_cases h255:255<s.size
 ·have HW:Hid (wd wide s.data.toList=(81,255)):=by
   show _=_
   unfold wd
   rw[if_pos (by rw[len_list];exact h255)]
  have h255':(255:Int)<(s.size:Int):=by omega
  go_enter Tryz.func96,Tryz.ntmps96
  go_wp2_with (refine wpList_store_row rfl 32 _ _ rfl w.heap.size rfl _ #[.int .i64 81,.int .i64 255] rfl 32 HL0.out infoSp rfl (by simp[Value.oneCell']) rfl ?_)
  exact bodyPost_ret (results_row (p:=4) (by kernel_rfl) _ _ w.heap.size 32 _ (0,0) _ rfl (HL0.out.row _) Tryz.underlying32 rfl infoSp) rfl ⟨by rw[HW.out];rfl,below_row HB0.out (Nat.le_refl _) _⟩
 ·have hs:s.size≤255:=by omega
  have hs':¬(255:Int)<(s.size:Int):=by omega
  obtain⟨F,hF⟩:∃F,F=fmd wide s.data.toList:=⟨_,rfl⟩
  have HW:Hid (wd wide s.data.toList=match wdGo F 0 0 false s.data.toList with
   |none=>(0,0)
   |some a=>(80,a)):=by
   show _=_
   unfold wd
   rw[if_neg (by rw[len_list];exact h255),hF]
   rfl
  have HP:Hid (∀(b i:Nat) (w:World),b≤i→i≤s.size→Calls Tryz.prog 131 #[.string s,.bool wide,.int .i64 (b:Nat),.int .i64 (i:Nat)] w fun e w'=>e=.returned (.bool (pw F s.data.toList b i))∧Below w.heap.size w w'):=fun b i w hb hi=>by rw[hF];exact rpw_any s wide b i hb hi hs w
  have H0:Hid (NmS w F s 0 0 (w.alloc (.cells #[.int .i64 0,.int .i64 0] 32))):=⟨Nat.le_refl _,fun _=>⟨_,NmAt.start F _⟩,fun h=>by omega,HL0.out,HB0.out⟩
  clear hF h255 HL0 HB0
  go_enter Tryz.func96,Tryz.ntmps96
  go_wp2_with fail
  go_loopw [5,6] (fun c d wr=>∃b i:Nat,c=.int .i64 b∧d=.int .i64 i∧i≤s.size+1∧Hid (NmS w F s b i wr)) (fun _ d _=>s.size+1 - (intOf d).toNat)
  case atStart=>exact⟨0,0,rfl,rfl,by omega,H0⟩
  case round=>
   obtain⟨b,i,rfl,rfl,hi,HS⟩:=hrel
   clear H0
   by_cases hend:i=s.size+1
   ·have HT:Hid (wd wide s.data.toList=(0,0)):=by show _=_;rw[HW.out,HS.out.fin hend]
    have hlt:¬(i:Int)≤(s.size:Int):=by omega
    have HL:Hid (Lies wr w.heap.size #[.int .i64 0,.int .i64 0] 32):=HS.out.cell
    have HB:Hid (Below w.heap.size w wr):=HS.out.below
    clear HS HW HP hend
    go_wp2_with (refine wpList_store_row rfl 32 _ _ rfl w.heap.size rfl _ #[.int .i64 0,.int .i64 0] rfl 32 HL.out infoSp rfl (by simp[Value.oneCell']) rfl ?_)
    exact bodyPost_ret (results_row (p:=4) (by kernel_rfl) _ _ w.heap.size 32 _ (0,0) _ rfl (HL.out.row _) Tryz.underlying32 rfl infoSp) rfl ⟨by rw[HT.out];rfl,below_row HB.out (Nat.le_refl _) _⟩
   ·have hle:i≤s.size:=by omega
    have hle':(i:Int)≤(s.size:Int):=by omega
    have HQ:Hid (∀w:World,Calls Tryz.prog 131 #[.string s,.bool wide,.int .i64 (b:Nat),.int .i64 (i:Nat)] w fun e w'=>e=.returned (.bool (pw F s.data.toList b i))∧Below w.heap.size w w'):=fun w=>HP.out b i w HS.out.le hle
    have HV:Hid (pw F s.data.toList b i=true→wdGo F 0 0 false s.data.toList=some i):=fun h=>by
     obtain⟨x,hx⟩:=HS.out.mid hle
     exact hx.wrong h
    have HX:Hid (pw F s.data.toList b i=false→i=s.size→wdGo F 0 0 false s.data.toList=none):=fun h e=>by
     obtain⟨x,hx⟩:=HS.out.mid hle
     exact hx.last (by rw[len_list];exact e) h
    have HY:Hid (pw F s.data.toList b i=false→∀h:i<s.size,s[i]=46→∃x,NmAt F s.data.toList (i+1) (i+1) x):=fun h hl e=>by
     obtain⟨x,hx⟩:=HS.out.mid hle
     exact⟨_,hx.dot (by rw[len_list];exact hl) e h⟩
    have HZ:Hid (pw F s.data.toList b i=false→∀h:i<s.size,¬s[i]=46→∃x,NmAt F s.data.toList b (i+1) x):=fun h hl e=>by
     obtain⟨x,hx⟩:=HS.out.mid hle
     exact⟨_,hx.next (by rw[len_list];exact hl) e h⟩
    have hbi:=HS.out.le
    obtain⟨p,hp⟩:∃p,p=pw F s.data.toList b i:=⟨_,rfl⟩
    rw[←hp]at HQ HV HX HY HZ
    clear HP hp hend
    go_wp2_with fail
    refine(HQ.out _).mono ?_
    rintro e w1 ⟨rfl,b1⟩
    have HL:Hid (Lies w1 w.heap.size #[.int .i64 0,.int .i64 0] 32):=HS.out.cell.below b1 HS.out.cell.lt
    have HB:Hid (Below w.heap.size w w1):=HS.out.below.trans (b1.mono HS.out.below.size)
    clear HQ HS b1
    cases p
    ·by_cases hlt:i<s.size
     ·have hlt':(i:Int)<(s.size:Int):=by omega
      obtain⟨e46,n46⟩:=b_eq s[i] 46 46 rfl
      by_cases hc:s[i]=46
      ·rw[decide_eq_true hc]at e46 n46
       have HN:Hid (NmS w F s (i+1) (i+1) w1):=⟨Nat.le_refl _,fun _=>HY.out rfl hlt hc,fun h=>by omega,HL.out,HB.out⟩
       clear HV HX HY HZ HW hc
       go_wp2_with fail
       go_roundw
       case rel=>exact⟨i+1,i+1,by go_num,by go_num,by omega,HN⟩
       case measure=>simp[intOf];omega
      ·rw[decide_eq_false hc]at e46 n46
       have HN:Hid (NmS w F s b (i+1) w1):=⟨by omega,fun _=>HZ.out rfl hlt hc,fun h=>by omega,HL.out,HB.out⟩
       clear HV HX HY HZ HW hc
       go_wp2_with fail
       go_roundw
       case rel=>exact⟨b,i+1,rfl,by go_num,by omega,HN⟩
       case measure=>simp[intOf];omega
     ·have hlt':¬(i:Int)<(s.size:Int):=by omega
      have HN:Hid (NmS w F s b (i+1) w1):=⟨by omega,fun h=>by omega,fun _=>HX.out rfl (by omega),HL.out,HB.out⟩
      clear HV HX HY HZ HW
      go_wp2_with fail
      go_roundw
      case rel=>exact⟨b,i+1,rfl,by go_num,by omega,HN⟩
      case measure=>simp[intOf];omega
    ·have HT:Hid (wd wide s.data.toList=(80,i)):=by show _=_;rw[HW.out,HV.out rfl]
     clear HV HX HY HZ HW
     go_wp2_with (refine wpList_store_row rfl 32 _ _ rfl w.heap.size rfl _ #[.int .i64 80,.int .i64 (i:Int)] rfl 32 HL.out infoSp rfl (by simp[Value.oneCell']) rfl ?_)
     exact bodyPost_ret (results_row (p:=4) (by kernel_rfl) _ _ w.heap.size 32 _ (0,0) _ rfl (HL.out.row _) Tryz.underlying32 rfl infoSp) rfl ⟨by rw[HT.out];rfl,below_row HB.out (Nat.le_refl _) _⟩
open Go.RowKit
theorem run_index_16 (l:List Nat) (hl:l.length=16) (k:Nat) (hk:k<16) (w:World):(Instr.index 23 (.agg (bytesV l)) (.int .i64 (k:Int))).run Tryz.prog w=.ok (.int .u8 (l.getD k 0:Nat)) w:=by
 have h5:(Tryz.prog.info? 5).map (·.size)=some 1:=by kernel_rfl
 have hk':k<l.length:=by omega
 cases hq:Tryz.prog.info? 5 with
 |none=>simp[hq]at h5
 |some i=>
  have hs:i.size=1:=by simpa [hq] using h5
  have hat:=bytesV_at l k hk'
  have hg:l.getD k 0=l[k]:=by rw[List.getD_eq_getElem?_getD,List.getElem?_eq_getElem hk',Option.getD_some]
  rw[hg]
  simp[Instr.index,asIntOf,run_underlying Tryz.underlying23,run_underlying Tryz.underlying5,sizeOf,typeInfo,hq,hs,part,isAgg,hat]
  intro h
  omega
def Okb (z:Nat) (l:List Nat) (i:Nat):Prop:=∀j,j<i→z≤j→l.getD j 0=0
theorem Okb.step {z:Nat} {l:List Nat} {i:Nat} (h:Okb z l i) (hi:z≤i→l.getD i 0=0):Okb z l (i+1):=fun j h1 h2=>by
 rcases Nat.lt_or_ge j i with h'|h'
 ·exact h j h' h2
 ·obtain rfl:j=i:=by omega
  exact hi h2
theorem Okb.drop {z:Nat} {l:List Nat} (hl:l.length=16) (h:Okb z l 16):l.drop z=List.replicate (16 - z) 0:=by
 refine List.ext_getElem (by rw[List.length_drop,hl,List.length_replicate]) fun j h1 h2=>?_
 rw[List.length_drop]at h1
 have:=h (z+j) (by omega) (by omega)
 rw[List.getD_eq_getElem?_getD,List.getElem?_eq_getElem (by omega),Option.getD_some]at this
 rw[List.getElem_drop,this,List.getElem_replicate]
theorem drop_okb {z:Nat} {l:List Nat} (h:l.drop z=List.replicate (16 - z) 0) (j:Nat) (hj:z≤j):l.getD j 0=0:=by
 have e:(l.drop z).getD (j - z) 0=0:=by
  rw[h,List.getD_eq_getElem?_getD,List.getElem?_replicate]
  split<;>rfl
 rw[List.getD_eq_getElem?_getD,List.getElem?_drop,show z+(j - z)=j from by omega]at e
 rw[List.getD_eq_getElem?_getD]
 exact e
theorem len_nil (l:List UInt8):(⟨l.toArray⟩:ByteArray).toList.isEmpty=decide (l=[]):=by
 rw[ByteArray.toList_eq]
 cases l<;>simp
set_option maxHeartbeats 8000000 in
set_option maxRecDepth 100000 in
theorem rck1_any (h:Ho) (ha:h.a.length=16) (wide:Bool) (w:World) (hk:h.k=1):
  Calls Tryz.prog 70 #[hostV h,.bool wide] w fun e w'=>e=.returned (.int .i64 (ckD h wide:Nat))∧Below w.heap.size w w':=by
 have hsz:=hostC_size h ha
 obtain⟨HC,hHC⟩:∃HC,HC=hostC h:=⟨_,rfl⟩
 have e1:hostV h=.agg HC:=by rw[hHC];rfl
 have HHC:Hid (HC=hostC h):=hHC
 rw[←hHC]at hsz
 rw[e1]
 have L1:Hid (Lies (w.alloc (.cells HC 25)) w.heap.size HC 25):=Lies.new w _ _
 have HB:Hid (Below w.heap.size w (w.alloc (.cells HC 25))):=(Below.refl _ _).alloc (Nat.le_refl _) _
 clear hHC e1
 have HV1:Hid (¬h.a=z16→ckD h wide=2):=fun hz=>by
  unfold ckD
  have a1:¬(h.k<1∨4<h.k):=by omega
  have a2:¬((h.k=2∨h.k=3)∧¬h.n=[]):=by omega
  rw[if_neg a1,if_neg a2,if_pos ⟨.inl hk,hz⟩]
 have HV2:Hid (h.a=z16→ckD h wide=(wd wide h.n).1):=fun hz=>by
  unfold ckD
  have a1:¬(h.k<1∨4<h.k):=by omega
  have a2:¬((h.k=2∨h.k=3)∧¬h.n=[]):=by omega
  have a4:¬(h.k=2∧¬h.a.drop 4=List.replicate 12 0):=by omega
  rw[if_neg a1,if_neg a2,if_neg (fun h=>h.2 hz),if_neg a4,if_pos hk]
 go_enter Tryz.func70,Tryz.ntmps70
 go_upto_region 1 with fail
 generalize w.alloc (.cells HC 25)=wA at L1 HB ⊢
 have L1h:Lies wA w.heap.size (hostC h) 25:=by rw[←HHC.out];exact L1.out
 obtain⟨c0,c1⟩:=host_cells L1h
 rw[hk]at c0
 obtain⟨A,hA⟩:∃A,A=h.a.map fun n=>Value.int .u8 (n:Nat):=⟨_,rfl⟩
 have hAl:A.length=16:=by rw[hA,List.length_map,ha]
 have HMID:Hid (wA.rangeAt w.heap.size 2 A):=by rw[hA];exact host_mid L1h
 have HIDX:Hid (∀k,k<16→∀W,(Instr.index 23 (.agg A.toArray) (.int .i64 (k:Nat))).run Tryz.prog W=.ok (.int .u8 (h.a.getD k 0:Nat)) W):=fun k hk W=>by rw[hA];exact run_index_16 h.a ha k hk W
 obtain⟨S,hS⟩:∃S:ByteArray,S=⟨h.n.toArray⟩:=⟨_,rfl⟩
 rw[←hS]at c1
 have HSS:Hid (S=⟨h.n.toArray⟩):=hS
 have HN:Hid (S.data.toList=h.n):=by rw[hS];exact str_list h.n
 have HZ:Hid (S.size=h.n.length):=by rw[hS];exact List.size_toArray ..
 clear hA hS L1h hk
 go_wp2_with (refine wpList_load_mid rfl 23 _ rfl w.heap.size 2 rfl A _ HMID.out Tryz.underlying23 rfl (by rw[hAl];exact info16) ?_)
 go_loopw [32] (fun c wr=>∃i:Nat,i≤16∧c=.int .i64 i∧Hid (Okb 0 h.a i)∧Hid (wr=wA)) (fun c _=>16 - (intOf c).toNat)
 case atStart=>exact⟨0,by omega,rfl,fun j h1 _=>absurd h1 (by omega),rfl⟩
 case round=>
  obtain⟨i,hi,rfl,HO,HVV⟩:=hrel
  obtain rfl:wA=wr:=HVV.out.symm
  clear HVV
  by_cases hlt:i<16
  ·have hlt':(i:Int)<16:=by omega
   have hidx:=HIDX.out i hlt
   obtain⟨x,hx⟩:∃x,x=h.a.getD i 0:=⟨_,rfl⟩
   have HX:Hid (x=h.a.getD i 0):=hx
   rw[←hx]at hidx
   clear hx HIDX
   by_cases hx0:x=0
   ·have HO2:Hid (Okb 0 h.a (i+1)):=HO.out.step fun _=>by rw[←HX.out];exact hx0
    have hxb:((x:Int) != 0)=false:=by rw[hx0];rfl
    have hxc:((x:Int)==0)=true:=by rw[hx0];rfl
    clear hx0 HX HO
    go_wp2_with fail
    go_roundw
    case rel=>exact⟨i+1,by omega,by go_num,HO2,trivial⟩
    case measure=>simp[intOf];omega
   ·have hxb:((x:Int) != 0)=true:=by rw[bne_iff_ne];omega
    have hxc:((x:Int)==0)=false:=by rw[beq_eq_false_iff_ne];omega
    have HT:Hid (ckD h wide=2):=HV1.out fun e=>hx0 (by rw[HX.out];exact drop_okb (z:=0) (by rw[List.drop_zero];exact e) i (by omega))
    clear hx0 HX HO
    go_wp2_with fail
    go_ret
    exact⟨by rw[HT.out];rfl,HB.out⟩
  ·have hlt':¬(i:Int)<16:=by omega
   obtain rfl:i=16:=by omega
   clear HIDX hlt hi
   have HZZ:Hid (h.a=z16):=by have:=Okb.drop ha HO.out;rw[List.drop_zero]at this;exact this
   have HT:Hid (ckD h wide=(wd wide h.n).1):=HV2.out HZZ.out
   have HWD:Hid (Calls Tryz.prog 96 #[.string S,.bool wide] wA fun e w'=>e=.returned (.agg #[.int .i64 ((wd wide h.n).1:Nat),.int .i64 ((wd wide h.n).2:Nat)])∧Below wA.heap.size wA w'):=by
    have:=rname_any S wide wA
    rw[HN.out]at this
    exact this
   generalize wd wide h.n=ev at HT HWD
   have hfd:=field_spot (ev.1:Int) (ev.2:Int)
   go_wp2_with fail
   refine HWD.out.mono ?_
   rintro e w2 ⟨rfl,hb2⟩
   have KB:Hid (Below w.heap.size w w2):=HB.out.trans (hb2.mono (Nat.le_of_lt L1.out.lt))
   clear hb2 HWD c0 c1
   go_wp2_with fail
   go_ret
   exact⟨by rw[HT.out];rfl,KB.out⟩
set_option maxHeartbeats 8000000 in
set_option maxRecDepth 100000 in
theorem rck2_any (h:Ho) (ha:h.a.length=16) (wide:Bool) (w:World) (hk:h.k=2) (hn0:h.n=[]):
  Calls Tryz.prog 70 #[hostV h,.bool wide] w fun e w'=>e=.returned (.int .i64 (ckD h wide:Nat))∧Below w.heap.size w w':=by
 have hsz:=hostC_size h ha
 obtain⟨HC,hHC⟩:∃HC,HC=hostC h:=⟨_,rfl⟩
 have e1:hostV h=.agg HC:=by rw[hHC];rfl
 have HHC:Hid (HC=hostC h):=hHC
 rw[←hHC]at hsz
 rw[e1]
 have L1:Hid (Lies (w.alloc (.cells HC 25)) w.heap.size HC 25):=Lies.new w _ _
 have HB:Hid (Below w.heap.size w (w.alloc (.cells HC 25))):=(Below.refl _ _).alloc (Nat.le_refl _) _
 clear hHC e1
 have HV1:Hid (¬h.a.drop 4=List.replicate 12 0→ckD h wide=2):=fun hz=>by
  unfold ckD
  have a1:¬(h.k<1∨4<h.k):=by omega
  have a3:¬((h.k=1∨h.k=4)∧¬h.a=z16):=by omega
  rw[if_neg a1,if_neg (fun h=>h.2 hn0),if_neg a3,if_pos ⟨hk,hz⟩]
 have HV2:Hid (h.a.drop 4=List.replicate 12 0→ckD h wide=0):=fun hz=>by
  unfold ckD
  have a1:¬(h.k<1∨4<h.k):=by omega
  have a3:¬((h.k=1∨h.k=4)∧¬h.a=z16):=by omega
  have a5:¬h.k=1:=by omega
  have a6:¬(h.k=4∧253<h.n.length):=by omega
  have a7:¬(h.k=4∧(¬tgD h.n=none∨sixB h.n=true)):=by omega
  rw[if_neg a1,if_neg (fun h=>h.2 hn0),if_neg a3,if_neg (fun h=>h.2 hz),if_neg a5,if_neg a6,if_neg a7]
 go_enter Tryz.func70,Tryz.ntmps70
 go_upto_region 1 with fail
 generalize w.alloc (.cells HC 25)=wA at L1 HB ⊢
 have L1h:Lies wA w.heap.size (hostC h) 25:=by rw[←HHC.out];exact L1.out
 obtain⟨c0,c1⟩:=host_cells L1h
 rw[hk]at c0
 obtain⟨A,hA⟩:∃A,A=h.a.map fun n=>Value.int .u8 (n:Nat):=⟨_,rfl⟩
 have hAl:A.length=16:=by rw[hA,List.length_map,ha]
 have HMID:Hid (wA.rangeAt w.heap.size 2 A):=by rw[hA];exact host_mid L1h
 have HIDX:Hid (∀k,k<16→∀W,(Instr.index 23 (.agg A.toArray) (.int .i64 (k:Nat))).run Tryz.prog W=.ok (.int .u8 (h.a.getD k 0:Nat)) W):=fun k hk W=>by rw[hA];exact run_index_16 h.a ha k hk W
 obtain⟨S,hS⟩:∃S:ByteArray,S=⟨h.n.toArray⟩:=⟨_,rfl⟩
 rw[←hS]at c1
 have HSS:Hid (S=⟨h.n.toArray⟩):=hS
 have HN:Hid (S.data.toList=h.n):=by rw[hS];exact str_list h.n
 have HZ:Hid (S.size=h.n.length):=by rw[hS];exact List.size_toArray ..
 have hemp:S.toList.isEmpty=true:=by rw[hS,len_nil,decide_eq_true hn0]
 clear hA hS L1h hk hn0
 go_wp2_with (refine wpList_load_mid rfl 23 _ rfl w.heap.size 2 rfl A _ HMID.out Tryz.underlying23 rfl (by rw[hAl];exact info16) ?_)
 go_loopw [32] (fun c wr=>∃i:Nat,i≤16∧c=.int .i64 i∧Hid (Okb 4 h.a i)∧Hid (wr=wA)) (fun c _=>16 - (intOf c).toNat)
 case atStart=>exact⟨0,by omega,rfl,fun j h1 _=>absurd h1 (by omega),rfl⟩
 case round=>
  obtain⟨i,hi,rfl,HO,HVV⟩:=hrel
  obtain rfl:wA=wr:=HVV.out.symm
  clear HVV
  by_cases hlt:i<16
  ·have hlt':(i:Int)<16:=by omega
   have hidx:=HIDX.out i hlt
   obtain⟨x,hx⟩:∃x,x=h.a.getD i 0:=⟨_,rfl⟩
   have HX:Hid (x=h.a.getD i 0):=hx
   rw[←hx]at hidx
   clear hx HIDX
   by_cases hx0:x=0
   ·have HO2:Hid (Okb 4 h.a (i+1)):=HO.out.step fun _=>by rw[←HX.out];exact hx0
    have hxb:((x:Int) != 0)=false:=by rw[hx0];rfl
    have hxc:((x:Int)==0)=true:=by rw[hx0];rfl
    clear hx0 HX HO
    go_wp2_with fail
    go_roundw
    case rel=>exact⟨i+1,by omega,by go_num,HO2,trivial⟩
    case measure=>simp[intOf];omega
   ·have hxb:((x:Int) != 0)=true:=by rw[bne_iff_ne];omega
    have hxc:((x:Int)==0)=false:=by rw[beq_eq_false_iff_ne];omega
    by_cases h3:3<i
    ·have h3':(3:Int)<(i:Int):=by omega
     have HT:Hid (ckD h wide=2):=HV1.out fun e=>hx0 (by rw[HX.out];exact drop_okb (z:=4) e i (by omega))
     clear hx0 HX HO
     go_wp2_with fail
     go_ret
     exact⟨by rw[HT.out];rfl,HB.out⟩
    ·have h3':¬(3:Int)<(i:Int):=by omega
     have HO2:Hid (Okb 4 h.a (i+1)):=HO.out.step fun h=>absurd h (by omega)
     clear hx0 HX HO
     go_wp2_with fail
     go_roundw
     case rel=>exact⟨i+1,by omega,by go_num,HO2,trivial⟩
     case measure=>simp[intOf];omega
  ·have hlt':¬(i:Int)<16:=by omega
   obtain rfl:i=16:=by omega
   clear HIDX hlt hi
   have HT:Hid (ckD h wide=0):=HV2.out (Okb.drop ha HO.out)
   go_wp2_with fail
   go_ret
   exact⟨by rw[HT.out];rfl,HB.out⟩
set_option maxHeartbeats 8000000 in
set_option maxRecDepth 100000 in
theorem rck3_any (h:Ho) (ha:h.a.length=16) (wide:Bool) (w:World) (hk:h.k=3) (hn0:h.n=[]):
  Calls Tryz.prog 70 #[hostV h,.bool wide] w fun e w'=>e=.returned (.int .i64 (ckD h wide:Nat))∧Below w.heap.size w w':=by
 have hsz:=hostC_size h ha
 obtain⟨HC,hHC⟩:∃HC,HC=hostC h:=⟨_,rfl⟩
 have e1:hostV h=.agg HC:=by rw[hHC];rfl
 have HHC:Hid (HC=hostC h):=hHC
 rw[←hHC]at hsz
 rw[e1]
 have L1:Hid (Lies (w.alloc (.cells HC 25)) w.heap.size HC 25):=Lies.new w _ _
 have HB:Hid (Below w.heap.size w (w.alloc (.cells HC 25))):=(Below.refl _ _).alloc (Nat.le_refl _) _
 clear hHC e1
 have HV2:Hid (ckD h wide=0):=by
  show _=_
  unfold ckD
  have a1:¬(h.k<1∨4<h.k):=by omega
  have a3:¬((h.k=1∨h.k=4)∧¬h.a=z16):=by omega
  have a4:¬(h.k=2∧¬h.a.drop 4=List.replicate 12 0):=by omega
  have a5:¬h.k=1:=by omega
  have a6:¬(h.k=4∧253<h.n.length):=by omega
  have a7:¬(h.k=4∧(¬tgD h.n=none∨sixB h.n=true)):=by omega
  rw[if_neg a1,if_neg (fun h=>h.2 hn0),if_neg a3,if_neg a4,if_neg a5,if_neg a6,if_neg a7]
 go_enter Tryz.func70,Tryz.ntmps70
 go_upto_region 1 with fail
 generalize w.alloc (.cells HC 25)=wA at L1 HB ⊢
 have L1h:Lies wA w.heap.size (hostC h) 25:=by rw[←HHC.out];exact L1.out
 obtain⟨c0,c1⟩:=host_cells L1h
 rw[hk]at c0
 obtain⟨A,hA⟩:∃A,A=h.a.map fun n=>Value.int .u8 (n:Nat):=⟨_,rfl⟩
 have hAl:A.length=16:=by rw[hA,List.length_map,ha]
 have HMID:Hid (wA.rangeAt w.heap.size 2 A):=by rw[hA];exact host_mid L1h
 have HIDX:Hid (∀k,k<16→∀W,(Instr.index 23 (.agg A.toArray) (.int .i64 (k:Nat))).run Tryz.prog W=.ok (.int .u8 (h.a.getD k 0:Nat)) W):=fun k hk W=>by rw[hA];exact run_index_16 h.a ha k hk W
 obtain⟨S,hS⟩:∃S:ByteArray,S=⟨h.n.toArray⟩:=⟨_,rfl⟩
 rw[←hS]at c1
 have HSS:Hid (S=⟨h.n.toArray⟩):=hS
 have HN:Hid (S.data.toList=h.n):=by rw[hS];exact str_list h.n
 have HZ:Hid (S.size=h.n.length):=by rw[hS];exact List.size_toArray ..
 have hemp:S.toList.isEmpty=true:=by rw[hS,len_nil,decide_eq_true hn0]
 clear hA hS L1h hk hn0
 go_wp2_with (refine wpList_load_mid rfl 23 _ rfl w.heap.size 2 rfl A _ HMID.out Tryz.underlying23 rfl (by rw[hAl];exact info16) ?_)
 go_loopw [32] (fun c wr=>∃i:Nat,i≤16∧c=.int .i64 i∧Hid (Okb 16 h.a i)∧Hid (wr=wA)) (fun c _=>16 - (intOf c).toNat)
 case atStart=>exact⟨0,by omega,rfl,fun j h1 _=>absurd h1 (by omega),rfl⟩
 case round=>
  obtain⟨i,hi,rfl,HO,HVV⟩:=hrel
  obtain rfl:wA=wr:=HVV.out.symm
  clear HVV
  by_cases hlt:i<16
  ·have hlt':(i:Int)<16:=by omega
   have hidx:=HIDX.out i hlt
   obtain⟨x,hx⟩:∃x,x=h.a.getD i 0:=⟨_,rfl⟩
   have HX:Hid (x=h.a.getD i 0):=hx
   rw[←hx]at hidx
   clear hx HIDX
   by_cases hx0:x=0
   ·have HO2:Hid (Okb 16 h.a (i+1)):=HO.out.step fun _=>by rw[←HX.out];exact hx0
    have hxb:((x:Int) != 0)=false:=by rw[hx0];rfl
    have hxc:((x:Int)==0)=true:=by rw[hx0];rfl
    clear hx0 HX HO
    go_wp2_with fail
    go_roundw
    case rel=>exact⟨i+1,by omega,by go_num,HO2,trivial⟩
    case measure=>simp[intOf];omega
   ·have hxb:((x:Int) != 0)=true:=by rw[bne_iff_ne];omega
    have hxc:((x:Int)==0)=false:=by rw[beq_eq_false_iff_ne];omega
    have HO2:Hid (Okb 16 h.a (i+1)):=HO.out.step fun h=>absurd h (by omega)
    clear hx0 HX HO
    go_wp2_with fail
    go_roundw
    case rel=>exact⟨i+1,by omega,by go_num,HO2,trivial⟩
    case measure=>simp[intOf];omega
  ·have hlt':¬(i:Int)<16:=by omega
   obtain rfl:i=16:=by omega
   clear HIDX hlt hi
   go_wp2_with fail
   go_ret
   exact⟨by rw[HV2.out];rfl,HB.out⟩
set_option maxHeartbeats 8000000 in
set_option maxRecDepth 100000 in
theorem rck4_any (h:Ho) (ha:h.a.length=16) (wide:Bool) (w:World) (hn:h.n.length≤140737488351232) (hk:h.k=4):
  Calls Tryz.prog 70 #[hostV h,.bool wide] w fun e w'=>e=.returned (.int .i64 (ckD h wide:Nat))∧Below w.heap.size w w':=by
 have hsz:=hostC_size h ha
 obtain⟨HC,hHC⟩:∃HC,HC=hostC h:=⟨_,rfl⟩
 have e1:hostV h=.agg HC:=by rw[hHC];rfl
 have HHC:Hid (HC=hostC h):=hHC
 rw[←hHC]at hsz
 rw[e1]
 have L1:Hid (Lies (w.alloc (.cells HC 25)) w.heap.size HC 25):=Lies.new w _ _
 have HB:Hid (Below w.heap.size w (w.alloc (.cells HC 25))):=(Below.refl _ _).alloc (Nat.le_refl _) _
 clear hHC e1
 have HV1:Hid (¬h.a=z16→ckD h wide=2):=fun hz=>by
  unfold ckD
  have a1:¬(h.k<1∨4<h.k):=by omega
  have a2:¬((h.k=2∨h.k=3)∧¬h.n=[]):=by omega
  rw[if_neg a1,if_neg a2,if_pos ⟨.inr hk,hz⟩]
 have HV2:Hid (h.a=z16→ckD h wide=if 253<h.n.length then 82 else if ¬tgD h.n=none∨sixB h.n=true then 83 else 0):=fun hz=>by
  unfold ckD
  have a1:¬(h.k<1∨4<h.k):=by omega
  have a2:¬((h.k=2∨h.k=3)∧¬h.n=[]):=by omega
  have a4:¬(h.k=2∧¬h.a.drop 4=List.replicate 12 0):=by omega
  have a5:¬h.k=1:=by omega
  rw[if_neg a1,if_neg a2,if_neg (fun h=>h.2 hz),if_neg a4,if_neg a5]
  by_cases b1:253<h.n.length
  ·rw[if_pos ⟨hk,b1⟩,if_pos b1]
  ·rw[if_neg (fun h=>b1 h.2),if_neg b1]
   by_cases b2:¬tgD h.n=none∨sixB h.n=true
   ·rw[if_pos ⟨hk,b2⟩,if_pos b2]
   ·rw[if_neg (fun h=>b2 h.2),if_neg b2]
 go_enter Tryz.func70,Tryz.ntmps70
 go_upto_region 1 with fail
 generalize w.alloc (.cells HC 25)=wA at L1 HB ⊢
 have L1h:Lies wA w.heap.size (hostC h) 25:=by rw[←HHC.out];exact L1.out
 obtain⟨c0,c1⟩:=host_cells L1h
 rw[hk]at c0
 obtain⟨A,hA⟩:∃A,A=h.a.map fun n=>Value.int .u8 (n:Nat):=⟨_,rfl⟩
 have hAl:A.length=16:=by rw[hA,List.length_map,ha]
 have HMID:Hid (wA.rangeAt w.heap.size 2 A):=by rw[hA];exact host_mid L1h
 have HIDX:Hid (∀k,k<16→∀W,(Instr.index 23 (.agg A.toArray) (.int .i64 (k:Nat))).run Tryz.prog W=.ok (.int .u8 (h.a.getD k 0:Nat)) W):=fun k hk W=>by rw[hA];exact run_index_16 h.a ha k hk W
 obtain⟨S,hS⟩:∃S:ByteArray,S=⟨h.n.toArray⟩:=⟨_,rfl⟩
 rw[←hS]at c1
 have HSS:Hid (S=⟨h.n.toArray⟩):=hS
 have HN:Hid (S.data.toList=h.n):=by rw[hS];exact str_list h.n
 have HZ:Hid (S.size=h.n.length):=by rw[hS];exact List.size_toArray ..
 clear hA hS L1h hk
 go_wp2_with (refine wpList_load_mid rfl 23 _ rfl w.heap.size 2 rfl A _ HMID.out Tryz.underlying23 rfl (by rw[hAl];exact info16) ?_)
 go_loopw [32] (fun c wr=>∃i:Nat,i≤16∧c=.int .i64 i∧Hid (Okb 0 h.a i)∧Hid (wr=wA)) (fun c _=>16 - (intOf c).toNat)
 case atStart=>exact⟨0,by omega,rfl,fun j h1 _=>absurd h1 (by omega),rfl⟩
 case round=>
  obtain⟨i,hi,rfl,HO,HVV⟩:=hrel
  obtain rfl:wA=wr:=HVV.out.symm
  clear HVV
  by_cases hlt:i<16
  ·have hlt':(i:Int)<16:=by omega
   have hidx:=HIDX.out i hlt
   obtain⟨x,hx⟩:∃x,x=h.a.getD i 0:=⟨_,rfl⟩
   have HX:Hid (x=h.a.getD i 0):=hx
   rw[←hx]at hidx
   clear hx HIDX
   by_cases hx0:x=0
   ·have HO2:Hid (Okb 0 h.a (i+1)):=HO.out.step fun _=>by rw[←HX.out];exact hx0
    have hxb:((x:Int) != 0)=false:=by rw[hx0];rfl
    have hxc:((x:Int)==0)=true:=by rw[hx0];rfl
    clear hx0 HX HO
    go_wp2_with fail
    go_roundw
    case rel=>exact⟨i+1,by omega,by go_num,HO2,trivial⟩
    case measure=>simp[intOf];omega
   ·have hxb:((x:Int) != 0)=true:=by rw[bne_iff_ne];omega
    have hxc:((x:Int)==0)=false:=by rw[beq_eq_false_iff_ne];omega
    have HT:Hid (ckD h wide=2):=HV1.out fun e=>hx0 (by rw[HX.out];exact drop_okb (z:=0) (by rw[List.drop_zero];exact e) i (by omega))
    clear hx0 HX HO
    go_wp2_with fail
    go_ret
    exact⟨by rw[HT.out];rfl,HB.out⟩
  ·have hlt':¬(i:Int)<16:=by omega
   obtain rfl:i=16:=by omega
   clear HIDX hlt hi
   have HZZ:Hid (h.a=z16):=by have:=Okb.drop ha HO.out;rw[List.drop_zero]at this;exact this
   have HT0:=HV2.out HZZ.out
   have hw:w.heap.size≤wA.heap.size:=Nat.le_of_lt L1.out.lt
   by_cases h253:253<h.n.length
   ·have HT:Hid (ckD h wide=82):=by rw[if_pos h253]at HT0;exact HT0
    have h253':(253:Int)<(S.size:Int):=by rw[HZ.out];omega
    clear HT0 h253 hn
    go_wp2_with fail
    go_ret
    exact⟨by rw[HT.out];rfl,HB.out⟩
   ·rw[if_neg h253]at HT0
    have h253':¬(253:Int)<(S.size:Int):=by rw[HZ.out];omega
    have HTG:Hid (Calls Tryz.prog 97 #[.string S] wA fun e w'=>e=.returned (.int .i64 (optI (tgD h.n)))∧Below wA.heap.size wA w'):=by
     have:=tagged_any S wA (by unfold maxLen;rw[HZ.out];omega)
     rw[HN.out]at this
     exact this
    cases htg:tgD h.n with
    |some p=>
     have HT:Hid (ckD h wide=83):=by rw[if_pos (.inl (by rw[htg];simp))]at HT0;exact HT0
     rw[htg]at HTG
     have HTG2:Hid (Calls Tryz.prog 97 #[.string S] wA fun e w'=>e=.returned (.int .i64 (p:Nat))∧Below wA.heap.size wA w'):=HTG
     clear HT0 h253 hn HTG htg
     go_wp2_with fail
     refine HTG2.out.mono ?_
     rintro e w2 ⟨rfl,hb2⟩
     have KB:Hid (Below w.heap.size w w2):=HB.out.trans (hb2.mono hw)
     have hp0:(0:Int)≤(p:Int):=by omega
     clear hb2 HTG2 c0 c1
     go_wp2_with fail
     go_ret
     exact⟨by rw[HT.out];rfl,KB.out⟩
    |none=>
     rw[htg]at HTG
     have HTG2:Hid (Calls Tryz.prog 97 #[.string S] wA fun e w'=>e=.returned (.int .i64 (-1))∧Below wA.heap.size wA w'):=HTG
     have HT:Hid (ckD h wide=if sixB h.n=true then 83 else 0):=by
      show _=_
      rw[HT0]
      by_cases h6:sixB h.n=true
      ·rw[if_pos (.inr h6),if_pos h6]
      ·rw[if_neg (fun h=>h.elim (fun h=>h htg) h6),if_neg h6]
     clear HT0 h253 hn HTG htg
     go_wp2_with fail
     refine HTG2.out.mono ?_
     rintro e w2 ⟨rfl,hb2⟩
     have KB:Hid (Below w.heap.size w w2):=HB.out.trans (hb2.mono hw)
     have L2:Hid (Lies w2 w.heap.size HC 25):=L1.out.below hb2 L1.out.lt
     have c1':w2.cell? ⟨w.heap.size,1,none⟩=some (.string S):=by
      rw[HSS.out]
      exact(host_cells (h:=h) (by rw[←HHC.out];exact L2.out)).2
     have hw2:w.heap.size<w2.heap.size:=L2.out.lt
     have HSX:Hid (Calls Tryz.prog 98 #[.string S] w2 fun e w'=>e=.returned (.bool (sixB h.n))∧Below w2.heap.size w2 w'):=by
      have:=sixth_any S w2
      rw[HN.out]at this
      exact this
     clear hb2 HTG2 c0 c1
     generalize sixB h.n=x at HSX HT
     go_wp2_with fail
     refine HSX.out.mono ?_
     rintro e w3 ⟨rfl,hb3⟩
     have KC:Hid (Below w.heap.size w w3):=KB.out.trans (hb3.mono (Nat.le_of_lt hw2))
     clear hb3 HSX c1'
     cases x
     ·go_wp2_with fail
      go_ret
      exact⟨by rw[HT.out];rfl,KC.out⟩
     ·go_wp2_with fail
      go_ret
      exact⟨by rw[HT.out];rfl,KC.out⟩
set_option maxHeartbeats 8000000 in
set_option maxRecDepth 100000 in
theorem rck0_any (h:Ho) (wide:Bool) (w:World) (hk:(h.k<1∨4<h.k)∨((h.k=2∨h.k=3)∧¬h.n=[])):
  Calls Tryz.prog 70 #[hostV h,.bool wide] w fun e w'=>e=.returned (.int .i64 (2:Nat))∧Below w.heap.size w w':=by
 obtain⟨HC,hHC⟩:∃HC,HC=hostC h:=⟨_,rfl⟩
 have e1:hostV h=.agg HC:=by rw[hHC];rfl
 have HHC:Hid (HC=hostC h):=hHC
 rw[e1]
 have L1:Hid (Lies (w.alloc (.cells HC 25)) w.heap.size HC 25):=Lies.new w _ _
 have HB:Hid (Below w.heap.size w (w.alloc (.cells HC 25))):=(Below.refl _ _).alloc (Nat.le_refl _) _
 clear hHC e1
 go_enter Tryz.func70,Tryz.ntmps70
 go_upto_region 1 with fail
 generalize w.alloc (.cells HC 25)=wA at L1 HB ⊢
 have L1h:Lies wA w.heap.size (hostC h) 25:=by rw[←HHC.out];exact L1.out
 obtain⟨c0,c1⟩:=host_cells L1h
 obtain⟨S,hS⟩:∃S:ByteArray,S=⟨h.n.toArray⟩:=⟨_,rfl⟩
 rw[←hS]at c1
 obtain⟨k,hkk⟩:∃k,k=h.k:=⟨_,rfl⟩
 rw[←hkk]at c0 hk
 rcases hk with(h1|h1)|⟨h1|h1,h2⟩
 ·clear L1h hkk hS
  go_wp2_with fail
  go_ret
  exact⟨rfl,HB.out⟩
 ·have h1':¬k<1:=by omega
  clear L1h hkk hS
  go_wp2_with fail
  go_ret
  exact⟨rfl,HB.out⟩
 ·have hemp:S.toList.isEmpty=false:=by rw[hS,len_nil,decide_eq_false h2]
  rw[h1]at c0
  clear L1h hkk hS h2 h1
  go_wp2_with fail
  go_ret
  exact⟨rfl,HB.out⟩
 ·have hemp:S.toList.isEmpty=false:=by rw[hS,len_nil,decide_eq_false h2]
  rw[h1]at c0
  clear L1h hkk hS h2 h1
  go_wp2_with fail
  go_ret
  exact⟨rfl,HB.out⟩
theorem rcheck_any (h:Ho) (ha:h.a.length=16) (wide:Bool) (w:World) (hn:h.n.length≤140737488351232):
  Calls Tryz.prog 70 #[hostV h,.bool wide] w fun e w'=>e=.returned (.int .i64 (check h wide:Nat))∧Below w.heap.size w w':=by
 rw[←ckD_is h ha]
 by_cases h0:(h.k<1∨4<h.k)∨((h.k=2∨h.k=3)∧¬h.n=[])
 ·have e:ckD h wide=2:=by
   unfold ckD
   rcases h0 with h0|h0
   ·rw[if_pos h0]
   ·rw[if_neg (by omega),if_pos h0]
  rw[e]
  exact rck0_any h wide w h0
 ·have hnn:h.k=2∨h.k=3→h.n=[]:=fun h2=>Classical.byContradiction fun h3=>h0 (.inr ⟨h2,h3⟩)
  have hk:h.k=1∨h.k=2∨h.k=3∨h.k=4:=by
   have:¬(h.k<1∨4<h.k):=fun h'=>h0 (.inl h')
   omega
  rcases hk with k|k|k|k
  ·exact rck1_any h ha wide w k
  ·exact rck2_any h ha wide w k (hnn (.inl k))
  ·exact rck3_any h ha wide w k (hnn (.inr k))
  ·exact rck4_any h ha wide w hn k
end Go.Proofs.YtfjpkfhbmldmfaaGreatDoor
