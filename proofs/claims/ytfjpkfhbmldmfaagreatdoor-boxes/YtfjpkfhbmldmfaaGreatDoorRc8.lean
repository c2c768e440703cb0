/-
  The document's placeWrong and Name.
-/
import Derived.Test.YtfjpkfhbmldmfaaGreatDoorRt8
import Derived.Test.YtfjpkfhbmldmfaaGreatDoorRDec
import Derived.Test.YtfjpkfhbmldmfaaGreatDoorWd8
import Derived.Test.YtfjpkfhbmldmfaaGreatDoorRcP
namespace Go.Proofs.YtfjpkfhbmldmfaaGreatDoor
open Go.RowKit
def fmd (wide:Bool) (s:List UInt8):Nat:=if wide=true then badU s else 0
theorem pw_endv {F:Nat} {s:ByteArray} {b i:Nat} (h:i=s.size∨∃h:i<s.size,s[i]=46):pw F s.data.toList b i=(decide (i=b)||decide (s.data.toList[i - 1]?=some 45)):=by
 unfold pw
 rcases h with h|⟨h,h'⟩
 ·rw[List.getElem?_eq_none (by rw[len_list];omega)]
 ·rw[list_at s i h,h']
  rfl
theorem pw_mid {F:Nat} {s:ByteArray} {b i:Nat} (h:i<s.size) (h':s[i]≠46):pw F s.data.toList b i=pwC F i (i - b) s[i]:=by
 unfold pw
 rw[list_at s i h]
 exact if_neg h'
theorem pwC_no {F a n:Nat} {c:UInt8} (h1:letB c=false) (h2:dgB c=false) (h3:¬c=45) (h4:¬(128≤c.toNat∧a<F)):pwC F a n c=true:=if_pos ⟨h1,h2,h3,h4⟩
theorem pwC_yes {F a n:Nat} {c:UInt8} (h:letB c=true∨dgB c=true∨c=45∨(128≤c.toNat∧a<F)):pwC F a n c=(decide (63≤n)||(decide (c=45)&&decide (n=0))):=by
 unfold pwC
 rw[if_neg]
 rintro ⟨a1,a2,a3,a4⟩
 rcases h with h|h|h|h
 ·rw[h]at a1;cases a1
 ·rw[h]at a2;cases a2
 ·exact a3 h
 ·exact a4 h
set_option maxHeartbeats 8000000 in
set_option maxRecDepth 100000 in
theorem pwe_any (s:ByteArray) (wide:Bool) (b i:Nat) (hb:b≤i) (hi:i≤s.size) (hs:s.size≤255) (h:i=s.size∨∃h:i<s.size,s[i]=46) (w:World):
  Calls Tryz.prog 131 #[.string s,.bool wide,.int .i64 (b:Nat),.int .i64 (i:Nat)] w fun e w'=>e=.returned (.bool (pw (fmd wide s.data.toList) s.data.toList b i))∧Below w.heap.size w w':=by
 rw[pw_endv h]
 by_cases hz:i=s.size
 ·have hzb:((i:Int)==(s.size:Int))=true:=by rw[beq_iff_eq];omega
  by_cases he:i=b
  ·have heb:((i:Int)==(b:Int))=true:=by rw[beq_iff_eq];omega
   rw[decide_eq_true he]
   clear he h hz
   go_enter Tryz.func131,Tryz.ntmps131
   go_wp2_with fail
   go_ret
   exact⟨by first|rfl|simp,Below.refl _ _⟩
  ·have heb:((i:Int)==(b:Int))=false:=by rw[beq_eq_false_iff_ne];omega
   rw[decide_eq_false he]
   obtain⟨m,rfl⟩:∃m,i=m+1:=⟨i - 1,by omega⟩
   have hzc:((m:Int)+1==(s.size:Int))=true:=by rw[beq_iff_eq];omega
   have hm:m<s.size:=by omega
   have heb':((m:Int)+1==(b:Int))=false:=by rw[beq_eq_false_iff_ne];omega
   rw[Nat.add_sub_cancel,list_at s m hm]
   obtain⟨e45,n45⟩:=b_eq s[m] 45 45 rfl
   have HE:Hid (decide (some s[m]=some (45:UInt8))=((s[m].toNat:Int)==45)):=by show _=_;rw[e45];simp
   clear he h heb e45 n45 hz hzb
   go_enter Tryz.func131,Tryz.ntmps131
   go_wp2_with fail
   go_ret
   exact⟨by rw[HE.out];rfl,Below.refl _ _⟩
 ·have hlt:i<s.size:=by omega
  have hc:s[i]=46:=by rcases h with h|⟨_,h⟩;exact absurd h hz;exact h
  obtain⟨e46,n46⟩:=b_eq s[i] 46 46 rfl
  rw[decide_eq_true hc]at e46 n46
  clear hc
  have hzb:((i:Int)==(s.size:Int))=false:=by rw[beq_eq_false_iff_ne];omega
  by_cases he:i=b
  ·have heb:((i:Int)==(b:Int))=true:=by rw[beq_iff_eq];omega
   rw[decide_eq_true he]
   clear he h hz
   go_enter Tryz.func131,Tryz.ntmps131
   go_wp2_with fail
   go_ret
   exact⟨by first|rfl|simp,Below.refl _ _⟩
  ·have heb:((i:Int)==(b:Int))=false:=by rw[beq_eq_false_iff_ne];omega
   rw[decide_eq_false he]
   obtain⟨m,rfl⟩:∃m,i=m+1:=⟨i - 1,by omega⟩
   have hzc:((m:Int)+1==(s.size:Int))=false:=by rw[beq_eq_false_iff_ne];omega
   have hm:m<s.size:=by omega
   have heb':((m:Int)+1==(b:Int))=false:=by rw[beq_eq_false_iff_ne];omega
   rw[Nat.add_sub_cancel,list_at s m hm]
   obtain⟨e45,n45⟩:=b_eq s[m] 45 45 rfl
   have HE:Hid (decide (some s[m]=some (45:UInt8))=((s[m].toNat:Int)==45)):=by show _=_;rw[e45];simp
   clear he h heb e45 n45 hz hzb
   go_enter Tryz.func131,Tryz.ntmps131
   go_wp2_with fail
   go_ret
   exact⟨by rw[HE.out];rfl,Below.refl _ _⟩
set_option maxHeartbeats 16000000 in
set_option maxRecDepth 100000 in
theorem pwm_any (s:ByteArray) (wide:Bool) (b i:Nat) (hb:b≤i) (hlt:i<s.size) (hs:s.size≤255) (hc:s[i]≠46) (w:World):
  Calls Tryz.prog 131 #[.string s,.bool wide,.int .i64 (b:Nat),.int .i64 (i:Nat)] w fun e w'=>e=.returned (.bool (pw (fmd wide s.data.toList) s.data.toList b i))∧Below w.heap.size w w':=by
 rw[pw_mid hlt hc]
 have hzb:((i:Int)==(s.size:Int))=false:=by rw[beq_eq_false_iff_ne];omega
 obtain⟨e46,n46⟩:=b_eq s[i] 46 46 rfl
 rw[decide_eq_false hc]at e46 n46
 obtain⟨e45,n45⟩:=b_eq s[i] 45 45 rfl
 have HL:Hid (∀w:World,Calls Tryz.prog 132 #[.int .u8 (s[i].toNat:Int)] w fun e w'=>e=.returned (.bool (letB s[i]))∧w'=w):=letter_any s[i]
 have HD:Hid (∀w:World,Calls Tryz.prog 133 #[.int .u8 (s[i].toNat:Int)] w fun e w'=>e=.returned (.bool (dgB s[i]))∧w'=w):=digit_any s[i]
 obtain⟨R,hR⟩:∃R,R=pwC (fmd wide s.data.toList) i (i - b) s[i]:=⟨_,rfl⟩
 have HN:Hid (letB s[i]=false→dgB s[i]=false→¬s[i]=45→¬(128≤s[i].toNat∧i<fmd wide s.data.toList)→R=true):=fun h1 h2 h3 h4=>by rw[hR];exact pwC_no h1 h2 h3 h4
 have HY:Hid ((letB s[i]=true∨dgB s[i]=true∨s[i]=45∨(128≤s[i].toNat∧i<fmd wide s.data.toList))→R=(decide (63≤(i:Int) - (b:Int))||(((s[i].toNat:Int)==45)&&((i:Int)==(b:Int))))):=fun h=>by
  rw[hR,pwC_yes h,e45]
  congr 1
  ·rw[Bool.eq_iff_iff,decide_eq_true_eq,decide_eq_true_eq];omega
  ·congr 1
   rw[Bool.eq_iff_iff,decide_eq_true_eq,beq_iff_eq];omega
 rw[←hR]
 clear hR hc
 obtain⟨x1,h1⟩:∃x,x=letB s[i]:=⟨_,rfl⟩
 obtain⟨x2,h2⟩:∃x,x=dgB s[i]:=⟨_,rfl⟩
 rw[←h1]at HL HN HY
 rw[←h2]at HD HN HY
 clear h1 h2
 have HC:Hid (decide (s[i]=45)=true↔s[i]=45):=decide_eq_true_iff
 obtain⟨x3,h3⟩:∃x,x=decide (s[i]=45):=⟨_,rfl⟩
 rw[←h3]at e45 n45 HC
 clear h3
 cases wide
 ·have HH:Hid (¬(128≤s[i].toNat∧i<fmd false s.data.toList)):=fun h=>by simp[fmd]at h
  cases x1
  ·cases x2
   ·cases x3
    ·have HR:Hid (R=true):=HN.out rfl rfl (fun h=>by simpa using HC.out.2 h) HH.out
     clear HN HY HC
     go_enter Tryz.func131,Tryz.ntmps131
     go_wp2_with fail
     refine(HL.out _).mono ?_
     rintro e w1 ⟨rfl,rfl⟩
     go_wp2_with fail
     refine(HD.out _).mono ?_
     rintro e w1 ⟨rfl,rfl⟩
     clear HL HD
     go_wp2_with fail
     all_goals go_ret
     all_goals exact⟨by rw[HR.out];first|rfl|(simp;done)|(simp_all;done)|(simp_all;omega),Below.refl _ _⟩
    ·have HR:Hid (R=(decide (63≤(i:Int) - (b:Int))||(((s[i].toNat:Int)==45)&&((i:Int)==(b:Int))))):=HY.out (.inr (.inr (.inl (HC.out.1 rfl))))
     clear HN HY HC
     go_enter Tryz.func131,Tryz.ntmps131
     go_wp2_with fail
     refine(HL.out _).mono ?_
     rintro e w1 ⟨rfl,rfl⟩
     go_wp2_with fail
     refine(HD.out _).mono ?_
     rintro e w1 ⟨rfl,rfl⟩
     clear HL HD
     go_wp2_with fail
     all_goals go_ret
     all_goals exact⟨by rw[HR.out];first|rfl|(simp;done)|(simp_all;done)|(simp_all;omega),Below.refl _ _⟩
   ·have HR:Hid (R=(decide (63≤(i:Int) - (b:Int))||(((s[i].toNat:Int)==45)&&((i:Int)==(b:Int))))):=HY.out (.inr (.inl rfl))
    clear HN HY HC
    go_enter Tryz.func131,Tryz.ntmps131
    go_wp2_with fail
    refine(HL.out _).mono ?_
    rintro e w1 ⟨rfl,rfl⟩
    go_wp2_with fail
    refine(HD.out _).mono ?_
    rintro e w1 ⟨rfl,rfl⟩
    clear HL HD
    go_wp2_with fail
    all_goals go_ret
    all_goals exact⟨by rw[HR.out];first|rfl|(simp;done)|(simp_all;done)|(simp_all;omega),Below.refl _ _⟩
  ·have HR:Hid (R=(decide (63≤(i:Int) - (b:Int))||(((s[i].toNat:Int)==45)&&((i:Int)==(b:Int))))):=HY.out (.inl rfl)
   clear HN HY HC
   go_enter Tryz.func131,Tryz.ntmps131
   go_wp2_with fail
   refine(HL.out _).mono ?_
   rintro e w1 ⟨rfl,rfl⟩
   clear HL HD
   go_wp2_with fail
   all_goals go_ret
   all_goals exact⟨by rw[HR.out];first|rfl|(simp;done)|(simp_all;done)|(simp_all;omega),Below.refl _ _⟩
 ·by_cases h127:(127:Int)<(s[i].toNat:Int)
  ·obtain⟨c,w2,hconv,hrow,hc1, -,hb2,hz2,hl2⟩:=conv_bytes w s
   have HBT:Hid (Bts (some ⟨w.heap.size,0,none⟩) s.data.toList w2):=.inr ⟨w.heap.size,0,rfl,by omega,hrow⟩
   have hD:=dbad_any (some ⟨w.heap.size,0,none⟩) s.data.toList c w2 HBT.out (by rw[len_list];omega) (by rw[len_list];omega)
   rw[len_list]at hD
   have HB2:Hid (Below w.heap.size w w2):=hb2
   have HS2:Hid (w.heap.size≤w2.heap.size):=Nat.le_of_lt hz2
   clear hrow hb2 hz2 hl2 HBT hc1
   by_cases hF:i<badU s.data.toList
   ·have HH:Hid (128≤s[i].toNat∧i<fmd true s.data.toList):=⟨by omega,by simpa [fmd] using hF⟩
    have hF':(i:Int)<(badU s.data.toList:Int):=by omega
    generalize badU s.data.toList=F at hD hF hF'
    clear hF
    cases x1
    ·cases x2
     ·cases x3
      ·have HR:Hid (R=(decide (63≤(i:Int) - (b:Int))||(((s[i].toNat:Int)==45)&&((i:Int)==(b:Int))))):=HY.out (.inr (.inr (.inr HH.out)))
       clear HN HY HC
       go_enter Tryz.func131,Tryz.ntmps131
       go_wp2_with fail
       refine hD.mono ?_
       rintro e w3 ⟨rfl,b3⟩
       have HB3:Hid (Below w.heap.size w w3):=HB2.out.trans (b3.mono HS2.out)
       clear hD b3 hconv
       go_wp2_with fail
       refine(HL.out _).mono ?_
       rintro e w1 ⟨rfl,rfl⟩
       go_wp2_with fail
       refine(HD.out _).mono ?_
       rintro e w1 ⟨rfl,rfl⟩
       clear HL HD
       go_wp2_with fail
       all_goals go_ret
       all_goals exact⟨by rw[HR.out];first|rfl|(simp;done)|(simp_all;done)|(simp_all;omega),HB3.out⟩
      ·have HR:Hid (R=(decide (63≤(i:Int) - (b:Int))||(((s[i].toNat:Int)==45)&&((i:Int)==(b:Int))))):=HY.out (.inr (.inr (.inl (HC.out.1 rfl))))
       clear HN HY HC
       go_enter Tryz.func131,Tryz.ntmps131
       go_wp2_with fail
       refine hD.mono ?_
       rintro e w3 ⟨rfl,b3⟩
       have HB3:Hid (Below w.heap.size w w3):=HB2.out.trans (b3.mono HS2.out)
       clear hD b3 hconv
       go_wp2_with fail
       refine(HL.out _).mono ?_
       rintro e w1 ⟨rfl,rfl⟩
       go_wp2_with fail
       refine(HD.out _).mono ?_
       rintro e w1 ⟨rfl,rfl⟩
       clear HL HD
       go_wp2_with fail
       all_goals go_ret
       all_goals exact⟨by rw[HR.out];first|rfl|(simp;done)|(simp_all;done)|(simp_all;omega),HB3.out⟩
     ·have HR:Hid (R=(decide (63≤(i:Int) - (b:Int))||(((s[i].toNat:Int)==45)&&((i:Int)==(b:Int))))):=HY.out (.inr (.inl rfl))
      clear HN HY HC
      go_enter Tryz.func131,Tryz.ntmps131
      go_wp2_with fail
      refine hD.mono ?_
      rintro e w3 ⟨rfl,b3⟩
      have HB3:Hid (Below w.heap.size w w3):=HB2.out.trans (b3.mono HS2.out)
      clear hD b3 hconv
      go_wp2_with fail
      refine(HL.out _).mono ?_
      rintro e w1 ⟨rfl,rfl⟩
      go_wp2_with fail
      refine(HD.out _).mono ?_
      rintro e w1 ⟨rfl,rfl⟩
      clear HL HD
      go_wp2_with fail
      all_goals go_ret
      all_goals exact⟨by rw[HR.out];first|rfl|(simp;done)|(simp_all;done)|(simp_all;omega),HB3.out⟩
    ·have HR:Hid (R=(decide (63≤(i:Int) - (b:Int))||(((s[i].toNat:Int)==45)&&((i:Int)==(b:Int))))):=HY.out (.inl rfl)
     clear HN HY HC
     go_enter Tryz.func131,Tryz.ntmps131
     go_wp2_with fail
     refine hD.mono ?_
     rintro e w3 ⟨rfl,b3⟩
     have HB3:Hid (Below w.heap.size w w3):=HB2.out.trans (b3.mono HS2.out)
     clear hD b3 hconv
     go_wp2_with fail
     refine(HL.out _).mono ?_
     rintro e w1 ⟨rfl,rfl⟩
     clear HL HD
     go_wp2_with fail
     all_goals go_ret
     all_goals exact⟨by rw[HR.out];first|rfl|(simp;done)|(simp_all;done)|(simp_all;omega),HB3.out⟩
   ·have HH:Hid (¬(128≤s[i].toNat∧i<fmd true s.data.toList)):=fun h=>hF (by simpa [fmd] using h.2)
    have hF':¬(i:Int)<(badU s.data.toList:Int):=by omega
    generalize badU s.data.toList=F at hD hF hF'
    clear hF
    cases x1
    ·cases x2
     ·cases x3
      ·have HR:Hid (R=true):=HN.out rfl rfl (fun h=>by simpa using HC.out.2 h) HH.out
       clear HN HY HC
       go_enter Tryz.func131,Tryz.ntmps131
       go_wp2_with fail
       refine hD.mono ?_
       rintro e w3 ⟨rfl,b3⟩
       have HB3:Hid (Below w.heap.size w w3):=HB2.out.trans (b3.mono HS2.out)
       clear hD b3 hconv
       go_wp2_with fail
       refine(HL.out _).mono ?_
       rintro e w1 ⟨rfl,rfl⟩
       go_wp2_with fail
       refine(HD.out _).mono ?_
       rintro e w1 ⟨rfl,rfl⟩
       clear HL HD
       go_wp2_with fail
       all_goals go_ret
       all_goals exact⟨by rw[HR.out];first|rfl|(simp;done)|(simp_all;done)|(simp_all;omega),HB3.out⟩
      ·have HR:Hid (R=(decide (63≤(i:Int) - (b:Int))||(((s[i].toNat:Int)==45)&&((i:Int)==(b:Int))))):=HY.out (.inr (.inr (.inl (HC.out.1 rfl))))
       clear HN HY HC
       go_enter Tryz.func131,Tryz.ntmps131
       go_wp2_with fail
       refine hD.mono ?_
       rintro e w3 ⟨rfl,b3⟩
       have HB3:Hid (Below w.heap.size w w3):=HB2.out.trans (b3.mono HS2.out)
       clear hD b3 hconv
       go_wp2_with fail
       refine(HL.out _).mono ?_
       rintro e w1 ⟨rfl,rfl⟩
       go_wp2_with fail
       refine(HD.out _).mono ?_
       rintro e w1 ⟨rfl,rfl⟩
       clear HL HD
       go_wp2_with fail
       all_goals go_ret
       all_goals exact⟨by rw[HR.out];first|rfl|(simp;done)|(simp_all;done)|(simp_all;omega),HB3.out⟩
     ·have HR:Hid (R=(decide (63≤(i:Int) - (b:Int))||(((s[i].toNat:Int)==45)&&((i:Int)==(b:Int))))):=HY.out (.inr (.inl rfl))
      clear HN HY HC
      go_enter Tryz.func131,Tryz.ntmps131
      go_wp2_with fail
      refine hD.mono ?_
      rintro e w3 ⟨rfl,b3⟩
      have HB3:Hid (Below w.heap.size w w3):=HB2.out.trans (b3.mono HS2.out)
      clear hD b3 hconv
      go_wp2_with fail
      refine(HL.out _).mono ?_
      rintro e w1 ⟨rfl,rfl⟩
      go_wp2_with fail
      refine(HD.out _).mono ?_
      rintro e w1 ⟨rfl,rfl⟩
      clear HL HD
      go_wp2_with fail
      all_goals go_ret
      all_goals exact⟨by rw[HR.out];first|rfl|(simp;done)|(simp_all;done)|(simp_all;omega),HB3.out⟩
    ·have HR:Hid (R=(decide (63≤(i:Int) - (b:Int))||(((s[i].toNat:Int)==45)&&((i:Int)==(b:Int))))):=HY.out (.inl rfl)
     clear HN HY HC
     go_enter Tryz.func131,Tryz.ntmps131
     go_wp2_with fail
     refine hD.mono ?_
     rintro e w3 ⟨rfl,b3⟩
     have HB3:Hid (Below w.heap.size w w3):=HB2.out.trans (b3.mono HS2.out)
     clear hD b3 hconv
     go_wp2_with fail
     refine(HL.out _).mono ?_
     rintro e w1 ⟨rfl,rfl⟩
     clear HL HD
     go_wp2_with fail
     all_goals go_ret
     all_goals exact⟨by rw[HR.out];first|rfl|(simp;done)|(simp_all;done)|(simp_all;omega),HB3.out⟩
  ·have HH:Hid (¬(128≤s[i].toNat∧i<fmd true s.data.toList)):=fun h=>by omega
   cases x1
   ·cases x2
    ·cases x3
     ·have HR:Hid (R=true):=HN.out rfl rfl (fun h=>by simpa using HC.out.2 h) HH.out
      clear HN HY HC
      go_enter Tryz.func131,Tryz.ntmps131
      go_wp2_with fail
      refine(HL.out _).mono ?_
      rintro e w1 ⟨rfl,rfl⟩
      go_wp2_with fail
      refine(HD.out _).mono ?_
      rintro e w1 ⟨rfl,rfl⟩
      clear HL HD
      go_wp2_with fail
      all_goals go_ret
      all_goals exact⟨by rw[HR.out];first|rfl|(simp;done)|(simp_all;done)|(simp_all;omega),Below.refl _ _⟩
     ·have HR:Hid (R=(decide (63≤(i:Int) - (b:Int))||(((s[i].toNat:Int)==45)&&((i:Int)==(b:Int))))):=HY.out (.inr (.inr (.inl (HC.out.1 rfl))))
      clear HN HY HC
      go_enter Tryz.func131,Tryz.ntmps131
      go_wp2_with fail
      refine(HL.out _).mono ?_
      rintro e w1 ⟨rfl,rfl⟩
      go_wp2_with fail
      refine(HD.out _).mono ?_
      rintro e w1 ⟨rfl,rfl⟩
      clear HL HD
      go_wp2_with fail
      all_goals go_ret
      all_goals exact⟨by rw[HR.out];first|rfl|(simp;done)|(simp_all;done)|(simp_all;omega),Below.refl _ _⟩
    ·have HR:Hid (R=(decide (63≤(i:Int) - (b:Int))||(((s[i].toNat:Int)==45)&&((i:Int)==(b:Int))))):=HY.out (.inr (.inl rfl))
     clear HN HY HC
     go_enter Tryz.func131,Tryz.ntmps131
     go_wp2_with fail
     refine(HL.out _).mono ?_
     rintro e w1 ⟨rfl,rfl⟩
     go_wp2_with fail
     refine(HD.out _).mono ?_
     rintro e w1 ⟨rfl,rfl⟩
     clear HL HD
     go_wp2_with fail
     all_goals go_ret
     all_goals exact⟨by rw[HR.out];first|rfl|(simp;done)|(simp_all;done)|(simp_all;omega),Below.refl _ _⟩
   ·have HR:Hid (R=(decide (63≤(i:Int) - (b:Int))||(((s[i].toNat:Int)==45)&&((i:Int)==(b:Int))))):=HY.out (.inl rfl)
    clear HN HY HC
    go_enter Tryz.func131,Tryz.ntmps131
    go_wp2_with fail
    refine(HL.out _).mono ?_
    rintro e w1 ⟨rfl,rfl⟩
    clear HL HD
    go_wp2_with fail
    all_goals go_ret
    all_goals exact⟨by rw[HR.out];first|rfl|(simp;done)|(simp_all;done)|(simp_all;omega),Below.refl _ _⟩
theorem rpw_any (s:ByteArray) (wide:Bool) (b i:Nat) (hb:b≤i) (hi:i≤s.size) (hs:s.size≤255) (w:World):
  Calls Tryz.prog 131 #[.string s,.bool wide,.int .i64 (b:Nat),.int .i64 (i:Nat)] w fun e w'=>e=.returned (.bool (pw (fmd wide s.data.toList) s.data.toList b i))∧Below w.heap.size w w':=by
 by_cases h:i=s.size∨∃h:i<s.size,s[i]=46
 ·exact pwe_any s wide b i hb hi hs h w
 ·have hlt:i<s.size:=by
   rcases Nat.lt_or_ge i s.size with h'|h'
   ·exact h'
   ·exact absurd (.inl (by omega)) h
  exact pwm_any s wide b i hb hlt hs (fun hc=>h (.inr ⟨hlt,hc⟩)) w
structure NmS (w:World) (F:Nat) (s:ByteArray) (b i:Nat) (wr:World):Prop where
 le:b≤i
 mid:i≤s.size→∃h,NmAt F s.data.toList b i h
 fin:i=s.size+1→wdGo F 0 0 false s.data.toList=none
 cell:Lies wr w.heap.size #[.int .i64 0,.int .i64 0] 32
 below:Below w.heap.size w wr
set_option maxHeartbeats 8000000 in
set_option maxRecDepth 100000 in
theorem rname_any (s:ByteArray) (wide:Bool) (w:World):Calls Tryz.prog 96 #[.string s,.bool wide] w fun e w'=>e=.returned (.agg (spotV (wd wide s.data.toList)))∧Below w.heap.size w w':=by
 have HL0:Hid (Lies (w.alloc (.cells #[.int .i64 0,.int .i64 0] 32)) w.heap.size #[.int .i64 0,.int .i64 0] 32):=Lies.new w _ _
 have HB0:Hid (Below w.heap.size w (w.alloc (.cells #[.int .i64 0,.int .i64 0] 32))):=(Below.refl _ _).alloc (Nat.le_refl _) _
 by_cases h255:255<s.size
 ·have HW:Hid (wd wide s.data.toList=(81,255)):=by
   show _=_
   unfold wd
   rw[if_pos (by rw[len_list];exact h255)]
  have h255':(255:Int)<(s.size:Int):=by omega
  go_enter Tryz.func96,Tryz.ntmps96
  go_wp2_with (refine wpList_store_row rfl 32 _ _ rfl w.heap.size rfl _ #[.int .i64 81,.int .i64 255] rfl 32 HL0.out infoSp rfl (by simp[Value.oneCell']) rfl ?_)
  exact bodyPost_ret (results_row (p:=4) (by kernel_rfl) _ _ w.heap.size 32 _ (0,0) _ rfl (HL0.out.row _) Tryz.underlying32 rfl infoSp) rfl ⟨by rw[HW.out];rfl,below_row HB0.out (Nat.le_refl _) _⟩
 ·have hs:s.size≤255:=by omega
  have hs':¬(255:Int)<(s.size:Int):=by omega
  obtain⟨F,hF⟩:∃F,F=fmd wide s.data.toList:=⟨_,rfl⟩
  have HW:Hid (wd wide s.data.toList=match wdGo F 0 0 false s.data.toList with
   |none=>(0,0)
   |some a=>(80,a)):=by
   show _=_
   unfold wd
   rw[if_neg (by rw[len_list];exact h255),hF]
   rfl
  have HP:Hid (∀(b i:Nat) (w:World),b≤i→i≤s.size→Calls Tryz.prog 131 #[.string s,.bool wide,.int .i64 (b:Nat),.int .i64 (i:Nat)] w fun e w'=>e=.returned (.bool (pw F s.data.toList b i))∧Below w.heap.size w w'):=fun b i w hb hi=>by rw[hF];exact rpw_any s wide b i hb hi hs w
  have H0:Hid (NmS w F s 0 0 (w.alloc (.cells #[.int .i64 0,.int .i64 0] 32))):=⟨Nat.le_refl _,fun _=>⟨_,NmAt.start F _⟩,fun h=>by omega,HL0.out,HB0.out⟩
  clear hF h255 HL0 HB0
  go_enter Tryz.func96,Tryz.ntmps96
  go_wp2_with fail
  go_loopw [5,6] (fun c d wr=>∃b i:Nat,c=.int .i64 b∧d=.int .i64 i∧i≤s.size+1∧Hid (NmS w F s b i wr)) (fun _ d _=>s.size+1 - (intOf d).toNat)
  case atStart=>exact⟨0,0,rfl,rfl,by omega,H0⟩
  case round=>
   obtain⟨b,i,rfl,rfl,hi,HS⟩:=hrel
   clear H0
   by_cases hend:i=s.size+1
   ·have HT:Hid (wd wide s.data.toList=(0,0)):=by show _=_;rw[HW.out,HS.out.fin hend]
    have hlt:¬(i:Int)≤(s.size:Int):=by omega
    have HL:Hid (Lies wr w.heap.size #[.int .i64 0,.int .i64 0] 32):=HS.out.cell
    have HB:Hid (Below w.heap.size w wr):=HS.out.below
    clear HS HW HP hend
    go_wp2_with (refine wpList_store_row rfl 32 _ _ rfl w.heap.size rfl _ #[.int .i64 0,.int .i64 0] rfl 32 HL.out infoSp rfl (by simp[Value.oneCell']) rfl ?_)
    exact bodyPost_ret (results_row (p:=4) (by kernel_rfl) _ _ w.heap.size 32 _ (0,0) _ rfl (HL.out.row _) Tryz.underlying32 rfl infoSp) rfl ⟨by rw[HT.out];rfl,below_row HB.out (Nat.le_refl _) _⟩
   ·have hle:i≤s.size:=by omega
    have hle':(i:Int)≤(s.size:Int):=by omega
    have HQ:Hid (∀w:World,Calls Tryz.prog 131 #[.string s,.bool wide,.int .i64 (b:Nat),.int .i64 (i:Nat)] w fun e w'=>e=.returned (.bool (pw F s.data.toList b i))∧Below w.heap.size w w'):=fun w=>HP.out b i w HS.out.le hle
    have HV:Hid (pw F s.data.toList b i=true→wdGo F 0 0 false s.data.toList=some i):=fun h=>by
     obtain⟨x,hx⟩:=HS.out.mid hle
     exact hx.wrong h
    have HX:Hid (pw F s.data.toList b i=false→i=s.size→wdGo F 0 0 false s.data.toList=none):=fun h e=>by
     obtain⟨x,hx⟩:=HS.out.mid hle
     exact hx.last (by rw[len_list];exact e) h
    have HY:Hid (pw F s.data.toList b i=false→∀h:i<s.size,s[i]=46→∃x,NmAt F s.data.toList (i+1) (i+1) x):=fun h hl e=>by
     obtain⟨x,hx⟩:=HS.out.mid hle
     exact⟨_,hx.dot (by rw[len_list];exact hl) e h⟩
    have HZ:Hid (pw F s.data.toList b i=false→∀h:i<s.size,¬s[i]=46→∃x,NmAt F s.data.toList b (i+1) x):=fun h hl e=>by
     obtain⟨x,hx⟩:=HS.out.mid hle
     exact⟨_,hx.next (by rw[len_list];exact hl) e h⟩
    have hbi:=HS.out.le
    obtain⟨p,hp⟩:∃p,p=pw F s.data.toList b i:=⟨_,rfl⟩
    rw[←hp]at HQ HV HX HY HZ
    clear HP hp hend
    go_wp2_with fail
    refine(HQ.out _).mono ?_
    rintro e w1 ⟨rfl,b1⟩
    have HL:Hid (Lies w1 w.heap.size #[.int .i64 0,.int .i64 0] 32):=HS.out.cell.below b1 HS.out.cell.lt
    have HB:Hid (Below w.heap.size w w1):=HS.out.below.trans (b1.mono HS.out.below.size)
    clear HQ HS b1
    cases p
    ·by_cases hlt:i<s.size
     ·have hlt':(i:Int)<(s.size:Int):=by omega
      obtain⟨e46,n46⟩:=b_eq s[i] 46 46 rfl
      by_cases hc:s[i]=46
      ·rw[decide_eq_true hc]at e46 n46
       have HN:Hid (NmS w F s (i+1) (i+1) w1):=⟨Nat.le_refl _,fun _=>HY.out rfl hlt hc,fun h=>by omega,HL.out,HB.out⟩
       clear HV HX HY HZ HW hc
       go_wp2_with fail
       go_roundw
       case rel=>exact⟨i+1,i+1,by go_num,by go_num,by omega,HN⟩
       case measure=>simp[intOf];omega
      ·rw[decide_eq_false hc]at e46 n46
       have HN:Hid (NmS w F s b (i+1) w1):=⟨by omega,fun _=>HZ.out rfl hlt hc,fun h=>by omega,HL.out,HB.out⟩
       clear HV HX HY HZ HW hc
       go_wp2_with fail
       go_roundw
       case rel=>exact⟨b,i+1,rfl,by go_num,by omega,HN⟩
       case measure=>simp[intOf];omega
     ·have hlt':¬(i:Int)<(s.size:Int):=by omega
      have HN:Hid (NmS w F s b (i+1) w1):=⟨by omega,fun h=>by omega,fun _=>HX.out rfl (by omega),HL.out,HB.out⟩
      clear HV HX HY HZ HW
      go_wp2_with fail
      go_roundw
      case rel=>exact⟨b,i+1,rfl,by go_num,by omega,HN⟩
      case measure=>simp[intOf];omega
    ·have HT:Hid (wd wide s.data.toList=(80,i)):=by show _=_;rw[HW.out,HV.out rfl]
     clear HV HX HY HZ HW
     go_wp2_with (refine wpList_store_row rfl 32 _ _ rfl w.heap.size rfl _ #[.int .i64 80,.int .i64 (i:Int)] rfl 32 HL.out infoSp rfl (by simp[Value.oneCell']) rfl ?_)
     exact bodyPost_ret (results_row (p:=4) (by kernel_rfl) _ _ w.heap.size 32 _ (0,0) _ rfl (HL.out.row _) Tryz.underlying32 rfl infoSp) rfl ⟨by rw[HT.out];rfl,below_row HB.out (Nat.le_refl _) _⟩
open Go.RowKit
def Okb (z:Nat) (l:List Nat) (i:Nat):Prop:=∀j,j<i→z≤j→l.getD j 0=0
theorem Okb.step {z:Nat} {l:List Nat} {i:Nat} (h:Okb z l i) (hi:z≤i→l.getD i 0=0):Okb z l (i+1):=fun j h1 h2=>by
 rcases Nat.lt_or_ge j i with h'|h'
 ·exact h j h' h2
 ·obtain rfl:j=i:=by omega
  exact hi h2
theorem Okb.drop {z:Nat} {l:List Nat} (hl:l.length=16) (h:Okb z l 16):l.drop z=List.replicate (16 - z) 0:=by
 refine List.ext_getElem (by rw[List.length_drop,hl,List.length_replicate]) fun j h1 h2=>?_
 rw[List.length_drop]at h1
 have:=h (z+j) (by omega) (by omega)
 rw[List.getD_eq_getElem?_getD,List.getElem?_eq_getElem (by omega),Option.getD_some]at this
 rw[List.getElem_drop,this,List.getElem_replicate]
end Go.Proofs.YtfjpkfhbmldmfaaGreatDoor
