/-
  The document's Sixth and Tagged.
-/
import Derived.Test.YtfjpkfhbmldmfaaGreatDoorRl8
import Derived.Test.YtfjpkfhbmldmfaaGreatDoorV4a
namespace Go.Proofs.YtfjpkfhbmldmfaaGreatDoor
open Go.RowKit
theorem sml_six (t:ByteArray) (h5:5≤t.size):sixB t.data.toList=((smS (t.extract 0 5)).data.toList==[105,112,118,54,58]):=by
 unfold sixB smS
 rw[decide_eq_true (by rw[len_list];exact h5),Bool.true_and]
 have:(t.extract 0 5).data.toList=t.data.toList.take 5:=by simp
 rw[this]
 rw[Bool.eq_iff_iff]
 simp
set_option maxHeartbeats 1000000 in
set_option maxRecDepth 100000 in
theorem sixth_any (t:ByteArray) (w:World):Calls Tryz.prog 98 #[.string t] w fun e w'=>e=.returned (.bool (sixB t.data.toList))∧Below w.heap.size w w':=by
 by_cases h5:5≤t.size
 ·have h5':(4:Int)<(t.size:Int):=by omega
  have HS:Hid (Calls Tryz.prog 83 #[.string (t.extract 0 5)] w fun e w'=>e=.returned (.string (smS (t.extract 0 5)))∧Below w.heap.size w w'):=rsmall_any (t.extract 0 5) w (by rw[ByteArray.size_extract];unfold maxLen;omega)
  have HR:Hid (sixB t.data.toList=((smS (t.extract 0 5)).data.toList==[105,112,118,54,58])):=sml_six t h5
  generalize smS (t.extract 0 5)=X at HS HR
  go_enter Tryz.func98,Tryz.ntmps98
  go_wp2_with fail
  refine HS.out.mono ?_
  rintro e w1 ⟨rfl,hb1⟩
  have HB1:Hid (Below w.heap.size w w1):=hb1
  clear hb1
  go_wp2_with fail
  go_ret
  exact⟨by rw[HR.out,←ByteArray.toList_eq];rfl,HB1.out⟩
 ·have h5':¬(4:Int)<(t.size:Int):=by omega
  have hr:sixB t.data.toList=false:=by
   unfold sixB
   rw[decide_eq_false (by rw[len_list];exact h5),Bool.false_and]
  rw[hr]
  go_enter Tryz.func98,Tryz.ntmps98
  go_wp2_with fail
  go_ret
  exact⟨rfl,Below.refl _ _⟩
def optI (o:Option Nat):Int:=match o with
 |none=> -1
 |some p=>p
theorem b_eq (c:UInt8) (n:UInt8) (m:Int) (hm:m=(n.toNat:Int)):((c.toNat:Int)==m)=decide (c=n)∧((c.toNat:Int) != m)=!decide (c=n):=by
 have:((c.toNat:Int)==m)=decide (c=n):=by
  subst hm
  rw[Bool.eq_iff_iff,beq_iff_eq,decide_eq_true_eq,Int.natCast_inj,UInt8.toNat_inj]
 refine⟨this,?_⟩
 rw[bne,this]
def AllF (f:UInt8→Bool) (t:ByteArray) (a k:Nat):Prop:=∀j (h:j<t.size),a≤j→j<k→f t[j]=true
theorem AllF.step {f:UInt8→Bool} {t:ByteArray} {a k:Nat} (h:AllF f t a k) (hk:k<t.size) (hc:f t[k]=true):AllF f t a (k+1):=fun j hj h1 h2=>by
 rcases Nat.lt_or_ge j k with h'|h'
 ·exact h j hj h1 h'
 ·obtain rfl:j=k:=by omega
  exact hc
theorem AllF.none (f:UInt8→Bool) (t:ByteArray) (a:Nat):AllF f t a a:=fun j _ h1 h2=>absurd h1 (by omega)
theorem get_list (t:ByteArray) (k:Nat) (h:k<t.data.toList.length):t.data.toList[k]=t[k]'(by rw[len_list]at h;exact h):=rfl
theorem AllF.sp {f:UInt8→Bool} {t:ByteArray} {k:Nat} (h:AllF f t 0 k) (hk:k≤t.size) (hs:∀h:k<t.size,f t[k]=false):spB f t.data.toList=k:=
 spB_eq f _ k (by rw[len_list];exact hk) (fun j hj h'=>by rw[get_list];exact h j _ (Nat.zero_le _) h') (fun hj=>by rw[get_list];exact hs _)
theorem AllF.sp2 {f:UInt8→Bool} {t:ByteArray} {a k:Nat} (h:AllF f t a k) (ha:a≤k) (hk:k≤t.size) (hs:∀h:k<t.size,f t[k]=false):spB f (t.data.toList.drop a)=k - a:=
 spB_eq f _ (k - a) (by rw[List.length_drop,len_list];omega) (fun j hj h'=>by
  rw[List.getElem_drop,get_list]
  exact h (a+j) _ (by omega) (by omega)) (fun hj=>by
  rw[List.getElem_drop,get_list]
  have:=hs (by rw[List.length_drop,len_list]at hj;omega)
  simp only[show a+(k - a)=k from by omega]
  exact this)
theorem tg_one {t:ByteArray} {k:Nat} (h:AllF lbB t 0 k) (hk:k<t.size) (h1:lbB t[k]=false) (h2:t[k]≠58):tgD t.data.toList=some k:=by
 have e:=h.sp (by omega) (fun _=>h1)
 unfold tgD
 rw[e,if_pos ⟨by rw[len_list];exact hk,by rw[List.getElem?_eq_getElem (by rw[len_list];exact hk),get_list];simpa using h2⟩]
theorem tg_two {t:ByteArray} {k:Nat} (h:AllF lbB t 0 k) (hk:k≤t.size) (h1:∀h:k<t.size,t[k]=58) (h2:k=t.size∨k=0∨t.data.toList[k - 1]?=some 45):tgD t.data.toList=some k:=by
 have e:=h.sp hk (fun hh=>by rw[h1 hh];exact lb_colon)
 unfold tgD
 rw[e,if_neg,if_pos (by rw[len_list];exact h2)]
 rintro ⟨a,b⟩
 rw[len_list]at a
 exact b (by rw[List.getElem?_eq_getElem (by rw[len_list];exact a),get_list,h1 a])
theorem tg_last {t:ByteArray} {k i:Nat} (h:AllF lbB t 0 k) (hk:k<t.size) (h1:t[k]=58) (h2:¬(k=t.size∨k=0∨t.data.toList[k - 1]?=some 45)) (g:AllF plB t (k+1) i) (hi:k+1≤i) (hl:i≤t.size) (hs:∀h:i<t.size,plB t[i]=false):
  tgD t.data.toList=if i<t.size then some i else if k+1=t.size then some t.size else none:=by
 have e:=h.sp (by omega) (fun hh=>by rw[h1];exact lb_colon)
 have e2:=g.sp2 hi hl hs
 unfold tgD
 have n1:¬(k<t.data.toList.length∧¬t.data.toList[k]?=some 58):=by
  rintro ⟨a,b⟩
  exact b (by rw[List.getElem?_eq_getElem a,get_list,h1])
 rw[e,if_neg n1,if_neg (by rw[len_list];exact h2),e2,len_list,show k+1+(i - (k+1))=i from by omega]
set_option maxHeartbeats 8000000 in
set_option maxRecDepth 100000 in
theorem tagged_any (t:ByteArray) (w:World) (ht:t.size≤maxLen):Calls Tryz.prog 97 #[.string t] w fun e w'=>e=.returned (.int .i64 (optI (tgD t.data.toList)))∧Below w.heap.size w w':=by
 unfold maxLen at ht
 have HL:Hid (∀c:UInt8,∀w:World,Calls Tryz.prog 132 #[.int .u8 (c.toNat:Int)] w fun e w'=>e=.returned (.bool (letB c))∧w'=w):=letter_any
 have HD:Hid (∀c:UInt8,∀w:World,Calls Tryz.prog 133 #[.int .u8 (c.toNat:Int)] w fun e w'=>e=.returned (.bool (dgB c))∧w'=w):=digit_any
 go_enter Tryz.func97,Tryz.ntmps97
 go_wp2_with fail
 go_loopw [3] (fun c wr=>∃k:Nat,k≤t.size∧c=.int .i64 k∧Hid (AllF lbB t 0 k)∧Hid (wr=w)) (fun c _=>t.size - (intOf c).toNat)
 case atStart=>exact⟨0,Nat.zero_le _,rfl,AllF.none _ _ _,rfl⟩
 case round=>
  obtain⟨k,hk,rfl,HA,HV⟩:=hrel
  obtain rfl:w=wr:=HV.out.symm
  clear HV
  by_cases hgo:∃h:k<t.size,t[k]≠58
  ·obtain⟨hlt,hc⟩:=hgo
   obtain⟨e58,n58⟩:=b_eq t[k] 58 58 rfl
   rw[decide_eq_false hc]at e58 n58
   have HL1:=HL.out t[k] w
   have HD1:=HD.out t[k] w
   obtain⟨e45,n45⟩:=b_eq t[k] 45 45 rfl
   have HLB:Hid (lbB t[k]=(letB t[k]||dgB t[k]||decide (t[k]=45))):=by show _=_;unfold lbB;rw[ld_let]
   have HC:Hid (t[k]≠58):=hc
   clear HL HD hc
   obtain⟨x1,h1⟩:∃x,x=letB t[k]:=⟨_,rfl⟩
   obtain⟨x2,h2⟩:∃x,x=dgB t[k]:=⟨_,rfl⟩
   obtain⟨x3,h3⟩:∃x,x=decide (t[k]=45):=⟨_,rfl⟩
   rw[←h1]at HL1 HLB
   rw[←h2]at HD1 HLB
   rw[←h3]at e45 n45 HLB
   clear h1 h2 h3
   cases x1
   ·cases x2
    ·cases x3
     ·have HT:Hid (tgD t.data.toList=some k):=tg_one HA.out hlt HLB.out HC.out
      go_wp2_with fail
      refine HL1.mono ?_
      rintro e w1 ⟨rfl,rfl⟩
      go_wp2_with fail
      refine HD1.mono ?_
      rintro e w1 ⟨rfl,rfl⟩
      go_wp2_with fail
      go_ret
      exact⟨by rw[HT.out];rfl,Below.refl _ _⟩
     ·have HN:Hid (AllF lbB t 0 (k+1)):=HA.out.step hlt HLB.out
      go_wp2_with fail
      refine HL1.mono ?_
      rintro e w1 ⟨rfl,rfl⟩
      go_wp2_with fail
      refine HD1.mono ?_
      rintro e w1 ⟨rfl,rfl⟩
      go_wp2_with fail
      go_roundw
      case rel=>exact⟨k+1,by omega,by go_num,HN,trivial⟩
      case measure=>simp[intOf];omega
    ·have HN:Hid (AllF lbB t 0 (k+1)):=HA.out.step hlt HLB.out
     go_wp2_with fail
     refine HL1.mono ?_
     rintro e w1 ⟨rfl,rfl⟩
     go_wp2_with fail
     refine HD1.mono ?_
     rintro e w1 ⟨rfl,rfl⟩
     go_wp2_with fail
     go_roundw
     case rel=>exact⟨k+1,by omega,by go_num,HN,trivial⟩
     case measure=>simp[intOf];omega
   ·have HN:Hid (AllF lbB t 0 (k+1)):=HA.out.step hlt HLB.out
    go_wp2_with fail
    refine HL1.mono ?_
    rintro e w1 ⟨rfl,rfl⟩
    go_wp2_with fail
    go_roundw
    case rel=>exact⟨k+1,by omega,by go_num,HN,trivial⟩
    case measure=>simp[intOf];omega
  ·have HB:Hid (∀h:k<t.size,t[k]=58):=fun h=>Classical.byContradiction fun h'=>hgo ⟨h,h'⟩
   clear hgo HL HD
   by_cases hz:k=t.size
   ·have HT:Hid (tgD t.data.toList=some t.size):=by have:=tg_two HA.out hk HB.out (.inl hz);rw[hz]at this;exact this
    subst hz
    clear HB HA
    go_wp2_with fail
    go_ret
    exact⟨by rw[HT.out];rfl,Below.refl _ _⟩
   ·have hlt:k<t.size:=by omega
    have hzb:((k:Int)==(t.size:Int))=false:=by rw[beq_eq_false_iff_ne];omega
    have hc:=HB.out hlt
    have HC:Hid (t[k]=58):=hc
    obtain⟨e58,n58⟩:=b_eq t[k] 58 58 rfl
    rw[decide_eq_true hc]at e58 n58
    have HZ:Hid (¬k=t.size):=hz
    clear hc hz
    by_cases h0:k=0
    ·have HT:Hid (tgD t.data.toList=some 0):=by have:=tg_two HA.out hk HB.out (.inr (.inl h0));rw[h0]at this;exact this
     subst h0
     clear HB HA
     go_wp2_with fail
     go_ret
     exact⟨by rw[HT.out];rfl,Below.refl _ _⟩
    ·obtain⟨m,rfl⟩:∃m,k=m+1:=⟨k - 1,by omega⟩
     have hm:m<t.size:=by omega
     have h0b:((m:Int)+1==0)=false:=by rw[beq_eq_false_iff_ne];omega
     have hzc:((m:Int)+1==(t.size:Int))=false:=by rw[beq_eq_false_iff_ne];have:=HZ.out;omega
     clear hzb
     have hl45:t.data.toList[m]?=some t[m]:=by rw[List.getElem?_eq_getElem (by rw[len_list];exact hm),get_list]
     obtain⟨e45,n45⟩:=b_eq t[m] 45 45 rfl
     by_cases h45:t[m]=45
     ·have HT:Hid (tgD t.data.toList=some (m+1)):=tg_two HA.out hk HB.out (.inr (.inr (by rw[Nat.add_sub_cancel,hl45,h45])))
      rw[decide_eq_true h45]at e45 n45
      clear HB HA h45 hl45 h0
      go_wp2_with fail
      go_ret
      exact⟨by rw[HT.out];rfl,Below.refl _ _⟩
     ·rw[decide_eq_false h45]at e45 n45
      have HE:Hid (¬(m+1=t.size∨m+1=0∨t.data.toList[m+1 - 1]?=some 45)):=by
       rintro (h|h|h)
       ·exact HZ.out h
       ·omega
       ·rw[Nat.add_sub_cancel,hl45]at h
        exact h45 (by simpa using h)
      clear HB h45 hl45 h0
      go_wp2_with fail
      go_loopw [4] (fun c wv=>∃i:Nat,m+2≤i∧i≤t.size∧c=.int .i64 i∧Hid (AllF plB t (m+2) i)∧Hid (wv=w)) (fun c _=>t.size - (intOf c).toNat)
      case atStart=>exact⟨m+2,by omega,by omega,by go_num,AllF.none _ _ _,rfl⟩
      case round=>
       obtain⟨i,hi2,hi,rfl,HP,HV⟩:=hrel
       obtain rfl:w=wr:=HV.out.symm
       clear HV
       by_cases hil:i<t.size
       ·have hil':(i:Int)<(t.size:Int):=by omega
        have HPL:Hid (plB t[i]=(decide (33≤t[i].toNat)&&decide (t[i].toNat≤126)&&!decide (t[i]=91)&&!decide (t[i]=92)&&!decide (t[i]=93))):=rfl
        obtain⟨e91,n91⟩:=b_eq t[i] 91 91 rfl
        obtain⟨e92,n92⟩:=b_eq t[i] 92 92 rfl
        obtain⟨e93,n93⟩:=b_eq t[i] 93 93 rfl
        obtain⟨x1,h1⟩:∃x,x=decide (t[i]=91):=⟨_,rfl⟩
        obtain⟨x2,h2⟩:∃x,x=decide (t[i]=92):=⟨_,rfl⟩
        obtain⟨x3,h3⟩:∃x,x=decide (t[i]=93):=⟨_,rfl⟩
        rw[←h1]at e91 n91 HPL
        rw[←h2]at e92 n92 HPL
        rw[←h3]at e93 n93 HPL
        clear h1 h2 h3
        have HS:Hid (plB t[i]=false→tgD t.data.toList=some i):=fun h=>by
         have:=tg_last HA.out hlt HC.out HE.out HP.out hi2 hi (fun _=>h)
         rw[if_pos hil]at this
         exact this
        have HN:Hid (plB t[i]=true→AllF plB t (m+2) (i+1)):=fun h=>HP.out.step hil h
        clear HA HC HE HP HZ e58 n58 e45 n45 h0b hzc
        by_cases c1:33≤t[i].toNat
        ·by_cases c2:t[i].toNat≤126
         ·rw[decide_eq_true c1,decide_eq_true c2]at HPL
          cases x1
          ·cases x3
           ·cases x2
            ·have HN2:Hid (AllF plB t (m+2) (i+1)):=HN.out HPL.out
             go_wp2_with fail
             go_roundw
             case rel=>exact⟨i+1,by omega,by omega,by go_num,HN2,trivial⟩
             case measure=>simp[intOf];omega
            ·have HT:Hid (tgD t.data.toList=some i):=HS.out (HPL.out.trans (by rfl))
             go_wp2_with fail
             go_ret
             exact⟨by rw[HT.out];rfl,Below.refl _ _⟩
           ·have HT:Hid (tgD t.data.toList=some i):=HS.out (HPL.out.trans (by cases x2<;>rfl))
            go_wp2_with fail
            go_ret
            exact⟨by rw[HT.out];rfl,Below.refl _ _⟩
          ·have HT:Hid (tgD t.data.toList=some i):=HS.out (HPL.out.trans (by cases x2<;>cases x3<;>rfl))
           go_wp2_with fail
           go_ret
           exact⟨by rw[HT.out];rfl,Below.refl _ _⟩
         ·have HT:Hid (tgD t.data.toList=some i):=HS.out (HPL.out.trans (by rw[decide_eq_false c2];cases x1<;>cases x2<;>cases x3<;>simp))
          go_wp2_with fail
          go_ret
          exact⟨by rw[HT.out];rfl,Below.refl _ _⟩
        ·have HT:Hid (tgD t.data.toList=some i):=HS.out (HPL.out.trans (by rw[decide_eq_false c1];simp))
         go_wp2_with fail
         go_ret
         exact⟨by rw[HT.out];rfl,Below.refl _ _⟩
       ·have HS:Hid (tgD t.data.toList=if m+1+1=t.size then some t.size else none):=by
         have:=tg_last HA.out hlt HC.out HE.out HP.out hi2 hi (fun h=>absurd h hil)
         rw[if_neg hil]at this
         exact this
        have hil':¬(i:Int)<(t.size:Int):=by omega
        clear HA HC HE HP HZ e58 n58 e45 n45 h0b hzc
        by_cases hl:m+1+1=t.size
        ·have HT:Hid (tgD t.data.toList=some t.size):=by have:=HS.out;rw[if_pos hl]at this;exact this
         have hlb:((m:Int)+1+1==(t.size:Int))=true:=by rw[beq_iff_eq];omega
         clear HS hl
         go_wp2_with fail
         go_ret
         exact⟨by rw[HT.out];rfl,Below.refl _ _⟩
        ·have HT:Hid (tgD t.data.toList=none):=by have:=HS.out;rw[if_neg hl]at this;exact this
         have hlb:((m:Int)+1+1==(t.size:Int))=false:=by rw[beq_eq_false_iff_ne];omega
         clear HS hl
         go_wp2_with fail
         go_ret
         exact⟨by rw[HT.out];rfl,Below.refl _ _⟩
open Go.RowKit
structure RwE (s:ByteArray) (R a e:Nat):Prop where
 ge:a≤e
 le:e≤s.size
 is:R=rowG e e (decide (a<e)) (s.data.toList.drop e)
 no:a<e→∀h:e<s.size,atB s[e]=false
structure RwK (s:ByteArray) (R e f k:Nat):Prop where
 fk:f≤k
 le:k≤s.size
 is:(k=f∧R=rowG e f false (s.data.toList.drop f))∨(f<k∧R=rowG k k true (s.data.toList.drop k))
theorem drop_at (s:ByteArray) (k:Nat) (h:k<s.size):s.data.toList.drop k=s[k]::s.data.toList.drop (k+1):=by
 rw[List.drop_eq_getElem_cons (by rw[len_list];exact h),get_list]
theorem drop_past (s:ByteArray) (k:Nat) (h:s.size≤k):s.data.toList.drop k=[]:=List.drop_eq_nil_of_le (by rw[len_list];exact h)
theorem RwE.start (s:ByteArray) (a:Nat) (ha:a≤s.size):RwE s (a+rowL (s.data.toList.drop a)) a a:=
 ⟨Nat.le_refl _,ha,by
  have:=rowG_shift a (s.data.toList.drop a) 0 0 false
  rw[decide_eq_false (Nat.lt_irrefl a)]
  rw[Nat.zero_add]at this
  unfold rowL
  omega,fun h=>absurd h (Nat.lt_irrefl a)⟩
theorem RwE.stop {s:ByteArray} {R a e:Nat} (h:RwE s R a e) (hae:a<e) (hc:∀h:e<s.size,s[e]≠46):R=e:=by
 have h1:=h.is
 rw[decide_eq_true hae]at h1
 rcases Nat.lt_or_ge e s.size with hl|hl
 ·rw[drop_at s e hl,rowG,if_neg (by rw[h.no hae hl];decide),if_neg (fun x=>hc hl x.1)]at h1
  exact h1
 ·rw[drop_past s e hl,rowG]at h1
  exact h1
theorem RwE.dot {s:ByteArray} {R a e:Nat} (h:RwE s R a e) (hae:a<e) (hl:e<s.size) (hc:s[e]=46):RwK s R e (e+1) (e+1):=
 ⟨Nat.le_refl _,hl,.inl ⟨rfl,by
  have h1:=h.is
  rw[decide_eq_true hae,drop_at s e hl,rowG,if_neg (by rw[h.no hae hl];decide),if_pos ⟨hc,rfl⟩]at h1
  exact h1⟩⟩
theorem RwE.first {s:ByteArray} {R a:Nat} (h:RwE s R a a):RwK s R a a a:=
 ⟨Nat.le_refl _,h.le,.inl ⟨rfl,by
  have h1:=h.is
  rw[decide_eq_false (Nat.lt_irrefl a)]at h1
  exact h1⟩⟩
theorem RwK.step {s:ByteArray} {R e f k:Nat} (h:RwK s R e f k) (hl:k<s.size) (hc:atB s[k]=true):RwK s R e f (k+1):=
 ⟨by have:=h.fk;omega,hl,.inr ⟨by have:=h.fk;omega,by
  rcases h.is with⟨rfl,h1⟩|⟨_,h1⟩
  ·rw[drop_at s k hl,rowG,if_pos hc]at h1
   exact h1
  ·rw[drop_at s k hl,rowG,if_pos hc]at h1
   exact h1⟩⟩
theorem RwK.none {s:ByteArray} {R e f:Nat} (h:RwK s R e f f) (hc:∀h:f<s.size,atB s[f]=false):R=e:=by
 rcases h.is with⟨_,h1⟩|⟨h0,_⟩
 ·rcases Nat.lt_or_ge f s.size with hl|hl
  ·rw[drop_at s f hl,rowG,if_neg (by rw[hc hl];decide),if_neg (by simp)]at h1
   exact h1
  ·rw[drop_past s f hl,rowG]at h1
   exact h1
 ·exact absurd h0 (Nat.lt_irrefl f)
theorem RwK.out {s:ByteArray} {R a e f k:Nat} (h:RwK s R e f k) (ha:a≤e) (he:e≤f) (hk:f<k) (hc:∀h:k<s.size,atB s[k]=false):RwE s R a k:=
 ⟨by omega,h.le,by
  rw[decide_eq_true (by omega)]
  rcases h.is with⟨h0,_⟩|⟨_,h1⟩
  ·omega
  ·exact h1,fun _=>hc⟩
end Go.Proofs.YtfjpkfhbmldmfaaGreatDoor
