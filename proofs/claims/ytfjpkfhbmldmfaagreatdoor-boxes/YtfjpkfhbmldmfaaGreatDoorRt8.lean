/-
  The contract of domain.small: for every text it answers the text in small letters, in new memory, and nothing old has turned.
-/
import Derived.Test.YtfjpkfhbmldmfaaGreatDoorWd8
import Derived.Test.YtfjpkfhbmldmfaaGreatDoorWt8
import Derived.Test.YtfjpkfhbmldmfaaGreatDoorRcP
import Derived.Test.YtfjpkfhbmldmfaaGreatDoorV4a
namespace Go.Proofs.YtfjpkfhbmldmfaaGreatDoor
open Go.RowKit
def smS (s:ByteArray):ByteArray:=⟨(sml s.data.toList).toArray⟩
theorem smB_no (b:UInt8) (h:¬(65≤b.toNat∧b.toNat≤90)):smB b=b:=if_neg h
theorem smB_yes (b:UInt8) (h1:65≤b.toNat) (h2:b.toNat≤90):(smB b).toNat=b.toNat+32:=by
 unfold smB
 rw[if_pos ⟨h1,h2⟩]
 simp
 omega
def smAt (l:List UInt8) (k j:Nat):UInt8:=if j<k then smB (l.getD j 0) else l.getD j 0
theorem smAt_zero (l:List UInt8) (j:Nat):smAt l 0 j=l.getD j 0:=by simp[smAt]
theorem smAt_self (l:List UInt8) (k:Nat):smAt l k k=l.getD k 0:=by simp[smAt]
theorem smAt_step (l:List UInt8) (k:Nat):smAt l (k+1) k=smB (l.getD k 0):=by simp[smAt]
theorem smAt_other (l:List UInt8) (k j:Nat) (h:j≠k):smAt l (k+1) j=smAt l k j:=by
 unfold smAt
 by_cases h1:j<k
 ·rw[if_pos h1,if_pos (by omega)]
 ·rw[if_neg h1,if_neg (by omega)]
theorem smAt_all (l:List UInt8) (n j:Nat) (hn:n=l.length) (h:j<(sml l).length):smAt l n j=(sml l)[j]:=by
 have h':j<l.length:=by simpa [sml] using h
 subst hn
 simp[smAt,sml,h',List.getD_eq_getElem?_getD]
structure SmRel (s:ByteArray) (B:Nat) (w:World) (k:Nat) (wr:World):Prop where
 cell:∀j,j<s.size→wr.cell? ⟨B,j,none⟩=some (.int .u8 ((smAt s.data.toList k j).toNat:Int))
 free:∀j,j<s.size→wr.frozen? ⟨B,j,none⟩=false
 below:Below B w wr
theorem SmRel.same {s:ByteArray} {B:Nat} {w wr:World} {k:Nat} (h:SmRel s B w k wr) (hn:¬(65≤(s.data.toList.getD k 0).toNat∧(s.data.toList.getD k 0).toNat≤90)):SmRel s B w (k+1) wr:=by
 refine⟨fun j hj=>?_,h.free,h.below⟩
 rw[h.cell j hj]
 by_cases e:j=k
 ·subst e
  rw[smAt_self,smAt_step,smB_no _ hn]
 ·rw[smAt_other _ _ _ e]
theorem SmRel.put {s:ByteArray} {B:Nat} {w wr:World} {k:Nat} (h:SmRel s B w k wr) (hk:k<s.size) (h1:65≤(s.data.toList.getD k 0).toNat) (h2:(s.data.toList.getD k 0).toNat≤90):
  SmRel s B w (k+1) (wr.setCell ⟨B,k,none⟩ (.int .u8 (((s.data.toList.getD k 0).toNat:Int) - 65+97))):=by
 refine⟨fun j hj=>?_,fun j hj=>?_,h.below.setCell (Nat.le_refl _) _⟩
 ·by_cases e:j=k
  ·subst e
   rw[World.cell?_setCell_same _ _ _ (h.cell j hj),smAt_step,smB_yes _ h1 h2]
   congr 2
   omega
  ·rw[World.cell?_setCell_other _ _ _ _ (by intro h';injection h' with _ h';omega),h.cell j hj,smAt_other _ _ _ e]
 ·rw[World.frozen?_setCell]
  exact h.free j hj
theorem SmRel.start (s:ByteArray) (w:World) (cap:Nat) (n:Nat) (hn:n=(bytesRow s cap).size):SmRel s w.heap.size w 0 (w.alloc (.cells (bytesRow s cap) 5 (n,n+1))).drew:=by
 refine⟨fun j hj=>?_,fun j hj=>?_,((Below.refl _ _).alloc (Nat.le_refl _) _).drew⟩
 ·have:=World.cell?_alloc_mark w (bytesRow s cap) 5 (n,n+1) j
  rw[bytesRow_at s cap j hj]at this
  rw[smAt_zero]
  refine Eq.trans this ?_
  rw[List.getD_eq_getElem?_getD,Array.getElem?_toList,Array.getElem?_eq_getElem hj,Option.getD_some]
 ·have:=World.frozen?_alloc_mark w (bytesRow s cap) 5 n (n+1) j
  refine Eq.trans this ?_
  have h2:=bytes_lt s cap
  have h3:s.size=s.data.size:=rfl
  rw[decide_eq_false (by omega),Bool.false_and]
theorem SmRel.back {s:ByteArray} {B:Nat} {w wr:World} (h:SmRel s B w s.size wr) (cap:Nat):
  (convert 98 9 (.slice (some ⟨B,0,none⟩) s.size cap)).run Tryz.prog wr=.ok (.string (smS s)) wr:=by
 have hl:(sml s.data.toList).length=s.size:=by rw[sml,List.length_map,Array.length_toList];rfl
 have:=run_convert_bytes_back (P:=Tryz.prog) wr 98 9 5 ⟨B,0,none⟩ cap (sml s.data.toList) Tryz.underlying98 Tryz.underlying5 Tryz.underlying9 (fun j hj=>by
  have hj':j<s.size:=by omega
  have he:(⟨B,0,none⟩:Addr).add j=⟨B,j,none⟩:=by rw[Addr.add_lit,Nat.zero_add]
  rw[he,h.cell j hj']
  rw[smAt_all s.data.toList s.size j (by rw[Array.length_toList];rfl) hj])
 rw[hl]at this
 exact this
open Go.RowKit
theorem let_case (c:UInt8):letB c=decide ((65≤c.toNat∧c.toNat≤90)∨(97≤c.toNat∧c.toNat≤122)):=by
 unfold letB
 rw[Bool.eq_iff_iff]
 simp
set_option maxHeartbeats 1000000 in
set_option maxRecDepth 100000 in
theorem letter_any (c:UInt8) (w:World):Calls Tryz.prog 132 #[.int .u8 (c.toNat:Int)] w fun e w'=>e=.returned (.bool (letB c))∧w'=w:=by
 rw[let_case]
 obtain⟨x,hx⟩:∃x,x=c.toNat:=⟨_,rfl⟩
 rw[←hx]
 clear hx
 by_cases h1:65≤x
 ·by_cases h2:x≤90
  ·rw[decide_eq_true (.inl ⟨h1,h2⟩)]
   go_enter Tryz.func132,Tryz.ntmps132
   go_wp2_with fail
   go_ret
   exact⟨by first|rfl|(simp;omega),rfl⟩
  ·by_cases h3:97≤x
   ·by_cases h4:x≤122
    ·rw[decide_eq_true (.inr ⟨h3,h4⟩)]
     go_enter Tryz.func132,Tryz.ntmps132
     go_wp2_with fail
     go_ret
     exact⟨by first|rfl|(simp;omega),rfl⟩
    ·rw[decide_eq_false (by omega)]
     go_enter Tryz.func132,Tryz.ntmps132
     go_wp2_with fail
     go_ret
     exact⟨by first|rfl|(simp;omega),rfl⟩
   ·rw[decide_eq_false (by omega)]
    go_enter Tryz.func132,Tryz.ntmps132
    go_wp2_with fail
    go_ret
    exact⟨by first|rfl|(simp;omega),rfl⟩
 ·have h3:¬97≤x:=by omega
  rw[decide_eq_false (by omega)]
  go_enter Tryz.func132,Tryz.ntmps132
  go_wp2_with fail
  go_ret
  exact⟨by first|rfl|(simp;omega),rfl⟩
set_option maxHeartbeats 1000000 in
set_option maxRecDepth 100000 in
theorem digit_any (c:UInt8) (w:World):Calls Tryz.prog 133 #[.int .u8 (c.toNat:Int)] w fun e w'=>e=.returned (.bool (dgB c))∧w'=w:=by
 unfold dgB
 obtain⟨x,hx⟩:∃x,x=c.toNat:=⟨_,rfl⟩
 rw[←hx]
 clear hx
 by_cases h1:48≤x
 ·by_cases h2:x≤57
  ·rw[decide_eq_true h1,decide_eq_true h2]
   go_enter Tryz.func133,Tryz.ntmps133
   go_wp2_with fail
   go_ret
   exact⟨by first|rfl|(simp;omega),rfl⟩
  ·rw[decide_eq_true h1,decide_eq_false h2]
   go_enter Tryz.func133,Tryz.ntmps133
   go_wp2_with fail
   go_ret
   exact⟨by first|rfl|(simp;omega),rfl⟩
 ·rw[decide_eq_false h1]
  go_enter Tryz.func133,Tryz.ntmps133
  go_wp2_with fail
  go_ret
  exact⟨by first|rfl|(simp;omega),rfl⟩
theorem SmRel.put2 {s:ByteArray} {B:Nat} {w wr:World} {k:Nat} (h:SmRel s B w k wr) (hk:k<s.size) (h1:65≤(s.data.toList.getD k 0).toNat) (h2:(s.data.toList.getD k 0).toNat≤90):
  SmRel s B w (k+1) (wr.setCell ⟨B,k,none⟩ (.int .u8 (((s.data.toList.getD k 0).toNat:Int)+32))):=by
 have:=h.put hk h1 h2
 rw[show((s.data.toList.getD k 0).toNat:Int) - 65+97=((s.data.toList.getD k 0).toNat:Int)+32 from by omega]at this
 exact this
set_option maxRecDepth 100000 in
set_option maxHeartbeats 1000000 in
theorem rsmall_any (s:ByteArray) (w:World) (hs:s.size≤maxLen):
  Calls Tryz.prog 83 #[.string s] w fun e w'=>e=.returned (.string (smS s))∧Below w.heap.size w w':=by
 unfold maxLen at hs
 have hconv:=run_bytes_of_string (P:=Tryz.prog) w 9 98 5 s Tryz.underlying9 Tryz.underlying98 Tryz.underlying5
 obtain⟨cap,hcap⟩:∃c,c=grownCap w s.size 0 5:=⟨_,rfl⟩
 rw[←hcap]at hconv
 obtain⟨n,hn⟩:∃n,n=(bytesRow s cap).size:=⟨_,rfl⟩
 rw[←hn]at hconv
 have HR:Hid (SmRel s w.heap.size w 0 (w.alloc (.cells (bytesRow s cap) 5 (n,n+1))).drew):=SmRel.start s w cap n hn
 clear hcap hn
 go_enter Tryz.func83,Tryz.ntmps83
 go_wp2
 go_loopw [9] (fun i wr=>∃k:Nat,k≤s.size∧i=.int .i64 k∧Hid (SmRel s w.heap.size w k wr)) (fun i _=>s.size - (intOf i).toNat)
 case atStart=>exact⟨0,Nat.zero_le _,rfl,HR⟩
 case round=>
  obtain⟨k,hk,rfl,HK⟩:=hrel
  by_cases hlt:k<s.size
  ·have hc:=HK.out.cell k hlt
   have hf:=HK.out.free k hlt
   rw[smAt_self]at hc
   obtain⟨x,hx⟩:∃x:UInt8,x=s.data.toList.getD k 0:=⟨_,rfl⟩
   rw[←hx]at hc
   have HX:Hid (x=s.data.toList.getD k 0):=hx
   clear hx
   have hx1:x.toNat<256:=x.toNat_lt
   by_cases h1:65≤x.toNat
   ·by_cases h2:x.toNat≤90
    ·have HN:Hid (SmRel s w.heap.size w (k+1) (wr.setCell ⟨w.heap.size,k,none⟩ (.int .u8 ((x.toNat:Int)+32)))):=by
      have:=HK.out.put2 hlt (by rw[←HX.out];exact h1) (by rw[←HX.out];exact h2)
      rw[←HX.out]at this
      exact this
     clear HK
     go_wp2
     go_roundw
     case rel=>exact⟨k+1,by omega,by go_num,HN⟩
     case measure=>simp[intOf];omega
    ·have HN:Hid (SmRel s w.heap.size w (k+1) wr):=HK.out.same (by rw[←HX.out];omega)
     clear HK
     go_wp2
     go_roundw
     case rel=>exact⟨k+1,by omega,by go_num,HN⟩
     case measure=>simp[intOf];omega
   ·have HN:Hid (SmRel s w.heap.size w (k+1) wr):=HK.out.same (by rw[←HX.out];omega)
    clear HK
    go_wp2
    go_roundw
    case rel=>exact⟨k+1,by omega,by go_num,HN⟩
    case measure=>simp[intOf];omega
  ·have he:k=s.size:=by omega
   subst he
   have hback:=HK.out.back cap
   have HB:Hid (Below w.heap.size w wr):=HK.out.below
   clear HK
   go_wp2
   go_ret
   exact⟨rfl,HB.out⟩
open Go.RowKit
theorem sml_six (t:ByteArray) (h5:5≤t.size):sixB t.data.toList=((smS (t.extract 0 5)).data.toList==[105,112,118,54,58]):=by
 unfold sixB smS
 rw[decide_eq_true (by rw[len_list];exact h5),Bool.true_and]
 have:(t.extract 0 5).data.toList=t.data.toList.take 5:=by simp
 rw[this]
 rw[Bool.eq_iff_iff]
 simp
set_option maxHeartbeats 1000000 in
set_option maxRecDepth 100000 in
theorem sixth_any (t:ByteArray) (w:World):Calls Tryz.prog 98 #[.string t] w fun e w'=>e=.returned (.bool (sixB t.data.toList))∧Below w.heap.size w w':=by
 by_cases h5:5≤t.size
 ·have h5':(4:Int)<(t.size:Int):=by omega
  have HS:Hid (Calls Tryz.prog 83 #[.string (t.extract 0 5)] w fun e w'=>e=.returned (.string (smS (t.extract 0 5)))∧Below w.heap.size w w'):=rsmall_any (t.extract 0 5) w (by rw[ByteArray.size_extract];unfold maxLen;omega)
  have HR:Hid (sixB t.data.toList=((smS (t.extract 0 5)).data.toList==[105,112,118,54,58])):=sml_six t h5
  generalize smS (t.extract 0 5)=X at HS HR
  go_enter Tryz.func98,Tryz.ntmps98
  go_wp2_with fail
  refine HS.out.mono ?_
  rintro e w1 ⟨rfl,hb1⟩
  have HB1:Hid (Below w.heap.size w w1):=hb1
  clear hb1
  go_wp2_with fail
  go_ret
  exact⟨by rw[HR.out,←ByteArray.toList_eq];rfl,HB1.out⟩
 ·have h5':¬(4:Int)<(t.size:Int):=by omega
  have hr:sixB t.data.toList=false:=by
   unfold sixB
   rw[decide_eq_false (by rw[len_list];exact h5),Bool.false_and]
  rw[hr]
  go_enter Tryz.func98,Tryz.ntmps98
  go_wp2_with fail
  go_ret
  exact⟨rfl,Below.refl _ _⟩
def optI (o:Option Nat):Int:=match o with
 |none=> -1
 |some p=>p
theorem b_eq (c:UInt8) (n:UInt8) (m:Int) (hm:m=(n.toNat:Int)):((c.toNat:Int)==m)=decide (c=n)∧((c.toNat:Int) != m)=!decide (c=n):=by
 have:((c.toNat:Int)==m)=decide (c=n):=by
  subst hm
  rw[Bool.eq_iff_iff,beq_iff_eq,decide_eq_true_eq,Int.natCast_inj,UInt8.toNat_inj]
 refine⟨this,?_⟩
 rw[bne,this]
def AllF (f:UInt8→Bool) (t:ByteArray) (a k:Nat):Prop:=∀j (h:j<t.size),a≤j→j<k→f t[j]=true
theorem AllF.step {f:UInt8→Bool} {t:ByteArray} {a k:Nat} (h:AllF f t a k) (hk:k<t.size) (hc:f t[k]=true):AllF f t a (k+1):=fun j hj h1 h2=>by
 rcases Nat.lt_or_ge j k with h'|h'
 ·exact h j hj h1 h'
 ·obtain rfl:j=k:=by omega
  exact hc
theorem AllF.none (f:UInt8→Bool) (t:ByteArray) (a:Nat):AllF f t a a:=fun j _ h1 h2=>absurd h1 (by omega)
theorem get_list (t:ByteArray) (k:Nat) (h:k<t.data.toList.length):t.data.toList[k]=t[k]'(by rw[len_list]at h;exact h):=rfl
theorem AllF.sp {f:UInt8→Bool} {t:ByteArray} {k:Nat} (h:AllF f t 0 k) (hk:k≤t.size) (hs:∀h:k<t.size,f t[k]=false):spB f t.data.toList=k:=
 spB_eq f _ k (by rw[len_list];exact hk) (fun j hj h'=>by rw[get_list];exact h j _ (Nat.zero_le _) h') (fun hj=>by rw[get_list];exact hs _)
theorem AllF.sp2 {f:UInt8→Bool} {t:ByteArray} {a k:Nat} (h:AllF f t a k) (ha:a≤k) (hk:k≤t.size) (hs:∀h:k<t.size,f t[k]=false):spB f (t.data.toList.drop a)=k - a:=
 spB_eq f _ (k - a) (by rw[List.length_drop,len_list];omega) (fun j hj h'=>by
  rw[List.getElem_drop,get_list]
  exact h (a+j) _ (by omega) (by omega)) (fun hj=>by
  rw[List.getElem_drop,get_list]
  have:=hs (by rw[List.length_drop,len_list]at hj;omega)
  simp only[show a+(k - a)=k from by omega]
  exact this)
theorem tg_one {t:ByteArray} {k:Nat} (h:AllF lbB t 0 k) (hk:k<t.size) (h1:lbB t[k]=false) (h2:t[k]≠58):tgD t.data.toList=some k:=by
 have e:=h.sp (by omega) (fun _=>h1)
 unfold tgD
 rw[e,if_pos ⟨by rw[len_list];exact hk,by rw[List.getElem?_eq_getElem (by rw[len_list];exact hk),get_list];simpa using h2⟩]
theorem tg_two {t:ByteArray} {k:Nat} (h:AllF lbB t 0 k) (hk:k≤t.size) (h1:∀h:k<t.size,t[k]=58) (h2:k=t.size∨k=0∨t.data.toList[k - 1]?=some 45):tgD t.data.toList=some k:=by
 have e:=h.sp hk (fun hh=>by rw[h1 hh];exact lb_colon)
 unfold tgD
 rw[e,if_neg,if_pos (by rw[len_list];exact h2)]
 rintro ⟨a,b⟩
 rw[len_list]at a
 exact b (by rw[List.getElem?_eq_getElem (by rw[len_list];exact a),get_list,h1 a])
theorem tg_last {t:ByteArray} {k i:Nat} (h:AllF lbB t 0 k) (hk:k<t.size) (h1:t[k]=58) (h2:¬(k=t.size∨k=0∨t.data.toList[k - 1]?=some 45)) (g:AllF plB t (k+1) i) (hi:k+1≤i) (hl:i≤t.size) (hs:∀h:i<t.size,plB t[i]=false):
  tgD t.data.toList=if i<t.size then some i else if k+1=t.size then some t.size else none:=by
 have e:=h.sp (by omega) (fun hh=>by rw[h1];exact lb_colon)
 have e2:=g.sp2 hi hl hs
 unfold tgD
 have n1:¬(k<t.data.toList.length∧¬t.data.toList[k]?=some 58):=by
  rintro ⟨a,b⟩
  exact b (by rw[List.getElem?_eq_getElem a,get_list,h1])
 rw[e,if_neg n1,if_neg (by rw[len_list];exact h2),e2,len_list,show k+1+(i - (k+1))=i from by omega]
set_option maxHeartbeats 8000000 in
set_option maxRecDepth 100000 in
theorem tagged_any (t:ByteArray) (w:World) (ht:t.size≤maxLen):Calls Tryz.prog 97 #[.string t] w fun e w'=>e=.returned (.int .i64 (optI (tgD t.data.toList)))∧Below w.heap.size w w':=by
 unfold maxLen at ht
 have HL:Hid (∀c:UInt8,∀w:World,Calls Tryz.prog 132 #[.int .u8 (c.toNat:Int)] w fun e w'=>e=.returned (.bool (letB c))∧w'=w):=letter_any
 have HD:Hid (∀c:UInt8,∀w:World,Calls Tryz.prog 133 #[.int .u8 (c.toNat:Int)] w fun e w'=>e=.returned (.bool (dgB c))∧w'=w):=digit_any
 go_enter Tryz.func97,Tryz.ntmps97
 go_wp2_with fail
 go_loopw [3] (fun c wr=>∃k:Nat,k≤t.size∧c=.int .i64 k∧Hid (AllF lbB t 0 k)∧Hid (wr=w)) (fun c _=>t.size - (intOf c).toNat)
 case atStart=>exact⟨0,Nat.zero_le _,rfl,AllF.none _ _ _,rfl⟩
 case round=>
  obtain⟨k,hk,rfl,HA,HV⟩:=hrel
  obtain rfl:w=wr:=HV.out.symm
  clear HV
  by_cases hgo:∃h:k<t.size,t[k]≠58
  ·obtain⟨hlt,hc⟩:=hgo
   obtain⟨e58,n58⟩:=b_eq t[k] 58 58 rfl
   rw[decide_eq_false hc]at e58 n58
   have HL1:=HL.out t[k] w
   have HD1:=HD.out t[k] w
   obtain⟨e45,n45⟩:=b_eq t[k] 45 45 rfl
   have HLB:Hid (lbB t[k]=(letB t[k]||dgB t[k]||decide (t[k]=45))):=by show _=_;unfold lbB;rw[ld_let]
   have HC:Hid (t[k]≠58):=hc
   clear HL HD hc
   obtain⟨x1,h1⟩:∃x,x=letB t[k]:=⟨_,rfl⟩
   obtain⟨x2,h2⟩:∃x,x=dgB t[k]:=⟨_,rfl⟩
   obtain⟨x3,h3⟩:∃x,x=decide (t[k]=45):=⟨_,rfl⟩
   rw[←h1]at HL1 HLB
   rw[←h2]at HD1 HLB
   rw[←h3]at e45 n45 HLB
   clear h1 h2 h3
   cases x1
   ·cases x2
    ·cases x3
     ·have HT:Hid (tgD t.data.toList=some k):=tg_one HA.out hlt HLB.out HC.out
      go_wp2_with fail
      refine HL1.mono ?_
      rintro e w1 ⟨rfl,rfl⟩
      go_wp2_with fail
      refine HD1.mono ?_
      rintro e w1 ⟨rfl,rfl⟩
      go_wp2_with fail
      go_ret
      exact⟨by rw[HT.out];rfl,Below.refl _ _⟩
     ·have HN:Hid (AllF lbB t 0 (k+1)):=HA.out.step hlt HLB.out
      go_wp2_with fail
      refine HL1.mono ?_
      rintro e w1 ⟨rfl,rfl⟩
      go_wp2_with fail
      refine HD1.mono ?_
      rintro e w1 ⟨rfl,rfl⟩
      go_wp2_with fail
      go_roundw
      case rel=>exact⟨k+1,by omega,by go_num,HN,trivial⟩
      case measure=>simp[intOf];omega
    ·have HN:Hid (AllF lbB t 0 (k+1)):=HA.out.step hlt HLB.out
     go_wp2_with fail
     refine HL1.mono ?_
     rintro e w1 ⟨rfl,rfl⟩
     go_wp2_with fail
     refine HD1.mono ?_
     rintro e w1 ⟨rfl,rfl⟩
     go_wp2_with fail
     go_roundw
     case rel=>exact⟨k+1,by omega,by go_num,HN,trivial⟩
     case measure=>simp[intOf];omega
   ·have HN:Hid (AllF lbB t 0 (k+1)):=HA.out.step hlt HLB.out
    go_wp2_with fail
    refine HL1.mono ?_
    rintro e w1 ⟨rfl,rfl⟩
    go_wp2_with fail
    go_roundw
    case rel=>exact⟨k+1,by omega,by go_num,HN,trivial⟩
    case measure=>simp[intOf];omega
  ·have HB:Hid (∀h:k<t.size,t[k]=58):=fun h=>Classical.byContradiction fun h'=>hgo ⟨h,h'⟩
   clear hgo HL HD
   by_cases hz:k=t.size
   ·have HT:Hid (tgD t.data.toList=some t.size):=by have:=tg_two HA.out hk HB.out (.inl hz);rw[hz]at this;exact this
    subst hz
    clear HB HA
    go_wp2_with fail
    go_ret
    exact⟨by rw[HT.out];rfl,Below.refl _ _⟩
   ·have hlt:k<t.size:=by omega
    have hzb:((k:Int)==(t.size:Int))=false:=by rw[beq_eq_false_iff_ne];omega
    have hc:=HB.out hlt
    have HC:Hid (t[k]=58):=hc
    obtain⟨e58,n58⟩:=b_eq t[k] 58 58 rfl
    rw[decide_eq_true hc]at e58 n58
    have HZ:Hid (¬k=t.size):=hz
    clear hc hz
    by_cases h0:k=0
    ·have HT:Hid (tgD t.data.toList=some 0):=by have:=tg_two HA.out hk HB.out (.inr (.inl h0));rw[h0]at this;exact this
     subst h0
     clear HB HA
     go_wp2_with fail
     go_ret
     exact⟨by rw[HT.out];rfl,Below.refl _ _⟩
    ·obtain⟨m,rfl⟩:∃m,k=m+1:=⟨k - 1,by omega⟩
     have hm:m<t.size:=by omega
     have h0b:((m:Int)+1==0)=false:=by rw[beq_eq_false_iff_ne];omega
     have hzc:((m:Int)+1==(t.size:Int))=false:=by rw[beq_eq_false_iff_ne];have:=HZ.out;omega
     clear hzb
     have hl45:t.data.toList[m]?=some t[m]:=by rw[List.getElem?_eq_getElem (by rw[len_list];exact hm),get_list]
     obtain⟨e45,n45⟩:=b_eq t[m] 45 45 rfl
     by_cases h45:t[m]=45
     ·have HT:Hid (tgD t.data.toList=some (m+1)):=tg_two HA.out hk HB.out (.inr (.inr (by rw[Nat.add_sub_cancel,hl45,h45])))
      rw[decide_eq_true h45]at e45 n45
      clear HB HA h45 hl45 h0
      go_wp2_with fail
      go_ret
      exact⟨by rw[HT.out];rfl,Below.refl _ _⟩
     ·rw[decide_eq_false h45]at e45 n45
      have HE:Hid (¬(m+1=t.size∨m+1=0∨t.data.toList[m+1 - 1]?=some 45)):=by
       rintro (h|h|h)
       ·exact HZ.out h
       ·omega
       ·rw[Nat.add_sub_cancel,hl45]at h
        exact h45 (by simpa using h)
      clear HB h45 hl45 h0
      go_wp2_with fail
      go_loopw [4] (fun c wv=>∃i:Nat,m+2≤i∧i≤t.size∧c=.int .i64 i∧Hid (AllF plB t (m+2) i)∧Hid (wv=w)) (fun c _=>t.size - (intOf c).toNat)
      case atStart=>exact⟨m+2,by omega,by omega,by go_num,AllF.none _ _ _,rfl⟩
      case round=>
       obtain⟨i,hi2,hi,rfl,HP,HV⟩:=hrel
       obtain rfl:w=wr:=HV.out.symm
       clear HV
       by_cases hil:i<t.size
       ·have hil':(i:Int)<(t.size:Int):=by omega
        have HPL:Hid (plB t[i]=(decide (33≤t[i].toNat)&&decide (t[i].toNat≤126)&&!decide (t[i]=91)&&!decide (t[i]=92)&&!decide (t[i]=93))):=rfl
        obtain⟨e91,n91⟩:=b_eq t[i] 91 91 rfl
        obtain⟨e92,n92⟩:=b_eq t[i] 92 92 rfl
        obtain⟨e93,n93⟩:=b_eq t[i] 93 93 rfl
        obtain⟨x1,h1⟩:∃x,x=decide (t[i]=91):=⟨_,rfl⟩
        obtain⟨x2,h2⟩:∃x,x=decide (t[i]=92):=⟨_,rfl⟩
        obtain⟨x3,h3⟩:∃x,x=decide (t[i]=93):=⟨_,rfl⟩
        rw[←h1]at e91 n91 HPL
        rw[←h2]at e92 n92 HPL
        rw[←h3]at e93 n93 HPL
        clear h1 h2 h3
        have HS:Hid (plB t[i]=false→tgD t.data.toList=some i):=fun h=>by
         have:=tg_last HA.out hlt HC.out HE.out HP.out hi2 hi (fun _=>h)
         rw[if_pos hil]at this
         exact this
        have HN:Hid (plB t[i]=true→AllF plB t (m+2) (i+1)):=fun h=>HP.out.step hil h
        clear HA HC HE HP HZ e58 n58 e45 n45 h0b hzc
        by_cases c1:33≤t[i].toNat
        ·by_cases c2:t[i].toNat≤126
         ·rw[decide_eq_true c1,decide_eq_true c2]at HPL
          cases x1
          ·cases x3
           ·cases x2
            ·have HN2:Hid (AllF plB t (m+2) (i+1)):=HN.out HPL.out
             go_wp2_with fail
             go_roundw
             case rel=>exact⟨i+1,by omega,by omega,by go_num,HN2,trivial⟩
             case measure=>simp[intOf];omega
            ·have HT:Hid (tgD t.data.toList=some i):=HS.out (HPL.out.trans (by rfl))
             go_wp2_with fail
             go_ret
             exact⟨by rw[HT.out];rfl,Below.refl _ _⟩
           ·have HT:Hid (tgD t.data.toList=some i):=HS.out (HPL.out.trans (by cases x2<;>rfl))
            go_wp2_with fail
            go_ret
            exact⟨by rw[HT.out];rfl,Below.refl _ _⟩
          ·have HT:Hid (tgD t.data.toList=some i):=HS.out (HPL.out.trans (by cases x2<;>cases x3<;>rfl))
           go_wp2_with fail
           go_ret
           exact⟨by rw[HT.out];rfl,Below.refl _ _⟩
         ·have HT:Hid (tgD t.data.toList=some i):=HS.out (HPL.out.trans (by rw[decide_eq_false c2];cases x1<;>cases x2<;>cases x3<;>simp))
          go_wp2_with fail
          go_ret
          exact⟨by rw[HT.out];rfl,Below.refl _ _⟩
        ·have HT:Hid (tgD t.data.toList=some i):=HS.out (HPL.out.trans (by rw[decide_eq_false c1];simp))
         go_wp2_with fail
         go_ret
         exact⟨by rw[HT.out];rfl,Below.refl _ _⟩
       ·have HS:Hid (tgD t.data.toList=if m+1+1=t.size then some t.size else none):=by
         have:=tg_last HA.out hlt HC.out HE.out HP.out hi2 hi (fun h=>absurd h hil)
         rw[if_neg hil]at this
         exact this
        have hil':¬(i:Int)<(t.size:Int):=by omega
        clear HA HC HE HP HZ e58 n58 e45 n45 h0b hzc
        by_cases hl:m+1+1=t.size
        ·have HT:Hid (tgD t.data.toList=some t.size):=by have:=HS.out;rw[if_pos hl]at this;exact this
         have hlb:((m:Int)+1+1==(t.size:Int))=true:=by rw[beq_iff_eq];omega
         clear HS hl
         go_wp2_with fail
         go_ret
         exact⟨by rw[HT.out];rfl,Below.refl _ _⟩
        ·have HT:Hid (tgD t.data.toList=none):=by have:=HS.out;rw[if_neg hl]at this;exact this
         have hlb:((m:Int)+1+1==(t.size:Int))=false:=by rw[beq_eq_false_iff_ne];omega
         clear HS hl
         go_wp2_with fail
         go_ret
         exact⟨by rw[HT.out];rfl,Below.refl _ _⟩
end Go.Proofs.YtfjpkfhbmldmfaaGreatDoor
