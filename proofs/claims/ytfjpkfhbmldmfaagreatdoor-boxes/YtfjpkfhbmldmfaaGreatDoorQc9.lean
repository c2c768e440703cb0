/-
  Rows of atoms and quoted texts from any place on.
-/
import Derived.Test.YtfjpkfhbmldmfaaGreatDoorPtA
import Derived.Test.YtfjpkfhbmldmfaaGreatDoorLate5
import Derived.Test.YtfjpkfhbmldmfaaGreatDoorRt8
import Derived.Laws.Concat
import Derived.Test.YtfjpkfhbmldmfaaGreatDoorPg8
namespace Go.Proofs.YtfjpkfhbmldmfaaGreatDoor
theorem rowG_shift (k:Nat):∀(s:List UInt8) (e i:Nat) (b:Bool),rowG (e+k) (i+k) b s=rowG e i b s+k
 |[],_,_,_=>rfl
 |c::r,e,i,b=>by
  rw[rowG,rowG]
  have h1:=rowG_shift k r (i+1) (i+1) true
  have h2:=rowG_shift k r e (i+1) false
  rw[show i+1+k=i+k+1 from by omega]at h1 h2
  rw[h1,h2]
  split
  ·rfl
  ·split<;>rfl
def shQ (k:Nat):Except (Option Nat) (List UInt8×Nat)→Except (Option Nat) (List UInt8×Nat)
 | .ok (m,n)=>.ok (m,n+k)
 | .error none=>.error none
 | .error (some p)=>.error (some (p+k))
theorem shQ_pre (k:Nat) (c:UInt8) (x:Except (Option Nat) (List UInt8×Nat)):shQ k (preQ c x)=preQ c (shQ k x):=by
 match x with
 | .ok (m,n)=>rfl
 | .error none=>rfl
 | .error (some p)=>rfl
theorem qtM_shift (k:Nat):∀(s:List UInt8) (i:Nat) (b:Bool),1≤i→qtM (i+k) b s=shQ k (qtM i b s)
 |[],i,b,_=>by cases b<;>rfl
 |c::r,i,true,h=>by
  rw[qtM,qtM]
  split
  ·rw[shQ_pre,←qtM_shift k r (i+1) false (by omega),show i+1+k=i+k+1 from by omega]
  ·show Except.error (some (i+k - 1))=Except.error (some (i - 1+k))
   rw[show i+k - 1=i - 1+k from by omega]
 |c::r,i,false,h=>by
  rw[qtM,qtM]
  split
  ·show Except.ok ([],i+k+1)=Except.ok ([],i+1+k)
   rw[show i+k+1=i+1+k from by omega]
  ·split
   ·rw[←qtM_shift k r (i+1) true (by omega),show i+1+k=i+k+1 from by omega]
   ·split
    ·rw[shQ_pre,←qtM_shift k r (i+1) false (by omega),show i+1+k=i+k+1 from by omega]
    ·rfl
open Go.RowKit
set_option maxHeartbeats 400000 in
theorem has_any (s:ByteArray) (b:Int) (w:World) (hs:s.size≤maxLen):
  Calls Tryz.prog 91 #[.string s,.int .u8 b] w fun e w'=>e=.returned (.bool (hasB s.data.toList b))∧w'=w:=by
 unfold maxLen at hs
 go_enter Tryz.func91,Tryz.ntmps91
 go_wp2
 go_loop [5] (fun i=>∃k:Nat,k≤s.size∧i=.int .i64 k∧Hid (hasB s.data.toList b=hasB (s.data.toList.drop k) b)) (fun i=>s.size - (intOf i).toNat)
 case atStart=>exact⟨0,Nat.zero_le _,rfl,rfl⟩
 case round=>
  obtain⟨k,hk,rfl,HH⟩:=hrel
  by_cases hlt:k<s.size
  ·have HS:Hid (hasB (s.data.toList.drop k) b=(((s[k].toNat:Int)==b)||hasB (s.data.toList.drop (k+1)) b)):=hasB_drop s.data.toList b k (by simpa using hlt)
   by_cases hb:((s[k].toNat:Int)==b)=true
   ·go_wp2
    go_ret
    exact⟨ret_bool (by rw[HH.out,HS.out,hb];rfl),rfl⟩
   ·have hb':((s[k].toNat:Int)==b)=false:=by simpa using hb
    clear hb
    go_wp2
    go_round
    case rel=>exact⟨k+1,by omega,by go_num,by rw[HH.out,HS.out,hb'];rfl⟩
    case measure=>simp[intOf];omega
  ·go_wp2
   go_ret
   exact⟨ret_bool (by rw[HH.out,List.drop_eq_nil_of_le (by simp;omega)];rfl),rfl⟩
set_option maxHeartbeats 400000 in
theorem shown_any (b:Int) (s:ByteArray) (w:World) (hs:s.size≤maxLen):
  Calls Tryz.prog 158 #[.int .u8 b,.string s] w fun e w'=>e=.returned (.bool (shownB b s.data.toList))∧w'=w:=by
 unfold shownB
 by_cases h1:33≤b
 ·by_cases h2:b≤126
  ·go_enter Tryz.func158,Tryz.ntmps158
   go_wp2_with (go_at_call 91;refine(has_any _ _ _ hs).mono ?_;rintro e w' ⟨rfl,rfl⟩)
   go_ret
   exact⟨ret_bool (by simp[h1,h2]),rfl⟩
  ·rw[decide_eq_false h2,Bool.and_false,Bool.false_and]
   go_enter Tryz.func158,Tryz.ntmps158
   go_wp2_with (go_at_call 91;refine(has_any _ _ _ hs).mono ?_;rintro e w' ⟨rfl,rfl⟩)
   go_ret
   exact⟨rfl,rfl⟩
 ·rw[decide_eq_false h1,Bool.false_and,Bool.false_and]
  go_enter Tryz.func158,Tryz.ntmps158
  go_wp2_with (go_at_call 91;refine(has_any _ _ _ hs).mono ?_;rintro e w' ⟨rfl,rfl⟩)
  go_ret
  exact⟨rfl,rfl⟩
theorem has_caps (b:Int) (w:World):Calls Tryz.prog 91 #[.string ⟨#[65,66,67,68,69,70,71,72,73,74,75,76,77,78,79,80,81,82,83,84,85,86,87,88,89,90]⟩,.int .u8 b] w fun e w'=>e=.returned (.bool (hasB caps b))∧w'=w:=
 has_any ⟨#[65,66,67,68,69,70,71,72,73,74,75,76,77,78,79,80,81,82,83,84,85,86,87,88,89,90]⟩ b w (by unfold maxLen;decide)
theorem has_smls (b:Int) (w:World):Calls Tryz.prog 91 #[.string ⟨#[97,98,99,100,101,102,103,104,105,106,107,108,109,110,111,112,113,114,115,116,117,118,119,120,121,122]⟩,.int .u8 b] w fun e w'=>e=.returned (.bool (hasB smls b))∧w'=w:=
 has_any ⟨#[97,98,99,100,101,102,103,104,105,106,107,108,109,110,111,112,113,114,115,116,117,118,119,120,121,122]⟩ b w (by unfold maxLen;decide)
theorem has_digs (b:Int) (w:World):Calls Tryz.prog 91 #[.string ⟨#[48,49,50,51,52,53,54,55,56,57]⟩,.int .u8 b] w fun e w'=>e=.returned (.bool (hasB odigs b))∧w'=w:=
 has_any ⟨#[48,49,50,51,52,53,54,55,56,57]⟩ b w (by unfold maxLen;decide)
theorem has_sgns (b:Int) (w:World):Calls Tryz.prog 91 #[.string ⟨#[33,35,36,37,38,39,42,43,45,47,61,63,94,95,123,124,125,126,96]⟩,.int .u8 b] w fun e w'=>e=.returned (.bool (hasB sgns b))∧w'=w:=
 has_any ⟨#[33,35,36,37,38,39,42,43,45,47,61,63,94,95,123,124,125,126,96]⟩ b w (by unfold maxLen;decide)
def s6 (b:Int):Bool:=shownB b [34,92]
theorem shown_6 (b:Int) (w:World):Calls Tryz.prog 158 #[.int .u8 b,.string ⟨#[34,92]⟩] w fun e w'=>e=.returned (.bool (s6 b))∧w'=w:=
 shown_any b ⟨#[34,92]⟩ w (by unfold maxLen;decide)
set_option maxHeartbeats 400000 in
theorem ris_1 (b:Int) (w:World):Calls Tryz.prog 121 #[.int .i64 1,.int .u8 b] w fun e w'=>e=.returned (.bool (r1 b))∧w'=w:=by
 unfold r1;cases h:hasB caps b
 ·go_enter Tryz.func121,Tryz.ntmps121
  go_wp2_with fail
  refine(has_caps b _).mono ?_
  rintro e w' ⟨rfl,rfl⟩
  go_wp2_with fail
  refine(has_smls b _).mono ?_
  rintro e w' ⟨rfl,rfl⟩
  go_wp2
  go_ret
  exact⟨rfl,rfl⟩
 ·go_enter Tryz.func121,Tryz.ntmps121
  go_wp2_with fail
  refine(has_caps b _).mono ?_
  rintro e w' ⟨rfl,rfl⟩
  go_wp2
  go_ret
  exact⟨rfl,rfl⟩
set_option maxHeartbeats 400000 in
theorem ris_2 (b:Int) (w:World):Calls Tryz.prog 121 #[.int .i64 2,.int .u8 b] w fun e w'=>e=.returned (.bool (r2 b))∧w'=w:=by
 go_enter Tryz.func121,Tryz.ntmps121
 go_wp2_with fail
 refine(has_digs b _).mono ?_
 rintro e w' ⟨rfl,rfl⟩
 go_wp2
 go_ret
 exact⟨rfl,rfl⟩
set_option maxHeartbeats 400000 in
theorem ris_3 (b:Int) (w:World):Calls Tryz.prog 121 #[.int .i64 3,.int .u8 b] w fun e w'=>e=.returned (.bool (r3 b))∧w'=w:=by
 unfold r3;cases h:r1 b
 ·go_enter Tryz.func121,Tryz.ntmps121
  go_wp2_with fail
  refine(ris_1 b _).mono ?_
  rintro e w' ⟨rfl,rfl⟩
  go_wp2_with fail
  refine(ris_2 b _).mono ?_
  rintro e w' ⟨rfl,rfl⟩
  go_wp2
  go_ret
  exact⟨rfl,rfl⟩
 ·go_enter Tryz.func121,Tryz.ntmps121
  go_wp2_with fail
  refine(ris_1 b _).mono ?_
  rintro e w' ⟨rfl,rfl⟩
  go_wp2
  go_ret
  exact⟨rfl,rfl⟩
set_option maxHeartbeats 400000 in
theorem ris_5 (b:Int) (w:World):Calls Tryz.prog 121 #[.int .i64 5,.int .u8 b] w fun e w'=>e=.returned (.bool (r3 b||hasB sgns b))∧w'=w:=by
 cases h:r3 b
 ·go_enter Tryz.func121,Tryz.ntmps121
  go_wp2_with fail
  refine(ris_3 b _).mono ?_
  rintro e w' ⟨rfl,rfl⟩
  go_wp2_with fail
  refine(has_sgns b _).mono ?_
  rintro e w' ⟨rfl,rfl⟩
  go_wp2
  go_ret
  exact⟨rfl,rfl⟩
 ·go_enter Tryz.func121,Tryz.ntmps121
  go_wp2_with fail
  refine(ris_3 b _).mono ?_
  rintro e w' ⟨rfl,rfl⟩
  go_wp2
  go_ret
  exact⟨rfl,rfl⟩
set_option maxHeartbeats 400000 in
theorem ris_6 (b:Int) (w:World):Calls Tryz.prog 121 #[.int .i64 6,.int .u8 b] w fun e w'=>e=.returned (.bool (decide (b=32)||s6 b))∧w'=w:=by
 by_cases h:b=32
 ·rw[decide_eq_true h,Bool.true_or]
  go_enter Tryz.func121,Tryz.ntmps121
  go_wp2
  go_ret
  exact⟨rfl,rfl⟩
 ·rw[decide_eq_false h,Bool.false_or]
  have hb:(b==32)=false:=by simpa using h
  go_enter Tryz.func121,Tryz.ntmps121
  go_wp2_with fail
  refine(shown_6 b _).mono ?_
  rintro e w' ⟨rfl,rfl⟩
  go_wp2
  go_ret
  exact⟨rfl,rfl⟩
theorem at5_fin:∀b:Fin 256,(r3 ((UInt8.ofNat b.val).toNat:Int)||hasB sgns ((UInt8.ofNat b.val).toNat:Int))=(ldB (UInt8.ofNat b.val)||[33,35,36,37,38,39,42,43,45,47,61,63,94,95,96,123,124,125,126].contains (UInt8.ofNat b.val)):=by decide+kernel
theorem qt6_fin:∀b:Fin 256,(decide (((UInt8.ofNat b.val).toNat:Int)=32)||s6 ((UInt8.ofNat b.val).toNat:Int))=(decide (32≤(UInt8.ofNat b.val).toNat)&&decide ((UInt8.ofNat b.val).toNat≤126)&&!decide (UInt8.ofNat b.val=34)&&!decide (UInt8.ofNat b.val=92)):=by decide+kernel
def at5 (c:UInt8):Bool:=ldB c||[33,35,36,37,38,39,42,43,45,47,61,63,94,95,96,123,124,125,126].contains c
def qt6 (c:UInt8):Bool:=decide (32≤c.toNat)&&decide (c.toNat≤126)&&!decide (c=34)&&!decide (c=92)
theorem ris_at (c:UInt8) (w:World):Calls Tryz.prog 121 #[.int .i64 5,.int .u8 (c.toNat:Int)] w fun e w'=>e=.returned (.bool (at5 c))∧w'=w:=by
 have e:(r3 (c.toNat:Int)||hasB sgns (c.toNat:Int))=at5 c:=of_fin (P:=fun c=>(r3 (c.toNat:Int)||hasB sgns (c.toNat:Int))=at5 c) at5_fin c
 rw[←e]
 exact ris_5 _ w
theorem ris_qt (c:UInt8) (w:World):Calls Tryz.prog 121 #[.int .i64 6,.int .u8 (c.toNat:Int)] w fun e w'=>e=.returned (.bool (qt6 c))∧w'=w:=by
 have e:(decide ((c.toNat:Int)=32)||s6 (c.toNat:Int))=qt6 c:=of_fin (P:=fun c=>(decide ((c.toNat:Int)=32)||s6 (c.toNat:Int))=qt6 c) qt6_fin c
 rw[←e]
 exact ris_6 _ w
theorem atB_is (c:UInt8):atB c=(at5 c||decide (128≤c.toNat)):=rfl
theorem qtB_is (c:UInt8):qtB c=(qt6 c||decide (128≤c.toNat)):=rfl
open Go.RowKit
set_option maxHeartbeats 1000000 in
theorem qat_any (c:UInt8) (w:World):Calls Tryz.prog 122 #[.int .u8 (c.toNat:Int)] w fun e w'=>e=.returned (.bool (atB c))∧w'=w:=by
 rw[atB_is]
 have HI:Hid (Calls Tryz.prog 121 #[.int .i64 5,.int .u8 (c.toNat:Int)] w fun e w'=>e=.returned (.bool (at5 c))∧w'=w):=ris_at c w
 obtain⟨x,hx⟩:∃x,x=at5 c:=⟨_,rfl⟩
 rw[←hx]at HI ⊢
 clear hx
 cases x
 ·by_cases h:128≤c.toNat
  ·have h':(127:Int)<(c.toNat:Int):=by omega
   rw[decide_eq_true h]
   clear h
   go_enter Tryz.func122,Tryz.ntmps122
   go_wp2_with fail
   refine HI.out.mono ?_
   rintro e w1 ⟨rfl,rfl⟩
   go_wp2_with fail
   go_ret
   exact⟨rfl,rfl⟩
  ·have h':¬(127:Int)<(c.toNat:Int):=by omega
   rw[decide_eq_false h]
   clear h
   go_enter Tryz.func122,Tryz.ntmps122
   go_wp2_with fail
   refine HI.out.mono ?_
   rintro e w1 ⟨rfl,rfl⟩
   go_wp2_with fail
   go_ret
   exact⟨by show Ending.returned (Value.bool (decide ((127:Int)<(c.toNat:Int))))=_;rw[decide_eq_false (by omega)];rfl,rfl⟩
 ·go_enter Tryz.func122,Tryz.ntmps122
  go_wp2_with fail
  refine HI.out.mono ?_
  rintro e w1 ⟨rfl,rfl⟩
  go_wp2_with fail
  go_ret
  exact⟨rfl,rfl⟩
structure RwE (s:ByteArray) (R a e:Nat):Prop where
 ge:a≤e
 le:e≤s.size
 is:R=rowG e e (decide (a<e)) (s.data.toList.drop e)
 no:a<e→∀h:e<s.size,atB s[e]=false
structure RwK (s:ByteArray) (R e f k:Nat):Prop where
 fk:f≤k
 le:k≤s.size
 is:(k=f∧R=rowG e f false (s.data.toList.drop f))∨(f<k∧R=rowG k k true (s.data.toList.drop k))
theorem drop_at (s:ByteArray) (k:Nat) (h:k<s.size):s.data.toList.drop k=s[k]::s.data.toList.drop (k+1):=by
 rw[List.drop_eq_getElem_cons (by rw[len_list];exact h),get_list]
theorem drop_past (s:ByteArray) (k:Nat) (h:s.size≤k):s.data.toList.drop k=[]:=List.drop_eq_nil_of_le (by rw[len_list];exact h)
theorem RwE.start (s:ByteArray) (a:Nat) (ha:a≤s.size):RwE s (a+rowL (s.data.toList.drop a)) a a:=
 ⟨Nat.le_refl _,ha,by
  have:=rowG_shift a (s.data.toList.drop a) 0 0 false
  rw[decide_eq_false (Nat.lt_irrefl a)]
  rw[Nat.zero_add]at this
  unfold rowL
  omega,fun h=>absurd h (Nat.lt_irrefl a)⟩
theorem RwE.stop {s:ByteArray} {R a e:Nat} (h:RwE s R a e) (hae:a<e) (hc:∀h:e<s.size,s[e]≠46):R=e:=by
 have h1:=h.is
 rw[decide_eq_true hae]at h1
 rcases Nat.lt_or_ge e s.size with hl|hl
 ·rw[drop_at s e hl,rowG,if_neg (by rw[h.no hae hl];decide),if_neg (fun x=>hc hl x.1)]at h1
  exact h1
 ·rw[drop_past s e hl,rowG]at h1
  exact h1
theorem RwE.dot {s:ByteArray} {R a e:Nat} (h:RwE s R a e) (hae:a<e) (hl:e<s.size) (hc:s[e]=46):RwK s R e (e+1) (e+1):=
 ⟨Nat.le_refl _,hl,.inl ⟨rfl,by
  have h1:=h.is
  rw[decide_eq_true hae,drop_at s e hl,rowG,if_neg (by rw[h.no hae hl];decide),if_pos ⟨hc,rfl⟩]at h1
  exact h1⟩⟩
theorem RwE.first {s:ByteArray} {R a:Nat} (h:RwE s R a a):RwK s R a a a:=
 ⟨Nat.le_refl _,h.le,.inl ⟨rfl,by
  have h1:=h.is
  rw[decide_eq_false (Nat.lt_irrefl a)]at h1
  exact h1⟩⟩
theorem RwK.step {s:ByteArray} {R e f k:Nat} (h:RwK s R e f k) (hl:k<s.size) (hc:atB s[k]=true):RwK s R e f (k+1):=
 ⟨by have:=h.fk;omega,hl,.inr ⟨by have:=h.fk;omega,by
  rcases h.is with⟨rfl,h1⟩|⟨_,h1⟩
  ·rw[drop_at s k hl,rowG,if_pos hc]at h1
   exact h1
  ·rw[drop_at s k hl,rowG,if_pos hc]at h1
   exact h1⟩⟩
theorem RwK.none {s:ByteArray} {R e f:Nat} (h:RwK s R e f f) (hc:∀h:f<s.size,atB s[f]=false):R=e:=by
 rcases h.is with⟨_,h1⟩|⟨h0,_⟩
 ·rcases Nat.lt_or_ge f s.size with hl|hl
  ·rw[drop_at s f hl,rowG,if_neg (by rw[hc hl];decide),if_neg (by simp)]at h1
   exact h1
  ·rw[drop_past s f hl,rowG]at h1
   exact h1
 ·exact absurd h0 (Nat.lt_irrefl f)
theorem RwK.out {s:ByteArray} {R a e f k:Nat} (h:RwK s R e f k) (ha:a≤e) (he:e≤f) (hk:f<k) (hc:∀h:k<s.size,atB s[k]=false):RwE s R a k:=
 ⟨by omega,h.le,by
  rw[decide_eq_true (by omega)]
  rcases h.is with⟨h0,_⟩|⟨_,h1⟩
  ·omega
  ·exact h1,fun _=>hc⟩
set_option maxHeartbeats 8000000 in
set_option maxRecDepth 100000 in
theorem qrow_any (s:ByteArray) (a:Nat) (ha:a≤s.size) (hs:s.size≤maxLen) (w:World):Calls Tryz.prog 89 #[.string s,.int .i64 (a:Nat)] w fun e w'=>e=.returned (.int .i64 (a+rowL (s.data.toList.drop a):Nat))∧w'=w:=by
 unfold maxLen at hs
 have HA:Hid (∀c:UInt8,∀w:World,Calls Tryz.prog 122 #[.int .u8 (c.toNat:Int)] w fun e w'=>e=.returned (.bool (atB c))∧w'=w):=qat_any
 have HS0:=RwE.start s a ha
 generalize a+rowL (s.data.toList.drop a)=R at HS0
 go_enter Tryz.func89,Tryz.ntmps89
 go_wp2_with fail
 go_loopw [5] (fun c wr=>∃e:Nat,a≤e∧e≤s.size∧c=.int .i64 e∧Hid (RwE s R a e)∧Hid (wr=w)) (fun c _=>s.size - (intOf c).toNat)
 case atStart=>exact⟨a,Nat.le_refl _,ha,rfl,HS0,rfl⟩
 case round=>
  obtain⟨e,hae,hes,rfl,HE,HV⟩:=hrel
  obtain rfl:w=wr:=HV.out.symm
  clear HV HS0
  by_cases h1:a<e
  ·have h1':(a:Int)<(e:Int):=by omega
   by_cases h2:∃h:e<s.size,s[e]=46
   ·obtain⟨hl,hc⟩:=h2
    obtain⟨_,n46⟩:=b_eq s[e] 46 46 rfl
    rw[decide_eq_true hc]at n46
    have hl':¬(s.size:Int)≤(e:Int):=by omega
    have HK0:Hid (RwK s R e (e+1) (e+1)):=HE.out.dot h1 hl hc
    clear hc HE
    go_wp2_with fail
    go_loopw [6] (fun c wr=>∃k:Nat,e+1≤k∧k≤s.size∧c=.int .i64 k∧Hid (RwK s R e (e+1) k)∧Hid (wr=w)) (fun c _=>s.size - (intOf c).toNat)
    case atStart=>exact⟨e+1,Nat.le_refl _,hl,by first|rfl|go_num,HK0,rfl⟩
    case round=>
     obtain⟨k,hek,hks,rfl,HK,HV⟩:=hrel
     obtain rfl:w=wr:=HV.out.symm
     clear HV HK0
     by_cases hgo:∃h:k<s.size,atB s[k]=true
     ·obtain⟨hlt,hc⟩:=hgo
      have HA1:Hid (Calls Tryz.prog 122 #[.int .u8 (s[k].toNat:Int)] w fun e w'=>e=.returned (.bool true)∧w'=w):=by
       have:=HA.out s[k] w
       rw[hc]at this
       exact this
      have hlt':(k:Int)<(s.size:Int):=by omega
      have HK2:Hid (RwK s R e (e+1) (k+1)):=HK.out.step hlt hc
      clear hc HK HA
      go_wp2_with fail
      refine HA1.out.mono ?_
      rintro e' w1 ⟨rfl,rfl⟩
      go_wp2_with fail
      go_roundw
      case rel=>exact⟨k+1,by omega,by omega,by go_num,HK2,trivial⟩
      case measure=>simp[intOf];omega
     ·have HNO:Hid (∀h:k<s.size,atB s[k]=false):=fun h=>by
       cases hq:atB s[k]with
       |false=>rfl
       |true=>exact absurd ⟨h,hq⟩ hgo
      clear hgo
      by_cases hlt:k<s.size
      ·by_cases hkf:k=e+1
       ·have hkb:((k:Int)==(e:Int)+1)=true:=by rw[beq_iff_eq];omega
        have HR:Hid (R=e):=by
         have h1:=HK.out
         have h2:=HNO.out
         subst hkf
         exact h1.none h2
        clear hkf
        have hlt':(k:Int)<(s.size:Int):=by omega
        have HA1:Hid (Calls Tryz.prog 122 #[.int .u8 (s[k].toNat:Int)] w fun e w'=>e=.returned (.bool false)∧w'=w):=by
         have:=HA.out s[k] w
         rw[HNO.out hlt]at this
         exact this
        clear HNO HA HK
        go_wp2_with fail
        refine HA1.out.mono ?_
        rintro e' w1 ⟨rfl,rfl⟩
        go_wp2_with fail
        go_ret
        exact⟨by rw[HR.out];rfl,rfl⟩
       ·have hkb:((k:Int)==(e:Int)+1)=false:=by rw[beq_eq_false_iff_ne];omega
        have HR:Hid (RwE s R a k):=HK.out.out hae (by omega) (by omega) HNO.out
        have hlt':(k:Int)<(s.size:Int):=by omega
        have HA1:Hid (Calls Tryz.prog 122 #[.int .u8 (s[k].toNat:Int)] w fun e w'=>e=.returned (.bool false)∧w'=w):=by
         have:=HA.out s[k] w
         rw[HNO.out hlt]at this
         exact this
        clear HNO HA HK
        go_wp2_with fail
        refine HA1.out.mono ?_
        rintro e' w1 ⟨rfl,rfl⟩
        go_wp2_with fail
        go_roundw
        case rel=>exact⟨k,by omega,hks,by first|rfl|go_num,HR,trivial⟩
        case measure=>simp[intOf];omega
      ·by_cases hkf:k=e+1
       ·have hkb:((k:Int)==(e:Int)+1)=true:=by rw[beq_iff_eq];omega
        have HR:Hid (R=e):=by
         have h1:=HK.out
         have h2:=HNO.out
         subst hkf
         exact h1.none h2
        clear hkf
        have hlt':¬(k:Int)<(s.size:Int):=by omega
        clear HNO HA HK
        go_wp2_with fail
        go_ret
        exact⟨by rw[HR.out];rfl,rfl⟩
       ·have hkb:((k:Int)==(e:Int)+1)=false:=by rw[beq_eq_false_iff_ne];omega
        have HR:Hid (RwE s R a k):=HK.out.out hae (by omega) (by omega) HNO.out
        have hlt':¬(k:Int)<(s.size:Int):=by omega
        clear HNO HA HK
        go_wp2_with fail
        go_roundw
        case rel=>exact⟨k,by omega,hks,by first|rfl|go_num,HR,trivial⟩
        case measure=>simp[intOf];omega
   ·have HR:Hid (R=e):=HE.out.stop h1 fun h hc=>h2 ⟨h,hc⟩
    by_cases hl:e<s.size
    ·have hl':¬(s.size:Int)≤(e:Int):=by omega
     obtain⟨_,n46⟩:=b_eq s[e] 46 46 rfl
     rw[decide_eq_false (fun hc=>h2 ⟨hl,hc⟩)]at n46
     clear h2 HE HA
     go_wp2_with fail
     go_ret
     exact⟨by rw[HR.out];rfl,rfl⟩
    ·have hl':(s.size:Int)≤(e:Int):=by omega
     clear h2 HE HA
     go_wp2_with fail
     go_ret
     exact⟨by rw[HR.out];rfl,rfl⟩
  ·have h1':¬(a:Int)<(e:Int):=by omega
   have HK0:Hid (RwK s R e e e):=by
    have hq:e=a:=by omega
    have h2:=HE.out
    subst hq
    exact h2.first
   clear HE
   go_wp2_with fail
   go_loopw [6] (fun c wr=>∃k:Nat,e≤k∧k≤s.size∧c=.int .i64 k∧Hid (RwK s R e (e) k)∧Hid (wr=w)) (fun c _=>s.size - (intOf c).toNat)
   case atStart=>exact⟨e,Nat.le_refl _,hes,by first|rfl|go_num,HK0,rfl⟩
   case round=>
    obtain⟨k,hek,hks,rfl,HK,HV⟩:=hrel
    obtain rfl:w=wr:=HV.out.symm
    clear HV HK0
    by_cases hgo:∃h:k<s.size,atB s[k]=true
    ·obtain⟨hlt,hc⟩:=hgo
     have HA1:Hid (Calls Tryz.prog 122 #[.int .u8 (s[k].toNat:Int)] w fun e w'=>e=.returned (.bool true)∧w'=w):=by
      have:=HA.out s[k] w
      rw[hc]at this
      exact this
     have hlt':(k:Int)<(s.size:Int):=by omega
     have HK2:Hid (RwK s R e (e) (k+1)):=HK.out.step hlt hc
     clear hc HK HA
     go_wp2_with fail
     refine HA1.out.mono ?_
     rintro e' w1 ⟨rfl,rfl⟩
     go_wp2_with fail
     go_roundw
     case rel=>exact⟨k+1,by omega,by omega,by go_num,HK2,trivial⟩
     case measure=>simp[intOf];omega
    ·have HNO:Hid (∀h:k<s.size,atB s[k]=false):=fun h=>by
      cases hq:atB s[k]with
      |false=>rfl
      |true=>exact absurd ⟨h,hq⟩ hgo
     clear hgo
     by_cases hlt:k<s.size
     ·by_cases hkf:k=e
      ·have hkb:((k:Int)==(e:Int))=true:=by rw[beq_iff_eq];omega
       have HR:Hid (R=e):=by
        have h1:=HK.out
        have h2:=HNO.out
        subst hkf
        exact h1.none h2
       clear hkf
       have hlt':(k:Int)<(s.size:Int):=by omega
       have HA1:Hid (Calls Tryz.prog 122 #[.int .u8 (s[k].toNat:Int)] w fun e w'=>e=.returned (.bool false)∧w'=w):=by
        have:=HA.out s[k] w
        rw[HNO.out hlt]at this
        exact this
       clear HNO HA HK
       go_wp2_with fail
       refine HA1.out.mono ?_
       rintro e' w1 ⟨rfl,rfl⟩
       go_wp2_with fail
       go_ret
       exact⟨by rw[HR.out];rfl,rfl⟩
      ·have hkb:((k:Int)==(e:Int))=false:=by rw[beq_eq_false_iff_ne];omega
       have HR:Hid (RwE s R a k):=HK.out.out hae (by omega) (by omega) HNO.out
       have hlt':(k:Int)<(s.size:Int):=by omega
       have HA1:Hid (Calls Tryz.prog 122 #[.int .u8 (s[k].toNat:Int)] w fun e w'=>e=.returned (.bool false)∧w'=w):=by
        have:=HA.out s[k] w
        rw[HNO.out hlt]at this
        exact this
       clear HNO HA HK
       go_wp2_with fail
       refine HA1.out.mono ?_
       rintro e' w1 ⟨rfl,rfl⟩
       go_wp2_with fail
       go_roundw
       case rel=>exact⟨k,by omega,hks,by first|rfl|go_num,HR,trivial⟩
       case measure=>simp[intOf];omega
     ·by_cases hkf:k=e
      ·have hkb:((k:Int)==(e:Int))=true:=by rw[beq_iff_eq];omega
       have HR:Hid (R=e):=by
        have h1:=HK.out
        have h2:=HNO.out
        subst hkf
        exact h1.none h2
       clear hkf
       have hlt':¬(k:Int)<(s.size:Int):=by omega
       clear HNO HA HK
       go_wp2_with fail
       go_ret
       exact⟨by rw[HR.out];rfl,rfl⟩
      ·have hkb:((k:Int)==(e:Int))=false:=by rw[beq_eq_false_iff_ne];omega
       have HR:Hid (RwE s R a k):=HK.out.out hae (by omega) (by omega) HNO.out
       have hlt':¬(k:Int)<(s.size:Int):=by omega
       clear HNO HA HK
       go_wp2_with fail
       go_roundw
       case rel=>exact⟨k,by omega,hks,by first|rfl|go_num,HR,trivial⟩
       case measure=>simp[intOf];omega
open Go.RowKit
def txt (l:List UInt8):ByteArray:=⟨l.toArray⟩
theorem txt_size (l:List UInt8):(txt l).size=l.length:=List.size_toArray ..
theorem txt_cat (x y:List UInt8):txt x++txt y=txt (x++y):=by
 apply ByteArray.ext
 rw[ByteArray.data_append]
 show x.toArray++y.toArray=(x++y).toArray
 simp
theorem txt_back (s:ByteArray):txt s.data.toList=s:=by
 show(⟨s.data.toList.toArray⟩:ByteArray)=s
 rw[Array.toArray_toList]
theorem txt_list (l:List UInt8):(txt l).data.toList=l:=by simp[txt]
open Go.RowKit
theorem results_vvc {P:Program} {fn:Func} {p q r:Tmp} {ty:TypeId} (h:fn.results=#[.tmp p,.tmp q,.cell r ty]) (tmps:Array Value) (w:World) (g:Nat) (cs:Array Value) (d:TypeDesc) (v1 v2:Value) (hp:tmps.getD p undef=v1) (hq:tmps.getD q undef=v2) (hr:tmps.getD r undef=.pointer (some ⟨g,0,none⟩)) (hg:Lies w g cs ty)
  (hu:P.underlying ty=some d) (ha:(match d with| .struct _| .array _ _=>true|_=>false)=true) (hz:(P.info? ty).map (·.size)=some cs.size):(results fn tmps).run P w=.ok (.tuple #[v1,v2,.agg cs]) w:=by
 have hp':tmps[p]?.getD undef=v1:=by simpa using hp
 have hq':tmps[q]?.getD undef=v2:=by simpa using hq
 have hr':tmps[r]?.getD undef=.pointer (some ⟨g,0,none⟩):=by simpa using hr
 simp[results,h,hp',hq',hr',asAddr,run_loadVar_row w g ty ty cs (0,0) d hg hu ha hz]
theorem conv_own {w:World} {B:Nat} {v:Value} {l:List UInt8} (h:w.ownsRow B 5 1 v l.length (cellsB l)):(convert 98 9 v).run Tryz.prog w=.ok (.string (txt l)) w:=by
 obtain⟨a,cap,rfl,hb,_⟩:=own_bts h
 exact bts_back hb cap
def qtV (mark:Nat):Except (Option Nat) (List UInt8×Nat)→Value
 | .ok (m,n)=>.tuple #[.string (txt m),.int .i64 (n:Nat),.agg #[.int .i64 0,.int .i64 0]]
 | .error none=>.tuple #[.string ⟨#[]⟩,.int .i64 0,.agg #[.int .i64 91,.int .i64 (mark:Nat)]]
 | .error (some p)=>.tuple #[.string ⟨#[]⟩,.int .i64 0,.agg #[.int .i64 90,.int .i64 (p:Nat)]]
def preA (acc:List UInt8):Except (Option Nat) (List UInt8×Nat)→Except (Option Nat) (List UInt8×Nat)
 | .ok (m,n)=>.ok (acc++m,n)
 | .error e=>.error e
theorem preA_pre (acc:List UInt8) (c:UInt8) (x:Except (Option Nat) (List UInt8×Nat)):preA acc (preQ c x)=preA (acc++[c]) x:=by
 match x with
 | .ok (m,n)=>simp[preA,preQ]
 | .error e=>rfl
theorem preA_nil (x:Except (Option Nat) (List UInt8×Nat)):x=preA [] x:=by
 match x with
 | .ok (m,n)=>rfl
 | .error e=>rfl
set_option maxHeartbeats 8000000 in
set_option maxRecDepth 100000 in
theorem qquoted_any (s:ByteArray) (mark:Nat) (hm:mark<s.size) (hs:s.size≤140737488351232) (w:World):
  Calls Tryz.prog 88 #[.string s,.int .i64 (mark:Nat)] w fun e w'=>e=.returned (qtV mark (qtM (mark+1) false (s.data.toList.drop (mark+1))))∧Below w.heap.size w w':=by
 have HI:Hid (∀c:UInt8,∀w:World,Calls Tryz.prog 121 #[.int .i64 6,.int .u8 (c.toNat:Int)] w fun e w'=>e=.returned (.bool (qt6 c))∧w'=w):=ris_qt
 obtain⟨X,hX⟩:∃X,X=qtM (mark+1) false (s.data.toList.drop (mark+1)):=⟨_,rfl⟩
 rw[←hX]
 have HX0:Hid (X=preA [] (qtM (mark+1) false (s.data.toList.drop (mark+1)))):=by show _=_;rw[hX];exact preA_nil _
 clear hX
 have HL0:Hid (Lies (w.alloc (.cells #[.int .i64 0,.int .i64 0] 32)) w.heap.size #[.int .i64 0,.int .i64 0] 32):=Lies.new w _ _
 have HK0:Hid (Below w.heap.size w (w.alloc (.cells #[.int .i64 0,.int .i64 0] 32))):=(Below.refl _ _).alloc (Nat.le_refl _) _
 go_enter Tryz.func88,Tryz.ntmps88
 go_upto_region 1 with fail
 generalize w.alloc (.cells #[.int .i64 0,.int .i64 0] 32)=v0 at HL0 HK0 ⊢
 go_wp2_with fail
 go_loopw [7,8] (fun u c wr=>∃(i:Nat) (acc:List UInt8),mark+1≤i∧i≤s.size∧c=.int .i64 i∧acc.length≤i∧Hid (wr.ownsRow v0.heap.size 5 1 u acc.length (cellsB acc))∧Hid (Below v0.heap.size v0 wr)∧Hid (X=preA acc (qtM i false (s.data.toList.drop i)))) (fun _ c _=>s.size - (intOf c).toNat)
 case atStart=>exact⟨mark+1,[],Nat.le_refl _,hm,by go_num,Nat.zero_le _,⟨rfl,.inl ⟨rfl,rfl⟩⟩,Below.refl _ _,HX0⟩
 case round=>
  obtain⟨i,acc,hmi,hi,rfl,hacc,HO,HB,HX⟩:=hrel
  have HL:Hid (Lies wr w.heap.size #[.int .i64 0,.int .i64 0] 32):=HL0.out.below HB.out HL0.out.lt
  have KB:Hid (Below w.heap.size w wr):=HK0.out.trans (HB.out.mono HK0.out.size)
  clear HX0
  by_cases hlt:i<s.size
  ·have hlt':(i:Int)<(s.size:Int):=by omega
   have HD:Hid (s.data.toList.drop i=s[i]::s.data.toList.drop (i+1)):=drop_at s i hlt
   obtain⟨e34,_⟩:=b_eq s[i] 34 34 rfl
   obtain⟨e92,_⟩:=b_eq s[i] 92 92 rfl
   by_cases h34:s[i]=34
   ·have HXX:Hid (X=.ok (acc,i+1)):=by
     show _=_
     rw[HX.out,HD.out,qtM,if_pos h34,preA,List.append_nil]
    rw[decide_eq_true h34]at e34
    have hcv:=conv_own HO.out
    clear h34 e92 HX HI HD
    go_wp2_with (refine wpList_store_row rfl 32 _ _ rfl w.heap.size rfl _ #[.int .i64 0,.int .i64 0] rfl 32 HL.out infoSp rfl (by simp[Value.oneCell']) rfl ?_)
    refine bodyPost_ret (results_vvc (p:=4) (q:=5) (r:=6) (by kernel_rfl) _ _ w.heap.size #[.int .i64 0,.int .i64 0] _ (.string (txt acc)) (.int .i64 ((i:Int)+1)) rfl rfl rfl (HL.out.row _) Tryz.underlying32 rfl infoSp) rfl ⟨by rw[HXX.out,qtV]<;>rfl,below_row KB.out (Nat.le_refl _) _⟩
   ·rw[decide_eq_false h34]at e34
    by_cases h92:s[i]=92
    ·rw[decide_eq_true h92]at e92
     by_cases hend:i+1=s.size
     ·have HXX:Hid (X=.error none):=by
       show _=_
       rw[HX.out,HD.out,qtM,if_neg h34,if_pos h92,drop_past s (i+1) (by omega),qtM,preA]
      have hendb:((i:Int)+1==(s.size:Int))=true:=by rw[beq_iff_eq];omega
      clear h34 h92 HX HI HD HO HB hend
      go_wp2_with (refine wpList_store_row rfl 32 _ _ rfl w.heap.size rfl _ #[.int .i64 91,.int .i64 (mark:Int)] rfl 32 HL.out infoSp rfl (by simp[Value.oneCell']) rfl ?_)
      refine bodyPost_ret (results_vvc (p:=4) (q:=5) (r:=6) (by kernel_rfl) _ _ w.heap.size #[.int .i64 91,.int .i64 (mark:Int)] _ (.string ⟨#[]⟩) (.int .i64 0) rfl rfl rfl (HL.out.row _) Tryz.underlying32 rfl infoSp) rfl ⟨by rw[HXX.out,qtV]<;>rfl,below_row KB.out (Nat.le_refl _) _⟩
     ·have hendb:((i:Int)+1==(s.size:Int))=false:=by rw[beq_eq_false_iff_ne];omega
      have hl1:i+1<s.size:=by omega
      have hl1':(i:Int)+1<(s.size:Int):=by omega
      have HD1:Hid (s.data.toList.drop (i+1)=s[i+1]::s.data.toList.drop (i+2)):=drop_at s (i+1) hl1
      by_cases hsh:shB s[i+1]=true
      ·have HXX:Hid (X=preA (acc++[s[i+1]]) (qtM (i+2) false (s.data.toList.drop (i+2)))):=by
        show _=_
        rw[HX.out,HD.out,qtM,if_neg h34,if_pos h92,HD1.out,qtM,if_pos hsh,preA_pre]
       have hq:=hsh
       unfold shB at hq
       rw[Bool.and_eq_true,decide_eq_true_eq,decide_eq_true_eq]at hq
       have g1:¬(s[i+1].toNat:Int)<32:=by omega
       have g2:¬(126:Int)<(s[i+1].toNat:Int):=by omega
       clear h34 h92 HX HI HD HD1 hend hsh hq
       go_wp2_with (at_builtin;refine wpList_append_byte rfl _ _ rfl v0.heap.size u7 acc.length acc rfl (HO.out.alloc _) wr s[i+1] _ rfl rfl 1 rfl (by omega) HB.out.size ?_;intro v3 w3 hown3 hbel3)
       have HB3:Hid (Below v0.heap.size v0 w3):=hbel3 _ _ HB.out (Nat.le_refl _)
       have HO3:Hid (w3.ownsRow v0.heap.size 5 1 v3 (acc++[s[i+1]]).length (cellsB (acc++[s[i+1]]))):=by
        show World.ownsRow _ _ _ _ _ _ _
        rw[List.length_append,List.length_singleton]
        exact hown3
       clear hown3 hbel3 HO HB HL KB
       go_wp2_with fail
       go_roundw
       case rel=>exact⟨i+2,acc++[s[i+1]],by omega,by omega,by go_num,by simp only[List.length_append,List.length_singleton];omega,HO3,HB3,HXX⟩
       case measure=>simp[intOf];omega
      ·have HXX:Hid (X=.error (some i)):=by
        show _=_
        rw[HX.out,HD.out,qtM,if_neg h34,if_pos h92,HD1.out,qtM,if_neg hsh,preA]
        rfl
       by_cases g1:s[i+1].toNat<32
       ·have g1':(s[i+1].toNat:Int)<32:=by omega
        clear h34 h92 HX HI HD HD1 hend hsh HO HB g1
        go_wp2_with (refine wpList_store_row rfl 32 _ _ rfl w.heap.size rfl _ #[.int .i64 90,.int .i64 (i:Int)] rfl 32 HL.out infoSp rfl (by simp[Value.oneCell']) rfl ?_)
        refine bodyPost_ret (results_vvc (p:=4) (q:=5) (r:=6) (by kernel_rfl) _ _ w.heap.size #[.int .i64 90,.int .i64 (i:Int)] _ (.string ⟨#[]⟩) (.int .i64 0) rfl rfl rfl (HL.out.row _) Tryz.underlying32 rfl infoSp) rfl ⟨by rw[HXX.out,qtV]<;>rfl,below_row KB.out (Nat.le_refl _) _⟩
       ·have g1':¬(s[i+1].toNat:Int)<32:=by omega
        have g2':(126:Int)<(s[i+1].toNat:Int):=by
         rcases Nat.lt_or_ge 126 s[i+1].toNat with h|h
         ·omega
         ·exfalso
          apply hsh
          unfold shB
          rw[decide_eq_true (by omega),decide_eq_true h]
          rfl
        clear h34 h92 HX HI HD HD1 hend hsh HO HB g1
        go_wp2_with (refine wpList_store_row rfl 32 _ _ rfl w.heap.size rfl _ #[.int .i64 90,.int .i64 (i:Int)] rfl 32 HL.out infoSp rfl (by simp[Value.oneCell']) rfl ?_)
        refine bodyPost_ret (results_vvc (p:=4) (q:=5) (r:=6) (by kernel_rfl) _ _ w.heap.size #[.int .i64 90,.int .i64 (i:Int)] _ (.string ⟨#[]⟩) (.int .i64 0) rfl rfl rfl (HL.out.row _) Tryz.underlying32 rfl infoSp) rfl ⟨by rw[HXX.out,qtV]<;>rfl,below_row KB.out (Nat.le_refl _) _⟩
    ·rw[decide_eq_false h92]at e92
     have HI1:=HI.out s[i] wr
     obtain⟨x6,h6⟩:∃x,x=qt6 s[i]:=⟨_,rfl⟩
     have HQB:Hid (qtB s[i]=(x6||decide (128≤s[i].toNat))):=by show _=_;rw[qtB_is,h6]
     rw[←h6]at HI1
     have HI2:Hid (Calls Tryz.prog 121 #[.int .i64 6,.int .u8 (s[i].toNat:Int)] wr fun e w'=>e=.returned (.bool x6)∧w'=wr):=HI1
     clear HI1 h6
     have HYES:Hid (qtB s[i]=true→X=preA (acc++[s[i]]) (qtM (i+1) false (s.data.toList.drop (i+1)))):=fun h=>by
      rw[HX.out,HD.out,qtM,if_neg h34,if_neg h92,if_pos h,preA_pre]
     have HNO:Hid (qtB s[i]=false→X=.error (some i)):=fun h=>by
      rw[HX.out,HD.out,qtM,if_neg h34,if_neg h92,if_neg (by rw[h];decide),preA]
     clear HX HD h34 h92 HI
     cases x6
     ·by_cases g:128≤s[i].toNat
      ·have g':¬(s[i].toNat:Int)<128:=by omega
       have HXX:Hid (X=preA (acc++[s[i]]) (qtM (i+1) false (s.data.toList.drop (i+1)))):=HYES.out (by rw[HQB.out,decide_eq_true g];rfl)
       clear HYES HNO HQB g
       go_wp2_with fail
       refine HI2.out.mono ?_
       rintro e w1 ⟨rfl,rfl⟩
       clear HI2
       go_wp2_with (at_builtin;refine wpList_append_byte rfl _ _ rfl v0.heap.size u7 acc.length acc rfl (HO.out.alloc _) w1 s[i] _ rfl rfl 1 rfl (by omega) HB.out.size ?_;intro v3 w3 hown3 hbel3)
       have HB3:Hid (Below v0.heap.size v0 w3):=hbel3 _ _ HB.out (Nat.le_refl _)
       have HO3:Hid (w3.ownsRow v0.heap.size 5 1 v3 (acc++[s[i]]).length (cellsB (acc++[s[i]]))):=by
        show World.ownsRow _ _ _ _ _ _ _
        rw[List.length_append,List.length_singleton]
        exact hown3
       clear hown3 hbel3 HO HB HL KB
       go_wp2_with fail
       go_roundw
       case rel=>exact⟨i+1,acc++[s[i]],by omega,by omega,by go_num,by simp only[List.length_append,List.length_singleton];omega,HO3,HB3,HXX⟩
       case measure=>simp[intOf];omega
      ·have g':(s[i].toNat:Int)<128:=by omega
       have HXX:Hid (X=.error (some i)):=HNO.out (by rw[HQB.out,decide_eq_false g];rfl)
       clear HYES HNO HQB g HO HB
       go_wp2_with fail
       refine HI2.out.mono ?_
       rintro e w1 ⟨rfl,rfl⟩
       clear HI2
       go_wp2_with (refine wpList_store_row rfl 32 _ _ rfl w.heap.size rfl _ #[.int .i64 90,.int .i64 (i:Int)] rfl 32 HL.out infoSp rfl (by simp[Value.oneCell']) rfl ?_)
       refine bodyPost_ret (results_vvc (p:=4) (q:=5) (r:=6) (by kernel_rfl) _ _ w.heap.size #[.int .i64 90,.int .i64 (i:Int)] _ (.string ⟨#[]⟩) (.int .i64 0) rfl rfl rfl (HL.out.row _) Tryz.underlying32 rfl infoSp) rfl ⟨by rw[HXX.out,qtV]<;>rfl,below_row KB.out (Nat.le_refl _) _⟩
     ·have HXX:Hid (X=preA (acc++[s[i]]) (qtM (i+1) false (s.data.toList.drop (i+1)))):=HYES.out (by rw[HQB.out];rfl)
      clear HYES HNO HQB
      go_wp2_with fail
      refine HI2.out.mono ?_
      rintro e w1 ⟨rfl,rfl⟩
      clear HI2
      go_wp2_with (at_builtin;refine wpList_append_byte rfl _ _ rfl v0.heap.size u7 acc.length acc rfl (HO.out.alloc _) w1 s[i] _ rfl rfl 1 rfl (by omega) HB.out.size ?_;intro v3 w3 hown3 hbel3)
      have HB3:Hid (Below v0.heap.size v0 w3):=hbel3 _ _ HB.out (Nat.le_refl _)
      have HO3:Hid (w3.ownsRow v0.heap.size 5 1 v3 (acc++[s[i]]).length (cellsB (acc++[s[i]]))):=by
       show World.ownsRow _ _ _ _ _ _ _
       rw[List.length_append,List.length_singleton]
       exact hown3
      clear hown3 hbel3 HO HB HL KB
      go_wp2_with fail
      go_roundw
      case rel=>exact⟨i+1,acc++[s[i]],by omega,by omega,by go_num,by simp only[List.length_append,List.length_singleton];omega,HO3,HB3,HXX⟩
      case measure=>simp[intOf];omega
  ·have hlt':¬(i:Int)<(s.size:Int):=by omega
   have HXX:Hid (X=.error none):=by
    show _=_
    rw[HX.out,drop_past s i (by omega),qtM,preA]
   clear HX HI HO HB
   go_wp2_with (refine wpList_store_row rfl 32 _ _ rfl w.heap.size rfl _ #[.int .i64 91,.int .i64 (mark:Int)] rfl 32 HL.out infoSp rfl (by simp[Value.oneCell']) rfl ?_)
   refine bodyPost_ret (results_vvc (p:=4) (q:=5) (r:=6) (by kernel_rfl) _ _ w.heap.size #[.int .i64 91,.int .i64 (mark:Int)] _ (.string ⟨#[]⟩) (.int .i64 0) rfl rfl rfl (HL.out.row _) Tryz.underlying32 rfl infoSp) rfl ⟨by rw[HXX.out,qtV]<;>rfl,below_row KB.out (Nat.le_refl _) _⟩
end Go.Proofs.YtfjpkfhbmldmfaaGreatDoor
