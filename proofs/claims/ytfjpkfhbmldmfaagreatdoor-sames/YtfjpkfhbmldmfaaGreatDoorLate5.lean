/-
  Small laws on bytes, texts and lists.
-/
import Derived.Tactics2
import Derived.Test.YtfjpkfhbmldmfaaGreatDoorBase
import Derived.Test.YtfjpkfhbmldmfaaGreatDoorChk
import Derived.WalkKit
import Derived.WalkSpells
import Derived.Below
import Derived.Deep.RegionHeld
import Derived.KernelRfl
namespace Go.Proofs.YtfjpkfhbmldmfaaGreatDoor
open Go.RowKit
theorem ext_list (s:ByteArray) (a b:Nat):(s.extract a b).data.toList=(s.data.toList.take b).drop a:=by
 simp[ByteArray.data_extract,List.drop_take]
theorem len_list (s:ByteArray):s.data.toList.length=s.size:=by rw[Array.length_toList];rfl
theorem at_list (s:ByteArray) (k:Nat) (h:k<s.size):s.data.toList[k]'(by rw[len_list];exact h)=s[k]:=rfl
open Go.RowKit
theorem Fst.lt {w:World} (h:Fst w):1<w.heap.size:=by
 obtain⟨t,fr,h⟩:=h
 exact(Array.getElem?_eq_some_iff.1 h).1
theorem Fst.below {w w':World} {B:Nat} (h:Fst w) (hb:Below B w w') (hB:1<B):Fst w':=by
 obtain⟨t,fr,h⟩:=h
 exact⟨t,fr,(hb.block _ hB).trans h⟩
theorem Fst.but {w w':World} {g:Nat} (h:Fst w) (hb:But g w w') (hne:1≠g):Fst w':=by
 have hlt:=h.lt
 obtain⟨t,fr,h⟩:=h
 exact⟨t,fr,(hb.block _ hlt hne).trans h⟩
theorem badUA_step (q:Q) (n whole:Nat) (l:List UInt8) (k:Nat) (hk:k<l.length):
  badUA q n whole (l.drop k)=match stepQ q l[k].toNat with
   |none=>whole
   |some q'=>badUA q' (n+1) (if q'.1=0 then n+1 else whole) (l.drop (k+1)):=by
 rw[List.drop_eq_getElem_cons hk]
 rfl
set_option maxHeartbeats 2000000 in
set_option maxRecDepth 100000 in
theorem ubs_any (s:ByteArray) (w:World) (hf:Fst w) (hs:s.size≤9223372036854775806):
  Calls Tryz.prog 108 #[.string s] w fun e w'=>e=.returned (.int .i64 (badU s.data.toList))∧Below w.heap.size w w':=by
 have HF:Hid (Fst w):=hf
 have hlt:=hf.lt
 clear hf
 go_enter Tryz.func108,Tryz.ntmps108
 go_wp2
 go_loopw [4,8] (fun whole i wr=>∃(k wh:Nat) (q:Q),i=.int .i64 k∧whole=.int .i64 wh∧k≤s.size∧wh≤k∧Hid (badU s.data.toList=badUA q k wh (s.data.toList.drop k))∧Hid (MSt wr w.heap.size [] 142 (some q))∧Hid (Below w.heap.size w wr)) (fun _ i _=>s.size - (intOf i).toNat)
 case atStart=>exact⟨0,0,q0,rfl,rfl,Nat.zero_le _,Nat.le_refl _,rfl,⟨0,0,0,false,Lies.new w _ 142,by omega,rfl,rfl,fun h=>absurd rfl h⟩,(Below.refl _ _).alloc (Nat.le_refl _) _⟩
 case round=>
  obtain⟨k,wh,q,rfl,rfl,hk,hwk,HE,HM,HB⟩:=hrel
  by_cases hlk:k<s.size
  ·have hlk':k<s.data.toList.length:=by rw[len_list];exact hlk
   have HS:Hid (_=_):=badUA_step q k wh s.data.toList k hlk'
   have HC:Hid (∀b:UInt8,Calls Tryz.prog 143 #[.pointer (some ⟨w.heap.size,0,none⟩),.int .u8 (b.toNat:Int)] wr fun e w'=>e=.returned (.tuple #[])∧But w.heap.size wr w'∧MSt w' w.heap.size [] 142 (stepM (some q) b.toNat)):=
    fun b=>take_any w.heap.size [] 142 (some q) b wr HM.out (HF.out.below HB.out hlt)
   rw[at_list s k hlk]at HS
   go_wp2_with fail
   refine(HC.out _).mono ?_
   rintro e w1 ⟨rfl,b1,m1⟩
   have HB1:Hid (Below w.heap.size w w1):=HB.out.trans (b1.below (Nat.le_refl _) HB.out.size)
   have HM1:Hid (MSt w1 w.heap.size [] 142 (stepM (some q) s[k].toNat)):=m1
   cases hq:stepQ q s[k].toNat with
   |none=>
    simp only[hq]at HS
    simp only[stepM,Option.bind_some,hq]at m1
    obtain⟨left,low,high,wrong,ms,ml,rfl⟩:=m1
    obtain⟨c0,c1,c2,c3⟩:=ms.cell
    simp only[List.length_nil,Nat.zero_add]at c0 c1 c2 c3
    clear ms
    have HR:Hid (badU s.data.toList=wh):=HE.out.trans HS.out
    go_wp2
    go_ret
    exact⟨ret_i64 (by rw[HR.out]),HB1.out⟩
   |some q'=>
    simp only[hq]at HS
    simp only[stepM,Option.bind_some,hq]at m1
    obtain⟨left,low,high,wrong,ms,ml,rfl,mq1,mq2⟩:=m1
    obtain⟨c0,c1,c2,c3⟩:=ms.cell
    simp only[List.length_nil,Nat.zero_add]at c0 c1 c2 c3
    simp only[stepM,Option.bind_some,hq]at HM1
    clear ms mq2
    by_cases h0:q'.1=0
    ·rw[if_pos h0]at HS
     have e0:(left==0)=true:=by simp;omega
     have HN:Hid (badU s.data.toList=badUA q' (k+1) (k+1) (s.data.toList.drop (k+1))):=HE.out.trans HS.out
     clear HE HS mq1
     go_wp2
     go_roundw
     case rel=>exact⟨k+1,k+1,q',by go_num,by go_num,by omega,by omega,HN,HM1,HB1⟩
     case measure=>simp[intOf];omega
    ·rw[if_neg h0]at HS
     have e0:(left==0)=false:=by simp;omega
     have HN:Hid (badU s.data.toList=badUA q' (k+1) wh (s.data.toList.drop (k+1))):=HE.out.trans HS.out
     clear HE HS mq1
     go_wp2
     go_roundw
     case rel=>exact⟨k+1,wh,q',by go_num,rfl,by omega,by omega,HN,HM1,HB1⟩
     case measure=>simp[intOf];omega
  ·have HR:Hid (badU s.data.toList=wh):=by
    show _=_
    rw[HE.out,List.drop_eq_nil_of_le (by rw[len_list];omega)]
    rfl
   go_wp2
   go_ret
   exact⟨ret_i64 (by rw[HR.out]),HB.out⟩
def hasB (l:List UInt8) (b:Int):Bool:=l.any fun c=>(c.toNat:Int)==b
def inPairs:List UInt8→Int→Bool
 |x::y::r,b=>(decide ((x.toNat:Int)≤b)&&decide (b≤(y.toNat:Int)))||inPairs r b
 |_,_=>false
theorem inPairs_drop (l:List UInt8) (b:Int) (k:Nat) (h:k+1<l.length):
  inPairs (l.drop k) b=((decide ((l[k].toNat:Int)≤b)&&decide (b≤(l[k+1].toNat:Int)))||inPairs (l.drop (k+2)) b):=by
 rw[List.drop_eq_getElem_cons (by omega),List.drop_eq_getElem_cons h,inPairs]
theorem inPairs_end (l:List UInt8) (b:Int) (k:Nat) (h:l.length≤k+1):inPairs (l.drop k) b=false:=by
 have hl:(l.drop k).length≤1:=by simp;omega
 match hd:l.drop k,hl with
 |[],_=>rfl
 |[_],_=>rfl
 |_::_::_,hl=>simp at hl
def classRows:List (List UInt8):=[[],[65,90,97,122],[48,57],[48,57,65,90,97,122],[48,57,65,70,97,102],[48,57,65,90,97,122,33,33,35,39,42,43,45,45,47,47,61,61,63,63,94,96,123,126],[32,33,35,91,93,126],[33,90,94,126],[33,60,62,126],[33,42,44,60,62,126],[48,57,65,90,97,122,45,45],[33,57,59,126],[9,9,32,126],[0,127],[128,255]]
def isB (cl b:Int):Bool:=if cl<0∨15≤cl then false else inPairs (classRows.getD cl.toNat []) b
def caps:List UInt8:=[65,66,67,68,69,70,71,72,73,74,75,76,77,78,79,80,81,82,83,84,85,86,87,88,89,90]
def smls:List UInt8:=[97,98,99,100,101,102,103,104,105,106,107,108,109,110,111,112,113,114,115,116,117,118,119,120,121,122]
def odigs:List UInt8:=[48,49,50,51,52,53,54,55,56,57]
def r1 (b:Int):Bool:=hasB caps b||hasB smls b
def r2 (b:Int):Bool:=hasB odigs b
def r3 (b:Int):Bool:=r1 b||r2 b
open Go.RowKit
theorem ret_bool {a b:Bool} (h:a=b):Ending.returned (.bool a)=.returned (.bool b):=by rw[h]
set_option maxHeartbeats 400000 in
theorem is_loop (c:Nat) (b:Int) (s:ByteArray) (w:World) (hc:c<15) (hs:s.size≤100) (hcell:w.cell? ⟨0,c,none⟩=some (.string s)):
  Calls Tryz.prog 105 #[.int .i64 c,.int .u8 b] w fun e w'=>e=.returned (.bool (inPairs s.data.toList b))∧w'=w:=by
 go_enter Tryz.func105,Tryz.ntmps105
 go_wp2
 go_loop [6] (fun i=>∃k:Nat,k≤s.size+1∧i=.int .i64 k∧Hid (inPairs s.data.toList b=inPairs (s.data.toList.drop k) b)) (fun i=>s.size+1 - (intOf i).toNat)
 case atStart=>exact⟨0,Nat.zero_le _,rfl,rfl⟩
 case round=>
  obtain⟨k,hk,rfl,HH⟩:=hrel
  by_cases hlt:k+1<s.size
  ·have HS:Hid (inPairs (s.data.toList.drop k) b=((decide ((s[k].toNat:Int)≤b)&&decide (b≤(s[k+1].toNat:Int)))||inPairs (s.data.toList.drop (k+2)) b)):=inPairs_drop s.data.toList b k (by simpa using hlt)
   by_cases h1:(s[k].toNat:Int)≤b
   ·by_cases h2:b≤(s[k+1].toNat:Int)
    ·go_wp2
     go_ret
     exact⟨ret_bool (by rw[HH.out,HS.out];simp[h1,h2]),rfl⟩
    ·have HN:Hid (inPairs s.data.toList b=inPairs (s.data.toList.drop (k+2)) b):=by
      show _=_
      rw[HH.out,HS.out,decide_eq_false h2,Bool.and_false,Bool.false_or]
     go_wp2
     go_round
     case rel=>exact⟨k+2,by omega,by go_num,HN⟩
     case measure=>simp[intOf];omega
   ·have HN:Hid (inPairs s.data.toList b=inPairs (s.data.toList.drop (k+2)) b):=by
     show _=_
     rw[HH.out,HS.out,decide_eq_false h1,Bool.false_and,Bool.false_or]
    go_wp2
    go_round
    case rel=>exact⟨k+2,by omega,by go_num,HN⟩
    case measure=>simp[intOf];omega
  ·go_wp2
   go_ret
   exact⟨ret_bool (by rw[HH.out,inPairs_end _ _ _ (by simp;omega)]),rfl⟩
def Table (w:World):Prop:=∀c:Nat,c<15→w.cell? ⟨0,c,none⟩=some (.string ⟨(classRows.getD c []).toArray⟩)
theorem rows_short:∀c:Fin 15,(classRows.getD c.val []).length≤100:=by decide+kernel
theorem is_out (c b:Int) (w:World) (hc:c<0∨15≤c):
  Calls Tryz.prog 105 #[.int .i64 c,.int .u8 b] w fun e w'=>e=.returned (.bool false)∧w'=w:=by
 rcases hc with hc|hc
 ·go_enter Tryz.func105,Tryz.ntmps105
  go_wp2
  go_ret
  exact⟨rfl,rfl⟩
 ·have hn:¬c<0:=by omega
  go_enter Tryz.func105,Tryz.ntmps105
  go_wp2
  go_ret
  exact⟨rfl,rfl⟩
theorem is_any (c b:Int) (w:World) (ht:Table w):
  Calls Tryz.prog 105 #[.int .i64 c,.int .u8 b] w fun e w'=>e=.returned (.bool (isB c b))∧w'=w:=by
 by_cases hc:c<0∨15≤c
 ·unfold isB
  rw[if_pos hc]
  exact is_out c b w hc
 ·obtain⟨n,rfl⟩:=Int.eq_ofNat_of_zero_le (show 0≤c by omega)
  have hn:n<15:=by omega
  have he:isB (n:Int) b=inPairs (classRows.getD n []) b:=by unfold isB;rw[if_neg hc];rfl
  rw[he]
  exact is_loop n b ⟨(classRows.getD n []).toArray⟩ w hn (by have:=rows_short ⟨n,hn⟩;simpa [ByteArray.size] using this) (ht n hn)
def badN (c:Int):List UInt8→Nat
 |[]=>0
 |b::r=>if isB c (b.toNat:Int)=true then badN c r+1 else 0
theorem badN_yes (c:Int) (l:List UInt8) (k:Nat) (h:k<l.length) (hb:isB c (l[k].toNat:Int)=true):badN c (l.drop k)=badN c (l.drop (k+1))+1:=by
 rw[List.drop_eq_getElem_cons h,badN,if_pos hb]
theorem badN_no (c:Int) (l:List UInt8) (k:Nat) (h:k<l.length) (hb:isB c (l[k].toNat:Int)=false):badN c (l.drop k)=0:=by
 rw[List.drop_eq_getElem_cons h,badN,if_neg (by rw[hb];decide)]
theorem badN_end (c:Int) (l:List UInt8) (k:Nat) (h:l.length≤k):badN c (l.drop k)=0:=by
 rw[List.drop_eq_nil_of_le h,badN]
def spanI (c:Int) (l:List UInt8) (f:Int):Int:=if f<0 then f else f+(badN c (l.drop f.toNat):Int)
theorem spanI_neg (c:Int) (l:List UInt8) (f:Int) (h:f<0):spanI c l f=f:=if_pos h
theorem spanI_nat (c:Int) (l:List UInt8) (f:Nat):spanI c l (f:Int)=(f:Int)+(badN c (l.drop f):Int):=if_neg (by omega)
theorem spanI_zero (c:Int) (l:List UInt8):spanI c l 0=(badN c l:Int):=by
 have:=spanI_nat c l 0
 simpa using this
theorem spanI_behind (c:Int) (l:List UInt8) (f:Int) (h:(l.length:Int)≤f):spanI c l f=f:=by
 obtain⟨n,rfl⟩:=Int.eq_ofNat_of_zero_le (show 0≤f by omega)
 rw[spanI_nat,badN_end _ _ _ (by omega)]
 omega
open Go.RowKit
theorem ret_i64T {a b:Int} (h:a=b):Ending.returned (.int .i64 a)=.returned (.int .i64 b):=by rw[h]
set_option maxRecDepth 100000 in
set_option maxHeartbeats 400000 in
theorem span_negT (c f:Int) (s:ByteArray) (w:World) (hf:f<0):
  Calls Tryz.prog 112 #[.int .i64 c,.string s,.int .i64 f] w fun e w'=>e=.returned (.int .i64 f)∧w'=w:=by
 go_enter Tryz.func112,Tryz.ntmps112
 go_wp2
 go_ret
 exact⟨rfl,rfl⟩
set_option maxRecDepth 100000 in
set_option maxHeartbeats 400000 in
theorem span_behindT (c f:Int) (s:ByteArray) (w:World) (hs:s.size≤maxLen) (hf:(s.size:Int)≤f):
  Calls Tryz.prog 112 #[.int .i64 c,.string s,.int .i64 f] w fun e w'=>e=.returned (.int .i64 f)∧w'=w:=by
 unfold maxLen at hs
 have hn:¬f<0:=by omega
 have hl:¬f<(s.size:Int):=by omega
 go_enter Tryz.func112,Tryz.ntmps112
 go_wp2
 refine wp_loop_rounds 1 ?_
 rw[rounds_succ]
 go_wp2
 go_ret
 exact⟨rfl,rfl⟩
set_option maxRecDepth 100000 in
set_option maxHeartbeats 400000 in
theorem span_inT (c:Int) (f:Nat) (s:ByteArray) (w:World) (ht:Table w) (hs:s.size≤maxLen) (hf:f≤s.size):
  Calls Tryz.prog 112 #[.int .i64 c,.string s,.int .i64 f] w fun e w'=>e=.returned (.int .i64 (f+badN c (s.data.toList.drop f)))∧w'=w:=by
 unfold maxLen at hs
 have HT:Hid (Table w):=ht
 clear ht
 go_enter Tryz.func112,Tryz.ntmps112
 go_wp2
 go_loop [7] (fun i=>∃m:Nat,m≤s.size∧i=.int .i64 m∧Hid (f+badN c (s.data.toList.drop f)=m+badN c (s.data.toList.drop m))) (fun i=>s.size - (intOf i).toNat)
 case atStart=>exact⟨f,hf,rfl,rfl⟩
 case round=>
  obtain⟨m,hm,rfl,HM⟩:=hrel
  by_cases hlt:m<s.size
  ·by_cases hb:isB c (s[m].toNat:Int)=true
   ·have HN:Hid (f+badN c (s.data.toList.drop f)=(m+1)+badN c (s.data.toList.drop (m+1))):=by
     have:=badN_yes c s.data.toList m (by simpa using hlt) hb
     show _=_
     rw[HM.out,this];omega
    go_wp2_with (go_at_call 105;refine(is_any _ _ _ HT.out).mono ?_;rintro e w' ⟨rfl,rfl⟩)
    go_round
    case rel=>exact⟨m+1,by omega,by go_num,HN⟩
    case measure=>simp[intOf];omega
   ·have hb':isB c (s[m].toNat:Int)=false:=by simpa using hb
    have HN:Hid (f+badN c (s.data.toList.drop f)=m):=by
     have:=badN_no c s.data.toList m (by simpa using hlt) hb'
     show _=_
     rw[HM.out,this];omega
    clear hb
    go_wp2_with (go_at_call 105;refine(is_any _ _ _ HT.out).mono ?_;rintro e w' ⟨rfl,rfl⟩)
    go_ret
    exact⟨ret_i64T (by have:=HN.out;omega),rfl⟩
  ·have HN:Hid (f+badN c (s.data.toList.drop f)=m):=by
    have:=badN_end c s.data.toList m (by simp;omega)
    show _=_
    rw[HM.out,this];omega
   go_wp2
   go_ret
   exact⟨ret_i64T (by have:=HN.out;omega),rfl⟩
theorem span_anyT (c f:Int) (s:ByteArray) (w:World) (ht:Table w) (hs:s.size≤maxLen):
  Calls Tryz.prog 112 #[.int .i64 c,.string s,.int .i64 f] w fun e w'=>e=.returned (.int .i64 (spanI c s.data.toList f))∧w'=w:=by
 by_cases h0:f<0
 ·rw[spanI_neg _ _ _ h0]
  exact span_negT c f s w h0
 ·by_cases h1:(s.size:Int)≤f
  ·rw[spanI_behind _ _ _ (by simpa using h1)]
   exact span_behindT c f s w hs h1
  ·obtain⟨n,rfl⟩:=Int.eq_ofNat_of_zero_le (show 0≤f by omega)
   rw[spanI_nat]
   exact span_inT c n s w ht hs (by omega)
set_option maxRecDepth 100000 in
theorem bad_anyT (c:Int) (s:ByteArray) (w:World) (ht:Table w) (hs:s.size≤maxLen):
  Calls Tryz.prog 80 #[.int .i64 c,.string s] w fun e w'=>e=.returned (.int .i64 (badN c s.data.toList))∧w'=w:=by
 have hz:=spanI_zero c s.data.toList
 go_enter Tryz.func80,Tryz.ntmps80
 go_wp2_with fail
 refine(span_anyT c 0 s _ ht hs).mono ?_
 rintro e w' ⟨rfl,rfl⟩
 go_wp2
 go_ret
 exact⟨rfl,rfl⟩
def dgB (c:UInt8):Bool:=decide (48≤c.toNat)&&decide (c.toNat≤57)
def hxB (c:UInt8):Bool:=dgB c||(decide (65≤c.toNat)&&decide (c.toNat≤70))||(decide (97≤c.toNat)&&decide (c.toNat≤102))
def hxV (c:UInt8):Nat:=if c.toNat≤57 then c.toNat - 48 else if c.toNat≤70 then c.toNat - 55 else c.toNat - 87
def hexN:Nat→List UInt8→Nat
 |n,[]=>n
 |n,c::r=>hexN (16*n+hxV c) r
def numGo:Nat→Nat→List UInt8→Nat×Nat
 |n,k,[]=>(n,k)
 |n,k,c::r=>if dgB c=true then (if 255<10*n+(c.toNat - 48)∨(0<k∧n=0) then (n,k) else numGo (10*n+(c.toNat - 48)) (k+1) r) else (n,k)
theorem numGo_nil (n k:Nat):numGo n k []=(n,k):=rfl
theorem numGo_no (n k:Nat) (c:UInt8) (r:List UInt8) (h:dgB c=false):numGo n k (c::r)=(n,k):=by
 rw[numGo,if_neg (by rw[h];decide)]
theorem numGo_stop (n k:Nat) (c:UInt8) (r:List UInt8) (h:dgB c=true) (h2:255<10*n+(c.toNat - 48)∨(0<k∧n=0)):numGo n k (c::r)=(n,k):=by
 rw[numGo,if_pos h,if_pos h2]
theorem numGo_on (n k:Nat) (c:UInt8) (r:List UInt8) (h:dgB c=true) (h2:¬(255<10*n+(c.toNat - 48)∨(0<k∧n=0))):numGo n k (c::r)=numGo (10*n+(c.toNat - 48)) (k+1) r:=by
 rw[numGo,if_pos h,if_neg h2]
theorem numGo_le:∀(l:List UInt8) (n k:Nat),n≤255→(numGo n k l).1≤255∧k≤(numGo n k l).2∧(numGo n k l).2≤k+l.length
 |[],n,k,h=>⟨h,Nat.le_refl _,Nat.le_add_right _ _⟩
 |c::r,n,k,h=>by
  rw[numGo]
  split
  ·split
   ·exact⟨h,Nat.le_refl _,Nat.le_add_right _ _⟩
   ·have:=numGo_le r (10*n+(c.toNat - 48)) (k+1) (by omega)
    simp only[List.length_cons]
    omega
  ·exact⟨h,Nat.le_refl _,Nat.le_add_right _ _⟩
def v4Go:Nat→List Nat→Nat→List UInt8→Except Nat (List Nat)
 |0,l,a,s=>if s=[] then .ok l else .error a
 |k+1,l,a,s=>
  if l=[] then
   (if (numGo 0 0 s).2=0 then .error a else v4Go k (l++[(numGo 0 0 s).1]) (a+(numGo 0 0 s).2) (s.drop (numGo 0 0 s).2))
  else if s.head?=some 46 then
   (if (numGo 0 0 (s.drop 1)).2=0 then .error (a+1) else v4Go k (l++[(numGo 0 0 (s.drop 1)).1]) (a+1+(numGo 0 0 (s.drop 1)).2) ((s.drop 1).drop (numGo 0 0 (s.drop 1)).2))
  else .error a
def v4 (s:List UInt8):Except Nat (List Nat):=v4Go 4 [] 0 s
structure Gs where
 l:List Nat
 gap:Option Nat
def Gs.room (g:Gs):Nat:=if g.gap.isSome then 6 - g.l.length else 8 - g.l.length
def Gs.whole (g:Gs) (k:Nat):Bool:=(g.gap.isSome&&decide (k≤g.room))||decide (k=g.room)
def Gs.put (g:Gs) (n:Nat):Gs:=⟨g.l++[n],g.gap⟩
def Gs.mayOpen (g:Gs):Bool:=!g.gap.isSome&&decide (g.l.length≤6)
def Gs.open' (g:Gs):Gs:=⟨g.l,some g.l.length⟩
def twoB:List Nat→List Nat
 |[]=>[]
 |n::r=>n / 256::n % 256::twoB r
def Gs.all (g:Gs):List Nat:=match g.gap with
 |none=>g.l
 |some k=>g.l.take k++List.replicate (8 - g.l.length) 0++g.l.drop k
def Gs.addr (g:Gs):List Nat:=twoB g.all
def hexSp:List UInt8→Nat
 |[]=>0
 |c::r=>if hxB c=true then hexSp r+1 else 0
def grpL (s:List UInt8):Nat:=min (hexSp s) 4
def grpN (s:List UInt8):Nat:=hexN 0 (s.take (grpL s))
def pairN (l:List Nat) (k:Nat):Nat:=256*l.getD k 0+l.getD (k+1) 0
def v6Go:Nat→Gs→Nat→List UInt8→Except Nat (List Nat)
 |0,_,a,_=>.error a
 |f+1,g,a,s=>
  if grpL s=0∨g.room=0 then .error a
  else if g.whole 2=true∧s[grpL s]?=some 46 then
   match v4 s with
   | .error p=>.error (a+max (grpL s) p)
   | .ok x=>.ok ((g.put (pairN x 0)).put (pairN x 2)).addr
  else if s.drop (grpL s)=[]∧(g.put (grpN s)).whole 0=true then .ok (g.put (grpN s)).addr
  else if (s.drop (grpL s)).head?≠some 58∨(g.put (grpN s)).room=0 then .error (a+grpL s)
  else if (s.drop (grpL s+1)).head?=some 58 then
   (if (g.put (grpN s)).mayOpen=true then
    (if s.drop (grpL s+2)=[] then .ok (g.put (grpN s)).open'.addr else v6Go f (g.put (grpN s)).open' (a+grpL s+2) (s.drop (grpL s+2)))
   else .error (a+grpL s+1))
  else v6Go f (g.put (grpN s)) (a+grpL s+1) (s.drop (grpL s+1))
def v6 (s:List UInt8):Except Nat (List Nat):=
 if s.take 2=[58,58] then (if s.length=2 then .ok (Gs.addr ⟨[],some 0⟩) else v6Go 9 ⟨[],some 0⟩ 2 (s.drop 2))
 else if s.head?=some 58 then .error 1
 else v6Go 9 ⟨[],none⟩ 0 s
def hexC (d:Nat):UInt8:=if d<10 then UInt8.ofNat (48+d) else UInt8.ofNat (87+d)
def hexF:Nat→Nat→List UInt8
 |0,n=>[hexC (n % 16)]
 |f+1,n=>if n<16 then [hexC n] else hexF f (n / 16)++[hexC (n % 16)]
def hexD (n:Nat):List UInt8:=hexF 16 n
def decD (n:Nat):List UInt8:=if n<10 then [UInt8.ofNat (48+n)] else if n<100 then [UInt8.ofNat (48+n / 10),UInt8.ofNat (48+n % 10)] else [UInt8.ofNat (48+n / 100),UInt8.ofNat (48+n / 10 % 10),UInt8.ofNat (48+n % 10)]
def joinL (sep:List UInt8):List (List UInt8)→List UInt8
 |[]=>[]
 |[x]=>x
 |x::y::r=>x++sep++joinL sep (y::r)
def print4 (a:List Nat):List UInt8:=joinL [46] (a.map decD)
def zrGo:Nat→Nat→Nat→Nat→List (List UInt8)→Nat×Nat
 |_,_,f,t,[]=>(f,t)
 |i,b,f,t,x::r=>
  if i+1 - (if x≠[48] then i+1 else b)>t - f then zrGo (i+1) (if x≠[48] then i+1 else b) (if x≠[48] then i+1 else b) (i+1) r
  else zrGo (i+1) (if x≠[48] then i+1 else b) f t r
def zeros (l:List (List UInt8)):Nat×Nat:=zrGo 0 0 0 0 l
def grpsOf:List Nat→List Nat
 |a::b::r=>(256*a+b)::grpsOf r
 |_=>[]
def print6 (a:List Nat):List UInt8:=
 if (zeros ((grpsOf a).map hexD)).2 - (zeros ((grpsOf a).map hexD)).1<2 then joinL [58] ((grpsOf a).map hexD)
 else joinL [58] (((grpsOf a).map hexD).take (zeros ((grpsOf a).map hexD)).1)++[58,58]++joinL [58] (((grpsOf a).map hexD).drop (zeros ((grpsOf a).map hexD)).2)
open Go.RowKit
theorem dg_fin:∀b:Fin 256,isB 2 (b.val:Int)=(decide (48≤b.val)&&decide (b.val≤57)):=by decide+kernel
theorem dg_is (c:UInt8):isB 2 (c.toNat:Int)=dgB c:=dg_fin ⟨c.toNat,c.toNat_lt⟩
theorem hx_fin:∀b:Fin 256,isB 4 (b.val:Int)=((decide (48≤b.val)&&decide (b.val≤57))||(decide (65≤b.val)&&decide (b.val≤70))||(decide (97≤b.val)&&decide (b.val≤102))):=by decide+kernel
theorem hx_is (c:UInt8):isB 4 (c.toNat:Int)=hxB c:=hx_fin ⟨c.toNat,c.toNat_lt⟩
theorem hexSp_bad:∀l:List UInt8,badN 4 l=hexSp l
 |[]=>rfl
 |c::r=>by rw[badN,hexSp,hx_is,hexSp_bad r]
theorem ext_drop (s:ByteArray) (k:Nat):(s.extract k s.size).data.toList=s.data.toList.drop k:=by
 rw[ext_list,←len_list,List.take_length]
theorem drop_head (s:ByteArray) (k:Nat) (h:k<s.size):s.data.toList.drop k=s[k]::s.data.toList.drop (k+1):=by
 rw[List.drop_eq_getElem_cons (by rw[len_list];exact h)]
 rfl
theorem drop_end (s:ByteArray) (k:Nat) (h:s.size≤k):s.data.toList.drop k=[]:=List.drop_eq_nil_of_le (by rw[len_list];exact h)
set_option maxHeartbeats 1000000 in
set_option maxRecDepth 100000 in
theorem number_any (s:ByteArray) (w:World) (ht:Table w) (hs:s.size≤maxLen):
  Calls Tryz.prog 205 #[.string s] w fun e w'=>e=.returned (.tuple #[.int .u8 ((numGo 0 0 s.data.toList).1:Nat),.int .i64 ((numGo 0 0 s.data.toList).2:Nat)])∧w'=w:=by
 unfold maxLen at hs
 have HT:Hid (Table w):=ht
 clear ht
 go_enter Tryz.func205,Tryz.ntmps205
 go_wp2
 go_loop [4,5,6] (fun n i _=>∃m k:Nat,m≤255∧k≤s.size∧n=.int .i64 m∧i=.int .i64 k∧Hid (numGo 0 0 s.data.toList=numGo m k (s.data.toList.drop k))) (fun _ i _=>s.size - (intOf i).toNat)
 case atStart=>exact⟨0,0,by omega,by omega,rfl,rfl,rfl⟩
 case round=>
  obtain⟨m,k,hm,hk,rfl,rfl,HM⟩:=hrel
  by_cases hlt:k<s.size
  ·have hd:=drop_head s k hlt
   by_cases hb:dgB s[k]=true
   ·have hb1:isB 2 (s[k].toNat:Int)=true:=by rw[dg_is];exact hb
    have hb2:48≤s[k].toNat∧s[k].toNat≤57:=by simpa [dgB] using hb
    obtain⟨d,hd48⟩:∃d:Nat,s[k].toNat=48+d:=⟨s[k].toNat - 48,by omega⟩
    have hval:(s[k].toNat:Int) - 48=(d:Int):=by omega
    have hda:d≤9:=by omega
    obtain⟨hb3,hb4⟩:=hb2
    have hb5:(48:Int)≤(s[k].toNat:Int):=by omega
    by_cases hc:255<10*m+(s[k].toNat - 48)∨(0<k∧m=0)
    ·have HN:Hid (numGo 0 0 s.data.toList=(m,k)):=by
      show _=_
      rw[HM.out,hd,numGo_stop _ _ _ _ hb hc]
     rw[show s[k].toNat - 48=d from by omega]at hc
     clear HM hd hb hd48
     rcases hc with hc|⟨hc1,hc2⟩
     ·have hc':(255:Int)<10*(m:Int)+(d:Int):=by omega
      go_wp2_with (go_at_call 105;refine(is_any _ _ _ HT.out).mono ?_;rintro e w' ⟨rfl,rfl⟩)
      refine bodyPost_ret (v:=.tuple #[.int .u8 (m:Int),.int .i64 (k:Int)]) (by simp[results,Tryz.results205,go_sem]) rfl ⟨by rw[HN.out],rfl⟩
     ·have hc':¬(255:Int)<10*(m:Int)+(d:Int):=by omega
      have hm0:((m:Int)==0)=true:=by rw[beq_iff_eq];omega
      clear hc2
      have hk0:(0:Int)<(k:Int):=by omega
      go_wp2_with (go_at_call 105;refine(is_any _ _ _ HT.out).mono ?_;rintro e w' ⟨rfl,rfl⟩)
      refine bodyPost_ret (v:=.tuple #[.int .u8 (m:Int),.int .i64 (k:Int)]) (by simp[results,Tryz.results205,go_sem]) rfl ⟨by rw[HN.out],rfl⟩
    ·have HN:Hid (numGo 0 0 s.data.toList=numGo (10*m+d) (k+1) (s.data.toList.drop (k+1))):=by
      show _=_
      rw[HM.out,hd,numGo_on _ _ _ _ hb hc,show s[k].toNat - 48=d from by omega]
     rw[show s[k].toNat - 48=d from by omega]at hc
     clear hd48
     have hc':¬(255:Int)<10*(m:Int)+(d:Int):=by omega
     clear HM hd hb
     by_cases hk0:0<k
     ·have hm0:((m:Int)==0)=false:=by rw[beq_eq_false_iff_ne];omega
      have hk1:(0:Int)<(k:Int):=by omega
      clear hc
      go_wp2_with (go_at_call 105;refine(is_any _ _ _ HT.out).mono ?_;rintro e w' ⟨rfl,rfl⟩)
      go_round
      case rel=>exact⟨10*m+d,k+1,by omega,by omega,by go_num,by go_num,HN⟩
      case measure=>simp[intOf];omega
     ·have hk1:¬(0:Int)<(k:Int):=by omega
      clear hc
      go_wp2_with (go_at_call 105;refine(is_any _ _ _ HT.out).mono ?_;rintro e w' ⟨rfl,rfl⟩)
      go_round
      case rel=>exact⟨10*m+d,k+1,by omega,by omega,by go_num,by go_num,HN⟩
      case measure=>simp[intOf];omega
   ·have hb':dgB s[k]=false:=by simpa using hb
    have hb1:isB 2 (s[k].toNat:Int)=false:=by rw[dg_is];exact hb'
    have HN:Hid (numGo 0 0 s.data.toList=(m,k)):=by
     show _=_
     rw[HM.out,hd,numGo_no _ _ _ _ hb']
    clear HM hd hb hb'
    go_wp2_with (go_at_call 105;refine(is_any _ _ _ HT.out).mono ?_;rintro e w' ⟨rfl,rfl⟩)
    refine bodyPost_ret (v:=.tuple #[.int .u8 (m:Int),.int .i64 (k:Int)]) (by simp[results,Tryz.results205,go_sem]) rfl ⟨by rw[HN.out],rfl⟩
  ·have HN:Hid (numGo 0 0 s.data.toList=(m,k)):=by
    show _=_
    rw[HM.out,drop_end s k (by omega),numGo_nil]
   clear HM
   go_wp2_with fail
   refine bodyPost_ret (v:=.tuple #[.int .u8 (m:Int),.int .i64 (k:Int)]) (by simp[results,Tryz.results205,go_sem]) rfl ⟨by rw[HN.out],rfl⟩
open Go.RowKit
theorem ret_bl {a b:Bool} (h:a=b):Ending.returned (.bool a)=.returned (.bool b):=by rw[h]
def lastIs (l:List UInt8) (c:UInt8):Bool:=l.getLast?==some c
set_option maxHeartbeats 1000000 in
set_option maxRecDepth 100000 in
theorem ihasp_any (s p:ByteArray) (w:World):Calls Tryz.prog 168 #[.string s,.string p] w fun e w'=>e=.returned (.bool (s.data.toList.take p.size==p.data.toList))∧w'=w:=by
 by_cases h:p.size≤s.size
 ·go_enter Tryz.func168,Tryz.ntmps168
  go_wp2
  go_ret
  refine⟨ret_bl ?_,rfl⟩
  rw[ByteArray.toList_eq,ByteArray.toList_eq,ext_list,List.drop_zero]
 ·go_enter Tryz.func168,Tryz.ntmps168
  go_wp2
  go_ret
  refine⟨ret_bl ?_,rfl⟩
  symm
  rw[beq_eq_false_iff_ne]
  intro he
  have:=congrArg List.length he
  rw[List.length_take,len_list,len_list]at this
  omega
set_option maxHeartbeats 1000000 in
theorem hasp_any (s p:ByteArray) (w:World):Calls Tryz.prog 129 #[.string s,.string p] w fun e w'=>e=.returned (.bool (s.data.toList.take p.size==p.data.toList))∧w'=w:=by
 go_enter Tryz.func129,Tryz.ntmps129
 go_wp2_with (go_at_call 168;refine(ihasp_any _ _ _).mono ?_;rintro e w' ⟨rfl,rfl⟩)
 go_ret
 exact⟨rfl,rfl⟩
set_option maxHeartbeats 1000000 in
set_option maxRecDepth 100000 in
theorem ihass_one (s:ByteArray) (c:UInt8) (w:World) (hs:s.size≤maxLen):Calls Tryz.prog 195 #[.string s,.string ⟨#[c]⟩] w fun e w'=>e=.returned (.bool (lastIs s.data.toList c))∧w'=w:=by
 unfold maxLen at hs
 by_cases h:1≤s.size
 ·have hl:s.data.toList≠[]:=fun e=>by have:=congrArg List.length e;rw[len_list,List.length_nil]at this;omega
  have he:(s.extract (s.size - 1) s.size).data.toList=[s.data.toList.getLast hl]:=by
   rw[ext_drop,←len_list]
   have h:=List.dropLast_concat_getLast hl
   have h1:s.data.toList.drop (s.data.toList.length - 1)=(s.data.toList.dropLast++[s.data.toList.getLast hl]).drop (s.data.toList.length - 1):=by rw[h]
   rw[h1,List.drop_left' (by rw[List.length_dropLast])]
  have hi:(s.size:Int) - 1=((s.size - 1:Nat):Int):=by omega
  go_enter Tryz.func195,Tryz.ntmps195
  go_wp2
  go_ret
  refine⟨ret_bl ?_,rfl⟩
  rw[ByteArray.toList_eq,he]
  unfold lastIs
  rw[List.getLast?_eq_some_getLast hl,Bool.eq_iff_iff]
  simp
 ·go_enter Tryz.func195,Tryz.ntmps195
  go_wp2
  go_ret
  refine⟨ret_bl ?_,rfl⟩
  have:s.data.toList=[]:=List.eq_nil_of_length_eq_zero (by rw[len_list];omega)
  rw[this]
  rfl
set_option maxHeartbeats 1000000 in
theorem hass_one (s:ByteArray) (c:UInt8) (w:World) (hs:s.size≤maxLen):Calls Tryz.prog 169 #[.string s,.string ⟨#[c]⟩] w fun e w'=>e=.returned (.bool (lastIs s.data.toList c))∧w'=w:=by
 go_enter Tryz.func169,Tryz.ntmps169
 go_wp2_with (go_at_call 195;refine(ihass_one _ _ _ hs).mono ?_;rintro e w' ⟨rfl,rfl⟩)
 go_ret
 exact⟨rfl,rfl⟩
def wpAnyE (P:Program) (md:Region.Mode) (ops:Array Oper) (Q:Exit→Act→World→Prop) (S:World→Prop) (L:Nat):Nat→Array Bool→Act→World→Prop
 |0,listed,a,w=>Region.ready md ops listed=[]∧Q .normal a w
 |fuel+1,listed,a,w=>
  (Region.ready md ops listed=[]→Q .normal a w)∧
  ∀i∈Region.ready md ops listed,wpOp P ops Q i (fun a' w'=>(i=L∨S w')∧wpAnyE P md ops Q S L fuel (listed.setIfInBounds i true) a' w') a w
theorem wpAny_of_late {P:Program} {ops:Array Oper} {Q:Exit→Act→World→Prop} {md:Region.Mode} {S:World→Prop} {L:Nat}:∀(fuel:Nat) (listed:Array Bool) (a:Act) (w:World),wpAnyE P md ops Q S L fuel listed a w→wpAny P md ops Q fuel listed a w
 |0,_,_,_,h=>h
 |fuel+1,_,_,_,h=>⟨h.1,fun i hi=>wpOp_mono (fun a' w' h'=>wpAny_of_late fuel _ a' w' h'.2) (h.2 i hi)⟩
def waits (md:Region.Mode) (ops:Array Oper) (L i:Nat):Bool:=
 match ops[L]? with
 |none=>false
 |some o=>o.after.any fun e=>Region.binds md e&&e.on==i
theorem wpAnyE_first {P:Program} {ops:Array Oper} {Q:Exit→Act→World→Prop} {md:Region.Mode} {S:World→Prop} {L i:Nat} {oi:Oper} {v:Value} (hi:ops[i]?=some oi) (hsel:∀(j:Nat) (o:Oper) cs b,ops[j]?=some o→o.op≠.select cs b)
  (hQ:∀c a w,Q (.panic c) (a.put oi.dst v) w→Q (.panic c) a w) (hL:waits md ops L i=true):
  ∀(fuel:Nat) (listed:Array Bool) (a:Act) (w:World),
   (∀j oj,ops[j]?=some oj→j≠i→listed.getD j true=false→(∀e∈oj.after,Region.binds md e=true→e.on≠i)→oi.apart ops oj=true)→
   i∈Region.ready md ops listed→YieldsIf P ops S oi v a→S w→
   wpAnyE P md ops Q S L fuel (listed.setIfInBounds i true) (a.put oi.dst v) w→wpAnyE P md ops Q S L (fuel+1) listed a w:=by
 intro fuel
 induction fuel with
 |zero=>
  intro listed a w _ hr hy hS H
  refine⟨fun h=>(by rw[h]at hr;cases hr),fun j hj=>?_⟩
  by_cases hji:j=i
  ·subst hji;exact hy.wpOp hi hS ⟨.inr hS,H⟩
  ·have:=ready_mono hj hji
   rw[H.1]at this
   cases this
 |succ fuel ih=>
  intro listed a w hfree hr hy hS H
  refine⟨fun h=>(by rw[h]at hr;cases hr),fun j hj=>?_⟩
  by_cases hji:j=i
  ·subst hji;exact hy.wpOp hi hS ⟨.inr hS,H⟩
  ·have h1:=H.2 j (ready_mono hj hji)
   obtain⟨hjun,oj,hoj,hall⟩:=mem_ready.1 hj
   have hnot:∀e∈oj.after,Region.binds md e=true→e.on≠i:=fun e he hb heq=>by
    have h1:=hall e he hb
    have h0:=(mem_ready.1 hr).1
    rw[heq]at h1
    rcases Nat.lt_or_ge i listed.size with h'|h'
    ·simp[h']at h0 h1;rw[h0]at h1;cases h1
    ·simp[Array.getElem?_eq_none h']at h1
   have hjL:j≠L:=fun e=>by
    subst e
    simp only[waits,hoj]at hL
    obtain⟨e,he,hb⟩:=Array.any_eq_true'.1 hL
    simp only[Bool.and_eq_true,beq_iff_eq]at hb
    exact hnot e he hb.1 hb.2
   have h2:=wpOp_putIf hoj (hfree j oj hoj hji hjun hnot) (fun cs b=>hsel i oi cs b hi) (fun cs b=>hsel j oj cs b hoj) hQ hy h1
   have hfree':∀k ok,ops[k]?=some ok→k≠i→(listed.setIfInBounds j true).getD k true=false→
     (∀e∈ok.after,Region.binds md e=true→e.on≠i)→oi.apart ops ok=true:=fun k ok hk hki hun hno=>by
    refine hfree k ok hk hki ?_ hno
    by_cases hjk:j=k
    ·subst hjk;exact hjun
    ·rw[getD_set_ne true hjk]at hun;exact hun
   refine wpOp_mono (fun a' w' h3=>⟨h3.2.1,ih (listed.setIfInBounds j true) a' w' hfree' (ready_mono hr (Ne.symm hji)) h3.1 (h3.2.1.resolve_left hjL) ?_⟩) h2
   rw[Array.setIfInBounds_comm _ _ hji]
   exact h3.2.2
theorem wpAnyE_take {P:Program} {ops:Array Oper} {Q:Exit→Act→World→Prop} {md:Region.Mode} {S:World→Prop} {L:Nat} {i:Nat} {oi:Oper} {d:Option Tmp} {v:Value} {fuel:Nat} {listed:Array Bool} {a:Act} {w:World} (hi:ops[i]?=some oi)
  (hs:Region.noSelect ops=true) (hf:Region.free md ops listed i=true) (hr:(Region.ready md ops listed).contains i=true) (hL:waits md ops L i=true)
  (hQ:∀c a w,Q (.panic c) (a.put d v) w→Q (.panic c) a w) (hd:oi.dst=d) (hg:oi.guard=none) (hy:∀w',S w'→(execOp a.eval oi).run P w'=.ok (.value v) w') (hS:S w)
  (h:wpAnyE P md ops Q S L fuel (listed.setIfInBounds i true) (a.put d v) w):wpAnyE P md ops Q S L (fuel+1) listed a w:=by
 subst hd
 exact wpAnyE_first hi (Region.noSelect_spec hs) hQ hL fuel listed a w (Region.free_spec hi hf) (by simpa using hr) (.inl ⟨by simp[Region.wanted,hg],hy⟩) hS h
theorem wpAnyE_one {P:Program} {ops:Array Oper} {Q:Exit→Act→World→Prop} {md:Region.Mode} {S:World→Prop} {L:Nat} {i:Nat} {o:Oper} {fuel:Nat} {listed:Array Bool} {a:Act} {w:World} (hr:Region.ready md ops listed=[i]) (hi:ops[i]?=some o) (hg:o.guard=none)
  (h:o.wp P a w (fun a' w'=>(i=L∨S w')∧wpAnyE P md ops Q S L fuel (listed.setIfInBounds i true) a' w') Q):wpAnyE P md ops Q S L (fuel+1) listed a w:=
 ⟨fun h0=>(by rw[h0]at hr;cases hr),fun j hj=>by
  rw[hr,List.mem_singleton]at hj
  subst hj
  unfold wpOp
  simp only[hi,Region.wanted,hg,if_true]
  exact .inl h⟩
theorem wpAnyE_done {P:Program} {ops:Array Oper} {Q:Exit→Act→World→Prop} {md:Region.Mode} {S:World→Prop} {L:Nat} {listed:Array Bool} {a:Act} {w:World} (hr:Region.ready md ops listed=[]) (h:Q .normal a w):∀fuel,wpAnyE P md ops Q S L fuel listed a w
 |0=>⟨hr,h⟩
 |_+1=>⟨fun _=>h,by rw[hr];simp⟩
theorem wp_region_late {P:Program} {ops:Array Oper} {Q:Exit→Act→World→Prop} (S:World→Prop) (L:Nat) {id:Nat} {a:Act} {w:World} (hm:P.follows .mixedOrders=true) (hS:S w.drew)
  (h:S w.drew→wpAnyE P .any ops Q S L ops.size (Array.replicate ops.size false) a w.drew):(Code.region id ops true).wp P Q a w:=
 wp_region_any hm (wpAny_of_late _ _ _ _ (h hS))
theorem wpAnyE_fst {P:Program} {ops:Array Oper} {Q:Exit→Act→World→Prop} {md:Region.Mode} {S:World→Prop} {L i:Nat} {oi:Oper} {v:Value} (hi:ops[i]?=some oi) (hsel:∀(j:Nat) (o:Oper) cs b,ops[j]?=some o→o.op≠.select cs b)
  (hQ:∀c a w,Q (.panic c) (a.put oi.dst v) w→Q (.panic c) a w) (hL:ops[L]?=none):
  ∀(fuel:Nat) (listed:Array Bool) (a:Act) (w:World),
   (∀j oj,ops[j]?=some oj→j≠i→listed.getD j true=false→(∀e∈oj.after,Region.binds md e=true→e.on≠i)→oi.apart ops oj=true)→
   i∈Region.ready md ops listed→YieldsIf P ops S oi v a→S w→
   wpAnyE P md ops Q S L fuel (listed.setIfInBounds i true) (a.put oi.dst v) w→wpAnyE P md ops Q S L (fuel+1) listed a w:=by
 intro fuel
 induction fuel with
 |zero=>
  intro listed a w _ hr hy hS H
  refine⟨fun h=>(by rw[h]at hr;cases hr),fun j hj=>?_⟩
  by_cases hji:j=i
  ·subst hji;exact hy.wpOp hi hS ⟨.inr hS,H⟩
  ·have:=ready_mono hj hji
   rw[H.1]at this
   cases this
 |succ fuel ih=>
  intro listed a w hfree hr hy hS H
  refine⟨fun h=>(by rw[h]at hr;cases hr),fun j hj=>?_⟩
  by_cases hji:j=i
  ·subst hji;exact hy.wpOp hi hS ⟨.inr hS,H⟩
  ·have h1:=H.2 j (ready_mono hj hji)
   obtain⟨hjun,oj,hoj,hall⟩:=mem_ready.1 hj
   have hnot:∀e∈oj.after,Region.binds md e=true→e.on≠i:=fun e he hb heq=>by
    have h1:=hall e he hb
    have h0:=(mem_ready.1 hr).1
    rw[heq]at h1
    rcases Nat.lt_or_ge i listed.size with h'|h'
    ·simp[h']at h0 h1;rw[h0]at h1;cases h1
    ·simp[Array.getElem?_eq_none h']at h1
   have hjL:j≠L:=fun e=>by
    subst e
    rw[hoj]at hL
    cases hL
   have h2:=wpOp_putIf hoj (hfree j oj hoj hji hjun hnot) (fun cs b=>hsel i oi cs b hi) (fun cs b=>hsel j oj cs b hoj) hQ hy h1
   have hfree':∀k ok,ops[k]?=some ok→k≠i→(listed.setIfInBounds j true).getD k true=false→
     (∀e∈ok.after,Region.binds md e=true→e.on≠i)→oi.apart ops ok=true:=fun k ok hk hki hun hno=>by
    refine hfree k ok hk hki ?_ hno
    by_cases hjk:j=k
    ·subst hjk;exact hjun
    ·rw[getD_set_ne true hjk]at hun;exact hun
   refine wpOp_mono (fun a' w' h3=>⟨h3.2.1,ih (listed.setIfInBounds j true) a' w' hfree' (ready_mono hr (Ne.symm hji)) h3.1 (h3.2.1.resolve_left hjL) ?_⟩) h2
   rw[Array.setIfInBounds_comm _ _ hji]
   exact h3.2.2
theorem wpAnyE_tk {P:Program} {ops:Array Oper} {Q:Exit→Act→World→Prop} {md:Region.Mode} {S:World→Prop} {L:Nat} {i:Nat} {oi:Oper} {d:Option Tmp} {v:Value} {fuel:Nat} {listed:Array Bool} {a:Act} {w:World} (hi:ops[i]?=some oi)
  (hs:Region.noSelect ops=true) (hf:Region.free md ops listed i=true) (hr:(Region.ready md ops listed).contains i=true) (hL:ops[L]?=none)
  (hQ:∀c a w,Q (.panic c) (a.put d v) w→Q (.panic c) a w) (hd:oi.dst=d) (hw:Region.wanted oi (yielded ops a.tmps)=true) (hy:∀w',S w'→(execOp a.eval oi).run P w'=.ok (.value v) w') (hS:S w)
  (h:wpAnyE P md ops Q S L fuel (listed.setIfInBounds i true) (a.put d v) w):wpAnyE P md ops Q S L (fuel+1) listed a w:=by
 subst hd
 exact wpAnyE_fst hi (Region.noSelect_spec hs) hQ hL fuel listed a w (Region.free_spec hi hf) (by simpa using hr) (.inl ⟨hw,hy⟩) hS h
theorem wpAnyE_sk {P:Program} {ops:Array Oper} {Q:Exit→Act→World→Prop} {md:Region.Mode} {S:World→Prop} {L:Nat} {i:Nat} {oi:Oper} {d:Option Tmp} {fuel:Nat} {listed:Array Bool} {a:Act} {w:World} (hi:ops[i]?=some oi)
  (hs:Region.noSelect ops=true) (hf:Region.free md ops listed i=true) (hr:(Region.ready md ops listed).contains i=true) (hL:ops[L]?=none)
  (hQ:∀c a w,Q (.panic c) (a.put d undef) w→Q (.panic c) a w) (hd:oi.dst=d) (hw:Region.wanted oi (yielded ops a.tmps)=false) (hS:S w)
  (h:wpAnyE P md ops Q S L fuel (listed.setIfInBounds i true) (a.put d undef) w):wpAnyE P md ops Q S L (fuel+1) listed a w:=by
 subst hd
 exact wpAnyE_fst hi (Region.noSelect_spec hs) hQ hL fuel listed a w (Region.free_spec hi hf) (by simpa using hr) (.inr ⟨hw,rfl⟩) hS h
theorem wpAnyE_on {P:Program} {ops:Array Oper} {Q:Exit→Act→World→Prop} {md:Region.Mode} {S:World→Prop} {L:Nat} {i:Nat} {o:Oper} {fuel:Nat} {listed:Array Bool} {a:Act} {w:World} (hr:Region.ready md ops listed=[i]) (hi:ops[i]?=some o) (hw:Region.wanted o (yielded ops a.tmps)=true)
  (h:o.wp P a w (fun a' w'=>(i=L∨S w')∧wpAnyE P md ops Q S L fuel (listed.setIfInBounds i true) a' w') Q):wpAnyE P md ops Q S L (fuel+1) listed a w:=
 ⟨fun h0=>(by rw[h0]at hr;cases hr),fun j hj=>by
  rw[hr,List.mem_singleton]at hj
  subst hj
  unfold wpOp
  simp only[hi,hw,if_true]
  exact .inl h⟩
theorem tk9 {P:Program} {ops:Array Oper} {Q:Exit→Act→World→Prop} {md:Region.Mode} {S:World→Prop} {L:Nat} {oi:Oper} {fuel:Nat} {listed:Array Bool} {a:Act} {w:World} (i:Nat) (d:Option Tmp) (v:Value)
 (h:wpAnyE P md ops Q S L fuel (listed.setIfInBounds i true) (a.put d v) w) (hi:ops[i]?=some oi:=by exact rfl)
 (hs:Region.noSelect ops=true:=by kernel_rfl) (hf:Region.free md ops listed i=true:=by kernel_rfl) (hr:(Region.ready md ops listed).contains i=true:=by kernel_rfl) (hL:ops[L]?=none:=by exact rfl)
 (hQ:∀c a w,Q (.panic c) (a.put d v) w→Q (.panic c) a w:=by exact fun _ _ _ h=>h) (hd:oi.dst=d:=by exact rfl) (hw:Region.wanted oi (yielded ops a.tmps)=true:=by exact rfl)
 (hy:∀w',S w'→(execOp a.eval oi).run P w'=.ok (.value v) w':=by(intro w' hSw;(try dsimp only at hSw);go_simp<;>(first|with_reducible rfl|omega|skip))) (hS:S w:=by assumption):wpAnyE P md ops Q S L (fuel+1) listed a w:=wpAnyE_tk hi hs hf hr hL hQ hd hw hy hS h
theorem tk8 {P:Program} {ops:Array Oper} {Q:Exit→Act→World→Prop} {md:Region.Mode} {S:World→Prop} {L:Nat} {oi:Oper} {fuel:Nat} {listed:Array Bool} {a:Act} {w:World} (i:Nat) (d:Option Tmp) (v:Value)
 (h:wpAnyE P md ops Q S L fuel (listed.setIfInBounds i true) (a.put d v) w) (hi:ops[i]?=some oi:=by exact rfl)
 (hs:Region.noSelect ops=true:=by kernel_rfl) (hf:Region.free md ops listed i=true:=by kernel_rfl) (hr:(Region.ready md ops listed).contains i=true:=by kernel_rfl) (hL:waits md ops L i=true:=by kernel_rfl)
 (hQ:∀c a w,Q (.panic c) (a.put d v) w→Q (.panic c) a w:=by exact fun _ _ _ h=>h) (hd:oi.dst=d:=by exact rfl) (hg:oi.guard=none:=by exact rfl)
 (hy:∀w',S w'→(execOp a.eval oi).run P w'=.ok (.value v) w':=by(intro w' hSw;(try dsimp only at hSw);go_simp<;>(first|with_reducible rfl|omega|skip))) (hS:S w:=by assumption):wpAnyE P md ops Q S L (fuel+1) listed a w:=wpAnyE_take hi hs hf hr hL hQ hd hg hy hS h
theorem on9 {P:Program} {ops:Array Oper} {Q:Exit→Act→World→Prop} {md:Region.Mode} {S:World→Prop} {L:Nat} {o:Oper} {fuel:Nat} {listed:Array Bool} {a:Act} {w:World} (i:Nat)
 (h:o.wp P a w (fun a' w'=>(i=L∨S w')∧wpAnyE P md ops Q S L fuel (listed.setIfInBounds i true) a' w') Q) (hr:Region.ready md ops listed=[i]:=by kernel_rfl) (hi:ops[i]?=some o:=by exact rfl) (hw:Region.wanted o (yielded ops a.tmps)=true:=by exact rfl):wpAnyE P md ops Q S L (fuel+1) listed a w:=wpAnyE_on hr hi hw h
theorem pA {α:Type} (l:List α) (i:Nat) (a:α):l.toArray.setIfInBounds i a=(l.set i a).toArray:=List.setIfInBounds_toArray ..
theorem pB {α:Type} (x:α) (l:List α) (a:α):(x::l).set 0 a=a::l:=List.set_cons_zero ..
theorem pC {α:Type} (x:α) (l:List α) (n:Nat) (a:α):(x::l).set (n+1) a=x::l.set n a:=List.set_cons_succ ..
end Go.Proofs.YtfjpkfhbmldmfaaGreatDoor
