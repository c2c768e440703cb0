/-
  The document's isAtom, row, plain.
-/
import Derived.Test.YtfjpkfhbmldmfabGreatDoorRIs9
import Derived.Test.YtfjpkfhbmldmfabGreatDoorRt8
import Derived.Test.YtfjpkfhbmldmfabGreatDoorLt8
import Derived.Test.YtfjpkfhbmldmfabGreatDoorLate5
import Derived.Test.YtfjpkfhbmldmfabGreatDoorPureBad
import Derived.Laws.RangeAny
import Derived.Lib.OthersKept
import Derived.Deep.DeepCutAuto
import Derived.Laws.Concat
import Derived.Test.YtfjpkfhbmldmfabGreatDoorPg8
import Derived.Lib.ConvBytes
import Derived.WalkMore
namespace Go.Proofs.YtfjpkfhbmldmfabGreatDoor
open Go.RowKit
structure RwE (s:ByteArray) (R a e:Nat):Prop where
 ge:a≤e
 le:e≤s.size
 is:R=rowG e e (decide (a<e)) (s.data.toList.drop e)
 no:a<e→∀h:e<s.size,atB s[e]=false
structure RwK (s:ByteArray) (R e f k:Nat):Prop where
 fk:f≤k
 le:k≤s.size
 is:(k=f∧R=rowG e f false (s.data.toList.drop f))∨(f<k∧R=rowG k k true (s.data.toList.drop k))
theorem drop_at (s:ByteArray) (k:Nat) (h:k<s.size):s.data.toList.drop k=s[k]::s.data.toList.drop (k+1):=by
 rw[List.drop_eq_getElem_cons (by rw[len_list];exact h),get_list]
theorem drop_past (s:ByteArray) (k:Nat) (h:s.size≤k):s.data.toList.drop k=[]:=List.drop_eq_nil_of_le (by rw[len_list];exact h)
theorem RwE.start (s:ByteArray) (a:Nat) (ha:a≤s.size):RwE s (a+rowL (s.data.toList.drop a)) a a:=
 ⟨Nat.le_refl _,ha,by
  have:=rowG_shift a (s.data.toList.drop a) 0 0 false
  rw[decide_eq_false (Nat.lt_irrefl a)]
  rw[Nat.zero_add]at this
  unfold rowL
  omega,fun h=>absurd h (Nat.lt_irrefl a)⟩
theorem RwE.stop {s:ByteArray} {R a e:Nat} (h:RwE s R a e) (hae:a<e) (hc:∀h:e<s.size,s[e]≠46):R=e:=by
 have h1:=h.is
 rw[decide_eq_true hae]at h1
 rcases Nat.lt_or_ge e s.size with hl|hl
 ·rw[drop_at s e hl,rowG,if_neg (by rw[h.no hae hl];decide),if_neg (fun x=>hc hl x.1)]at h1
  exact h1
 ·rw[drop_past s e hl,rowG]at h1
  exact h1
theorem RwE.dot {s:ByteArray} {R a e:Nat} (h:RwE s R a e) (hae:a<e) (hl:e<s.size) (hc:s[e]=46):RwK s R e (e+1) (e+1):=
 ⟨Nat.le_refl _,hl,.inl ⟨rfl,by
  have h1:=h.is
  rw[decide_eq_true hae,drop_at s e hl,rowG,if_neg (by rw[h.no hae hl];decide),if_pos ⟨hc,rfl⟩]at h1
  exact h1⟩⟩
theorem RwE.first {s:ByteArray} {R a:Nat} (h:RwE s R a a):RwK s R a a a:=
 ⟨Nat.le_refl _,h.le,.inl ⟨rfl,by
  have h1:=h.is
  rw[decide_eq_false (Nat.lt_irrefl a)]at h1
  exact h1⟩⟩
theorem RwK.step {s:ByteArray} {R e f k:Nat} (h:RwK s R e f k) (hl:k<s.size) (hc:atB s[k]=true):RwK s R e f (k+1):=
 ⟨by have:=h.fk;omega,hl,.inr ⟨by have:=h.fk;omega,by
  rcases h.is with⟨rfl,h1⟩|⟨_,h1⟩
  ·rw[drop_at s k hl,rowG,if_pos hc]at h1
   exact h1
  ·rw[drop_at s k hl,rowG,if_pos hc]at h1
   exact h1⟩⟩
theorem RwK.none {s:ByteArray} {R e f:Nat} (h:RwK s R e f f) (hc:∀h:f<s.size,atB s[f]=false):R=e:=by
 rcases h.is with⟨_,h1⟩|⟨h0,_⟩
 ·rcases Nat.lt_or_ge f s.size with hl|hl
  ·rw[drop_at s f hl,rowG,if_neg (by rw[hc hl];decide),if_neg (by simp)]at h1
   exact h1
  ·rw[drop_past s f hl,rowG]at h1
   exact h1
 ·exact absurd h0 (Nat.lt_irrefl f)
theorem RwK.out {s:ByteArray} {R a e f k:Nat} (h:RwK s R e f k) (ha:a≤e) (he:e≤f) (hk:f<k) (hc:∀h:k<s.size,atB s[k]=false):RwE s R a k:=
 ⟨by omega,h.le,by
  rw[decide_eq_true (by omega)]
  rcases h.is with⟨h0,_⟩|⟨_,h1⟩
  ·omega
  ·exact h1,fun _=>hc⟩
open Go.RowKit
theorem enc_last (r:Int) (h:128≤r):∃n,(Utf8.encode r).size=n+1∧1≤n∧n≤3∧∀hn:n<(Utf8.encode r).size,128≤((Utf8.encode r)[n]).toNat:=by
 have hc:128≤(if Utf8.valid r=true then r.toNat else Utf8.runeError):=by
  split
  ·omega
  ·decide
 unfold Utf8.encode
 generalize (if Utf8.valid r=true then r.toNat else Utf8.runeError)=c at hc ⊢
 dsimp only
 have hm:128≤(UInt8.ofNat (128+c % 64)).toNat:=by
  rw[UInt8.toNat_ofNat']
  omega
 have h0:¬c<128:=by omega
 by_cases h1:c<2048
 ·simp only[if_neg h0,if_pos h1]
  exact⟨1,rfl,by omega,by omega,fun _=>hm⟩
 ·by_cases h2:c<65536
  ·simp only[if_neg h0,if_neg h1,if_pos h2]
   exact⟨2,rfl,by omega,by omega,fun _=>hm⟩
  ·simp only[if_neg h0,if_neg h1,if_neg h2]
   exact⟨3,rfl,by omega,by omega,fun _=>hm⟩
theorem index_none (c:UInt8):∀l:List UInt8,(∀x∈l,x≠c)→Lib.indexByte l c= -1
 |[],_=>rfl
 |x::r,h=>by
  rw[Lib.indexByte,index_none c r (fun y hy=>h y (List.mem_cons_of_mem _ hy))]
  simp[h x List.mem_cons_self]
theorem dec_span (s:ByteArray) (pos:Nat) (h:pos<s.size) (ha:128≤(s[pos]'h).toNat):pos+(Utf8.decode s pos).2≤s.size∧∀j (hj:j<s.size),pos≤j→j<pos+(Utf8.decode s pos).2→128≤(s[j]'hj).toNat:=by
 have g:∀j (hj:j<s.size),s[j]'hj=s.get! j:=fun j hj=>by
  have:=get_at s j hj
  rw[Nat.add_zero]at this
  exact this.symm
 have h0:128≤(s.get! pos).toNat:=by rw[←g pos h];exact ha
 have hz:(s.get! (pos+0)).toNat=(s.get! pos).toNat:=by rw[Nat.add_zero]
 have hn:¬(s.get! (pos+0)).toNat<128:=by omega
 have key:∀m:Nat,pos+m<s.size→(∀k,1≤k→k≤m→128≤(s.get! (pos+k)).toNat)→pos+(m+1)≤s.size∧∀j (hj:j<s.size),pos≤j→j<pos+(m+1)→128≤(s[j]'hj).toNat:=fun m hm hk=>by
  refine⟨by omega,fun j hj h1 h2=>?_⟩
  rw[g j hj]
  rcases Nat.eq_or_lt_of_le h1 with e|e
  ·rw[←e];exact h0
  ·have:=hk (j - pos) (by omega) (by omega)
   have e2:pos+(j - pos)=j:=by omega
   rw[e2]at this
   exact this
 have one:=key 0 (by omega) (fun k a b=>by omega)
 have c1:∀k:Nat,(decide (pos+k<s.size)&&(s.get! (pos+k)).toNat / 64==2)=true→pos+k<s.size∧128≤(s.get! (pos+k)).toNat:=fun k hk=>by
  rw[Bool.and_eq_true,decide_eq_true_eq,beq_iff_eq]at hk
  exact⟨hk.1,by omega⟩
 unfold Utf8.decode
 simp only[if_neg hn]
 split
 ·rename_i hq
  rw[Bool.and_eq_true]at hq
  obtain⟨a1,b1⟩:=c1 1 hq.2
  split
  ·exact key 1 a1 (fun k x y=>by
    obtain rfl:k=1:=by omega
    exact b1)
  ·exact one
 ·split
  ·rename_i hq
   rw[Bool.and_eq_true,Bool.and_eq_true]at hq
   obtain⟨a1,b1⟩:=c1 1 hq.1.2
   obtain⟨a2,b2⟩:=c1 2 hq.2
   split
   ·exact key 2 a2 (fun k x y=>by
     rcases (by omega:k=1∨k=2) with rfl|rfl
     ·exact b1
     ·exact b2)
   ·exact one
  ·split
   ·rename_i hq
    rw[Bool.and_eq_true,Bool.and_eq_true,Bool.and_eq_true]at hq
    obtain⟨a1,b1⟩:=c1 1 hq.1.1.2
    obtain⟨a2,b2⟩:=c1 2 hq.1.2
    obtain⟨a3,b3⟩:=c1 3 hq.2
    split
    ·exact key 3 a3 (fun k x y=>by
      rcases (by omega:k=1∨k=2∨k=3) with rfl|rfl|rfl
      ·exact b1
      ·exact b2
      ·exact b3)
    ·exact one
   ·exact one
open Go.RowKit
def txt (l:List UInt8):ByteArray:=⟨l.toArray⟩
theorem txt_size (l:List UInt8):(txt l).size=l.length:=List.size_toArray ..
theorem txt_cat (x y:List UInt8):txt x++txt y=txt (x++y):=by
 apply ByteArray.ext
 rw[ByteArray.data_append]
 show x.toArray++y.toArray=(x++y).toArray
 simp
theorem txt_back (s:ByteArray):txt s.data.toList=s:=by
 show(⟨s.data.toList.toArray⟩:ByteArray)=s
 rw[Array.toArray_toList]
theorem txt_list (l:List UInt8):(txt l).data.toList=l:=by simp[txt]
open Go.RowKit
theorem conv_own {w:World} {B:Nat} {v:Value} {l:List UInt8} (h:w.ownsRow B 5 1 v l.length (cellsB l)):(convert 47 9 v).run Tryz.prog w=.ok (.string (txt l)) w:=by
 obtain⟨a,cap,rfl,hb,_⟩:=own_bts h
 exact bts_back hb cap
def preA (acc:List UInt8):Except (Option Nat) (List UInt8×Nat)→Except (Option Nat) (List UInt8×Nat)
 | .ok (m,n)=>.ok (acc++m,n)
 | .error e=>.error e
theorem preA_pre (acc:List UInt8) (c:UInt8) (x:Except (Option Nat) (List UInt8×Nat)):preA acc (preQ c x)=preA (acc++[c]) x:=by
 match x with
 | .ok (m,n)=>simp[preA,preQ]
 | .error e=>rfl
theorem preA_nil (x:Except (Option Nat) (List UInt8×Nat)):x=preA [] x:=by
 match x with
 | .ok (m,n)=>rfl
 | .error e=>rfl
open Go.RowKit
open Go.RowKit
open Go.RowKit
theorem low_ne {x c:UInt8} (hx:x.toNat<128) (hc:128≤c.toNat):x≠c:=fun e=>by
 rw[e]at hx
 omega
set_option maxHeartbeats 8000000 in
set_option maxRecDepth 100000 in
theorem idxrune_no (s:ByteArray) (hlow:∀x∈s.data.toList,x.toNat<128) (r:Int) (h1:128≤r) (h2:r≤2147483647) (w:World):
  Calls Tryz.prog 98 #[.string s,.int .i32 r] w fun e w'=>e=.returned (.int .i64 (-1))∧Below w.heap.size w w':=by
 have h0:(0:Int)≤r:=by omega
 have h128:¬r<128:=by omega
 have HL:Hid (∀x∈s.data.toList,x.toNat<128):=hlow
 clear hlow
 by_cases he:r=65533
 ·have heb:(r==65533)=true:=by rw[beq_iff_eq];exact he
  clear he
  go_enter Tryz.func98,Tryz.ntmps98
  go_wp2_with fail
  go_loopw [5,6] (fun _ _ wr=>∃pos:Nat,pos≤s.size∧Hid (wr=w.iter s pos)) (fun _ _ wr=>s.size - wr.iterPos w.heap.size)
  case atStart=>exact⟨0,Nat.zero_le _,rfl⟩
  case round=>
   obtain⟨pos,hp,HW⟩:=hrel
   obtain rfl:=HW.out
   by_cases hlt:pos<s.size
   ·have hx:(s[pos]'hlt).toNat<128:=HL.out _ (by rw[←get_list s pos hlt];exact List.getElem_mem _)
    have hnx:=fun ty=>run_next_ascii (P:=Tryz.prog) w s pos ty hlt hx
    have hne:(((s[pos]'hlt).toNat:Int)==65533)=false:=by rw[beq_eq_false_iff_ne];omega
    go_wp2_with fail
    go_roundw
    case rel=>exact⟨pos+1,hlt,rfl⟩
    case measure=>simp;omega
   ·have hnx:=fun ty=>run_next_end (P:=Tryz.prog) w s pos ty hlt
    go_wp2_with fail
    go_ret
    exact⟨rfl,(Below.refl _ w).alloc (Nat.le_refl _) _⟩
 ·have heb:(r==65533)=false:=by rw[beq_eq_false_iff_ne];exact he
  have HV:Hid (Calls Tryz.prog 121 #[.int .i32 r] w fun e w'=>e=.returned (.bool (Lib.validRune r))∧w'=w):=Tryz.utf8_ValidRune r w
  generalize Lib.validRune r=v at HV
  clear he
  cases v
  ·go_enter Tryz.func98,Tryz.ntmps98
   go_wp2_with fail
   refine HV.out.mono ?_
   rintro e w1 ⟨rfl,rfl⟩
   go_wp2_with fail
   go_ret
   exact⟨rfl,Below.refl _ _⟩
  ·obtain⟨n,hz,hn1,hn3,hlast⟩:=enc_last r h1
   have hcv:∀wx:World,(convert 21 9 (.int .i32 r)).run Tryz.prog wx=.ok (.string (Utf8.encode r)) wx:=fun wx=>by
    simp[go_sem]
   generalize Utf8.encode r=T at hz hlast hcv
   have hnT:n<T.size:=by omega
   have hl:=hlast hnT
   have HIB:Hid (∀wx:World,Calls Tryz.prog 67 #[.string (s.extract (n+1) s.size),.int .u8 ((T[n]'hnT).toNat:Int)] wx fun e w'=>e=.returned (.int .i64 (-1))∧w'=wx):=fun wx=>by
    have:=Tryz.strings_IndexByte (s.extract (n+1) s.size) ((T[n]'hnT).toNat:Int) wx
    have e:((T[n]'hnT).toNat:Int).toNat.toUInt8=T[n]'hnT:=by simp
    rw[e,index_none _ _ (fun x hx=>low_ne (HL.out x (by rw[ext_drop]at hx;exact List.mem_of_mem_drop hx)) hl)]at this
    exact this
   have hTz:(T.size:Int) - 1=(n:Int):=by omega
   have hn':(n:Int)<(T.size:Int):=by omega
   have hT4:T.size≤4:=by omega
   have HNE:Hid (∀h:n<s.size,(((s[n]'h).toNat:Int) != ((T[n]'hnT).toNat:Int))=true):=fun h=>by
    rw[bne_iff_ne]
    have:=HL.out (s[n]'h) (by rw[←get_list s n h];exact List.getElem_mem _)
    omega
   clear hz hlast hl
   go_enter Tryz.func98,Tryz.ntmps98
   go_wp2_with fail
   refine HV.out.mono ?_
   rintro e w1 ⟨rfl,rfl⟩
   clear HV
   go_wp2_with fail
   go_step3
   go_wp2_with fail
   go_loopw [9,10] (fun c _ wr=>c=.int .i64 (n:Int)∧Hid (wr=w1)) (fun _ _ _=>0)
   case atStart=>exact⟨rfl,rfl⟩
   case round=>
    obtain⟨rfl,HW⟩:=hrel
    obtain rfl:=HW.out
    by_cases hns:n<s.size
    ·have hns':(n:Int)<(s.size:Int):=by omega
     have hns2:(n:Int)+1≤(s.size:Int):=by omega
     have hne:=HNE.out hns
     have hwr:IntKind.i64.wrap ((n:Int)+1)=(n:Int)+1:=wrap_add _ _ (by omega) (by omega) (by omega)
     clear HNE
     go_wp2_with fail
     go_step3
     go_upto_region 6 with fail
     refine wp_region_late (fun wx=>True) 7 (by kernel_rfl) trivial (fun hHeld=>?_)
     refine tk9 0 (some 27) _ ?_
     simp only[Act.put,pA,pB,pC]
     refine tk9 1 (some 28) _ ?_
     simp only[Act.put,pA,pB,pC]
     refine tk9 2 (some 29) (.int .u8 ((s[n]'hns).toNat:Int)) ?_
     simp only[Act.put,pA,pB,pC]
     refine tk9 3 (some 30) _ ?_
     simp only[Act.put,pA,pB,pC]
     refine tk9 4 (some 31) _ ?_
     simp only[Act.put,pA,pB,pC]
     refine tk9 5 (some 32) (.int .u8 ((T[n]'hnT).toNat:Int)) ?_
     simp only[Act.put,pA,pB,pC]
     refine tk9 6 (some 33) (.bool true) ?_
     simp only[Act.put,pA,pB,pC]
     refine wpAnyE_done (by kernel_rfl) ?_ _
     clear hHeld
     go_upto_region 7 with fail
     refine wp_region_late (fun wx=>True) 9 (by kernel_rfl) trivial (fun hHeld=>?_)
     refine tk9 0 (some 34) _ ?_
     simp only[Act.put,pA,pB,pC]
     refine tk9 1 (some 35) _ ?_
     simp only[Act.put,pA,pB,pC]
     refine tk9 2 (some 36) (.int .i64 ((n:Int)+1)) ?_
     simp only[Act.put,pA,pB,pC]
     refine tk9 3 (some 37) (.string (s.extract (n+1) s.size)) ?_
     simp only[Act.put,pA,pB,pC]
     refine tk9 4 (some 38) _ ?_
     simp only[Act.put,pA,pB,pC]
     refine tk9 5 (some 39) _ ?_
     simp only[Act.put,pA,pB,pC]
     refine tk9 6 (some 40) (.int .u8 ((T[n]'hnT).toNat:Int)) ?_
     simp only[Act.put,pA,pB,pC]
     refine on9 7 ?_
     go_simp
     refine Calls.mono (HIB.out _) ?_
     rintro e y1 ⟨rfl,rfl⟩
     refine tk9 8 (some 11) (.int .i64 (-1)) ?_
     simp only[Act.put,pA,pB,pC]
     refine wpAnyE_done (by kernel_rfl) ?_ _
     clear hHeld
     go_wp2_with fail
     rw[Exit.noGoto_ret]
     simp only[Exit.inBlock]
     refine(?_:Exit.then _ (Exit.inBlock 1 (Exit.then _ (Exit.noGoto (Exit.inBlock 0 (bodyPost Tryz.prog Tryz.f98 _))))) .ret _ _)
     simp only[Exit.inBlock,Exit.then]
     rw[Exit.noGoto_ret]
     simp only[Exit.inBlock]
     go_ret
     exact⟨rfl,(Below.refl _ _).drew.drew⟩
    ·have hns':¬(n:Int)<(s.size:Int):=by omega
     go_wp2_with fail
     go_ret
     exact⟨rfl,Below.refl _ _⟩
end Go.Proofs.YtfjpkfhbmldmfabGreatDoor
