/-
  The shape of a row of one's own.
-/
import Derived.Test.YtfjpkfhbmldmfabGreatDoorBase
import Derived.Shelf.Strings.Builder1
import Derived.Test.YtfjpkfhbmldmfabGreatDoorProg
import Derived.Test.YtfjpkfhbmldmfabGreatDoorNum
import Derived.Lib.OthersKept
import Derived.Test.YtfjpkfhbmldmfabGreatDoorUtfE
import Derived.Test.YtfjpkfhbmldmfabGreatDoorPureBad
import Derived.Lib.RuneCount
namespace Go.Proofs.YtfjpkfhbmldmfabGreatDoor
open Go.RowKit
theorem own_shape {w:World} {base n:Nat} {v:Value} {xs:List Value} (h:w.ownsRow base 5 1 v n xs):∃a cap,v=.slice a n cap:=by
 rcases h.2 with⟨rfl,h0⟩|⟨g,cap,cur,hv,_⟩
 ·exact⟨none,0,by rw[h0]⟩
 ·exact⟨_,_,hv⟩
end Go.Proofs.YtfjpkfhbmldmfabGreatDoor
namespace Go.Proofs
open Go.Shelf
def Tryz.lays170_ren:Go.Shelf.Ren:=⟨fun|170=>141|n=>n,fun|70=>108|3=>3|0=>0|72=>110|37=>47|5=>5|n=>n,fun|n=>n⟩
theorem Tryz.lays170:Go.Proofs.Lays.n170 Tryz.prog Tryz.lays170_ren:={
 mixed:=by kernel_rfl
 f170:=Tryz.func141.trans (congrArg some (by kernel_rfl))
 t0:=Tryz.underlying0
 a0:=Tryz.isAgg0
 z0:=Tryz.sizeOf0
 v0:=Tryz.zeroValue0
 t3:=Tryz.underlying3
 a3:=Tryz.isAgg3
 z3:=Tryz.sizeOf3
 v3:=Tryz.zeroValue3
 t37:=Tryz.underlying47
 a37:=Tryz.isAgg47
 z37:=Tryz.sizeOf47
 v37:=Tryz.zeroValue47
 t70:=Tryz.underlying108
 a70:=Tryz.isAgg108
 z70:=Tryz.sizeOf108
 v70:=Tryz.zeroValue108
 t72:=Tryz.underlying110
 a72:=Tryz.isAgg110
 z72:=Tryz.sizeOf110
 v72:=Tryz.zeroValue110}
open Go.RowKit in
theorem Tryz.Builder_Len (B b:Nat) (bs:List Value) (w:World) (h:Lib.IsBuilder 110 5 B b bs w):
 Calls Tryz.prog 141 #[.pointer (some ⟨b,0,none⟩)] w fun e w'=>e=.returned (.int .i64 bs.length)∧w'=w:=Any.Builder_Len Tryz.lays170 B b bs w h
def Tryz.lays169_ren:Go.Shelf.Ren:=⟨fun|169=>79|n=>n,fun|70=>108|9=>9|0=>0|72=>110|37=>47|127=>128|3=>3|5=>5|n=>n,fun|n=>n⟩
theorem Tryz.lays169:Go.Proofs.Lays.n169 Tryz.prog Tryz.lays169_ren:={
 mixed:=by kernel_rfl
 f169:=Tryz.func79.trans (congrArg some (by kernel_rfl))
 t0:=Tryz.underlying0
 a0:=Tryz.isAgg0
 z0:=Tryz.sizeOf0
 v0:=Tryz.zeroValue0
 t3:=Tryz.underlying3
 a3:=Tryz.isAgg3
 z3:=Tryz.sizeOf3
 v3:=Tryz.zeroValue3
 t9:=Tryz.underlying9
 a9:=Tryz.isAgg9
 z9:=Tryz.sizeOf9
 v9:=Tryz.zeroValue9
 t37:=Tryz.underlying47
 a37:=Tryz.isAgg47
 z37:=Tryz.sizeOf47
 v37:=Tryz.zeroValue47
 t70:=Tryz.underlying108
 a70:=Tryz.isAgg108
 z70:=Tryz.sizeOf108
 v70:=Tryz.zeroValue108
 t72:=Tryz.underlying110
 a72:=Tryz.isAgg110
 z72:=Tryz.sizeOf110
 v72:=Tryz.zeroValue110
 t127:=Tryz.underlying128
 a127:=Tryz.isAgg128
 z127:=Tryz.sizeOf128
 v127:=Tryz.zeroValue128}
theorem Tryz.Builder_Extra_169:Builder.Extra Tryz.prog Tryz.lays169_ren:={
 sizeBuilder:=by kernel_rfl
 liesBuilder:=by kernel_rfl
 t5:=Tryz.underlying5
 a5:=Tryz.isAgg5
 z5:=Tryz.sizeOf5
 v5:=Tryz.zeroValue5
 infoByte:=by kernel_rfl
 cellsByte:=by kernel_rfl
 sizeByte:=by kernel_rfl
 neB5:=by decide}
open Go.RowKit in
theorem Tryz.Builder_String_any (B b:Nat) (l:List UInt8) (w:World) (h:Lib.IsBuilder 110 5 B b (Lib.byteCells l) w) (hBw:B≤w.heap.size):
 Calls Tryz.prog 79 #[.pointer (some ⟨b,0,none⟩)] w fun e w'=>e=.returned (.string ⟨l.toArray⟩)∧Below B w w':=Any.Builder_String_any Tryz.lays169 Tryz.Builder_Extra_169 B b l w h hBw
end Go.Proofs
namespace Go.Proofs.YtfjpkfhbmldmfabGreatDoor
open Go.RowKit
theorem bld_size:(Tryz.prog.info? 110).map (·.size)=some 2:=by kernel_rfl
theorem bld_lies:liesAt Tryz.prog Tryz.prog.depth 110 (2 / Tryz.prog.cellsOf 110) 0 110 1=true:=by kernel_rfl
set_option maxHeartbeats 1000000 in
set_option maxRecDepth 100000 in
theorem check_used (b:Nat) (w:World) (h0:w.cell? ⟨b,0,none⟩=some (.pointer (some ⟨b,0,none⟩))):
  Calls Tryz.prog 95 #[.pointer (some ⟨b,0,none⟩)] w fun e w'=>e=.returned (.tuple #[])∧w'=w:=by
 obtain⟨j,hj,_⟩:=Option.map_eq_some_iff.1 bld_size
 go_enter Tryz.func95,Tryz.ntmps95
 go_wp2
 rw[Lib.run_neq_ptr_same w _ Tryz.underlying108 hj]
 go_wp2
 go_end0
 exact⟨rfl,rfl⟩
set_option maxHeartbeats 1000000 in
set_option maxRecDepth 100000 in
theorem check_fresh (b:Nat) (w:World) (h0:w.cell? ⟨b,0,none⟩=some (.pointer none)) (hsh:w.shape? b=some (110,2)) (hfz:w.frozen? ⟨b,0,none⟩=false):
  Calls Tryz.prog 95 #[.pointer (some ⟨b,0,none⟩)] w fun e w'=>e=.returned (.tuple #[])∧w'=w.setCell ⟨b,0,none⟩ (.pointer (some ⟨b,0,none⟩)):=by
 obtain⟨j,hj,hjs⟩:=Option.map_eq_some_iff.1 bld_size
 go_enter Tryz.func95,Tryz.ntmps95
 go_wp2
 rw[Lib.run_to_unsafe w ⟨b,0,none⟩ Tryz.underlying108 Tryz.underlying147 hj (by rw[hjs];decide) hsh (Nat.zero_lt_succ 1)]
 simp only[Result.andThen]
 rw[Oper.upon_value]
 go_wp2
 rw[run_callFunc_extern Tryz.func115 (by kernel_rfl) (by kernel_rfl) (by kernel_rfl) (e:=Extern.AbiNoEscape.same) (by kernel_rfl)]
 rw[Lib.run_noEscape]
 simp only[Result.andThen]
 rw[Oper.upon_value]
 go_wp2
 rw[Lib.run_from_unsafe w ⟨b,0,none⟩ Tryz.underlying147 Tryz.underlying108 hj hsh bld_lies]
 simp only[Result.andThen]
 rw[Oper.upon_value]
 go_wp2
 go_end0
 exact⟨rfl,rfl⟩
structure Wrote (B b:Nat) (w w':World):Prop where
 below:Below B w w'
 kept:Lib.OthersKept 5 (some b) w w'
theorem Wrote.refl (B b:Nat) (w:World):Wrote B b w w:=⟨Below.refl _ _,Lib.OthersKept.refl _ _ _⟩
theorem Wrote.trans {B b:Nat} {x y z:World} (h:Wrote B b x y) (k:Wrote B b y z):Wrote B b x z:=⟨h.below.trans k.below,h.kept.trans k.kept⟩
theorem Wrote.lies {B b g t:Nat} {w w':World} {cs:Array Value} (h:Wrote B b w w') (hl:Lies w g cs t) (hg:g≠b) (ht:t≠5):Lies w' g cs t:=
 h.kept g _ hl (by intro e;injection e with e;exact hg e) (fun c fz e=>by injection e with _ e2;exact ht e2)
def Bl (B b:Nat) (l:List UInt8) (w:World):Prop:=Lib.IsBuilder 110 5 B b (cellsB l) w
theorem Bl.lt {B b:Nat} {l:List UInt8} {w:World} (h:Bl B b l w):b<w.heap.size:=by rcases h with h|h<;>exact Lib.BuilderAt.lt h
theorem Bl.le {B b:Nat} {l:List UInt8} {w:World} (h:Bl B b l w):B≤b:=by rcases h with h|h<;>exact h.1
theorem Bl.fresh (w:World):Bl w.heap.size w.heap.size [] (w.alloc (.cells #[.pointer none,.slice none 0 0] 110)):=Lib.fresh_isBuilder 110 5 w
theorem Bl.keep {B b:Nat} {l:List UInt8} {w w':World} (h:Bl B b l w) (hk:∀k:Nat,(∃(c:Array Value) (t:TypeId) (fz:Nat×Nat),w.heap[k]?=some (Obj.cells c t fz)∧(t=5∨t=110))→w'.heap[k]?=w.heap[k]?):Bl B b l w':=by
 have go:∀p,Lib.BuilderAt 110 5 B b p (cellsB l) w→Lib.BuilderAt 110 5 B b p (cellsB l) w':=by
  rintro p ⟨h1,v,hb,hown,hne⟩
  refine⟨h1,v,(hk b ⟨_,_,_,hb,.inr rfl⟩).trans hb,?_,hne⟩
  obtain⟨h2,h3|⟨g,cap,cur,hv,hB,hg,hr⟩⟩:=hown
  ·exact⟨h2,.inl h3⟩
  ·exact⟨h2,.inr ⟨g,cap,cur,hv,hB,(hk g ⟨_,_,_,hg,.inl rfl⟩).trans hg,hr⟩⟩
 rcases h with h|h
 ·exact .inl (go _ h)
 ·exact .inr (go _ h)
theorem Bl.below {B b:Nat} {l:List UInt8} {w w':World} (h:Bl B b l w) (hb:Below w.heap.size w w'):Bl B b l w':=
 h.keep (fun k ⟨_,_,_,hk,_⟩=>hb.block k (Array.getElem?_eq_some_iff.1 hk).1)
theorem Bl.but {B b g:Nat} {l:List UInt8} {w w':World} {cs:Array Value} {t:TypeId} (h:Bl B b l w) (hb:But g w w') (hg:Lies w g cs t) (ht:t≠5) (ht2:t≠110):Bl B b l w':=
 h.keep (fun k ⟨c,u,fz,hk,hu⟩=>hb.block k (Array.getElem?_eq_some_iff.1 hk).1 (fun e=>by
  subst e
  have:=hk.symm.trans hg
  injection this with e
  injection e with _ e2
  rcases hu with rfl|rfl
  ·exact ht e2.symm
  ·exact ht2 e2.symm))
theorem check_any (B b:Nat) (l:List UInt8) (w:World) (h:Bl B b l w):
  Calls Tryz.prog 95 #[.pointer (some ⟨b,0,none⟩)] w fun e w'=>e=.returned (.tuple #[])∧Lib.BuilderAt 110 5 B b (.pointer (some ⟨b,0,none⟩)) (cellsB l) w'∧Wrote B b w w':=by
 rcases h with h|h
 ·refine(check_fresh b w h.cell0 h.shape h.frozen0).mono ?_
  rintro e w' ⟨rfl,rfl⟩
  exact⟨rfl,h.used _,(Below.refl B w).setCell (p:=⟨b,0,none⟩) h.1 _,Lib.OthersKept.setCell (b:=b) (Lib.OthersKept.refl _ _ _) ⟨b,0,none⟩ rfl _⟩
 ·refine(check_used b w h.cell0).mono ?_
  rintro e w' ⟨rfl,rfl⟩
  exact⟨rfl,h,Wrote.refl _ _ _⟩
theorem own_kindB {w:World} {B n:Nat} {v:Value} {xs:List Value} (h:w.ownsRow B 5 1 v n xs):∀g,v.ownBlock=some g→∃c fz,w.heap[g]?=some (.cells c 5 fz):=by
 intro g hg
 rcases h.2 with⟨rfl,_⟩|⟨g',cap,cur,rfl,hB,hk,_⟩
 ·cases hg
 ·injection hg with hg
  subst hg
  exact⟨_,_,hk⟩
set_option maxHeartbeats 1000000 in
set_option maxRecDepth 100000 in
theorem wbyte_any (B b:Nat) (l:List UInt8) (c:UInt8) (w:World) (h:Bl B b l w) (hlen:l.length+1≤140737488355328) (hBw:B≤w.heap.size):
  Calls Tryz.prog 138 #[.pointer (some ⟨b,0,none⟩),.int .u8 (c.toNat:Int)] w fun e w'=>e=.returned .nilIface∧Bl B b (l++[c]) w'∧Wrote B b w w':=by
 go_enter Tryz.func138,Tryz.ntmps138
 go_wp2_with fail
 refine(check_any B b l _ h).mono ?_
 rintro e w1 ⟨rfl,⟨hB,v,hbk,hown,hne⟩,hw1⟩
 have hlt:b<w1.heap.size:=(Array.getElem?_eq_some_iff.1 hbk).1
 have c1:w1.cell? ⟨b,1,none⟩=some v:=by rw[Lib.cell_of_heap hbk];rfl
 have HBK:Hid (w1.heap[b]?=some (.cells #[.pointer (some ⟨b,0,none⟩),v] 110 (0,0))):=hbk
 have HNE:Hid (v.ownBlock≠some b):=hne
 have HW1:Hid (Wrote B b w w1):=hw1
 have HOW:Hid (w1.ownsRow B 5 1 v l.length (cellsB l)):=by rw[cellsB_length]at hown;exact hown
 clear hbk hne h hown hw1
 have hsz:=HW1.out.below.size
 go_wp2_with (at_builtin;refine wpList_append_keep rfl _ _ rfl B _ l.length l rfl (HOW.out.alloc _) (some ⟨w1.heap.size,0,none⟩) [c] 1 1 rfl rfl (.inr ⟨w1.heap.size,0,rfl,by simp,fun j hj=>by obtain rfl:j=0:=(by simpa using hj);simp⟩) (fun e=>by cases e) (by omega) (by simp;omega) ?_)
 intro v2 w2 hown2 hgrow2
 have hg2:=grown_on (World.grownBy_alloc w1 _ v.ownBlock) hgrow2 (fun _ h=>.inl h.symm)
 have HL2:Hid (Lies w2 b #[.pointer (some ⟨b,0,none⟩),v] 110):=(hg2.block b hlt (fun e=>HNE.out e.symm)).trans HBK.out
 have HW2:Hid (Wrote B b w w2):=⟨HW1.out.below.grown hg2 (by omega) (fun q hq=>(HOW.out.lt q hq).1),HW1.out.kept.grown hg2 (own_kindB HOW.out)⟩
 have c2:w2.cell? ⟨b,1,none⟩=some v:=HL2.out.cell 1
 have f2:=HL2.out.frozen 1
 have HO2:Hid (w2.ownsRow B 5 1 v2 (cellsB (l++[c])).length (cellsB (l++[c]))):=by
  show World.ownsRow _ _ _ _ _ _ _
  rw[cellsB_length,List.length_append]
  exact hown2
 obtain⟨a2,k2,rfl⟩:=own_shape hown2
 clear hown2 hgrow2 hg2
 go_wp2
 go_ret
 exact⟨rfl,.inr (Lib.BuilderAt.put hB HL2.out HO2.out (by decide)),HW2.out.below.setCell (p:=⟨b,1,none⟩) hB _,Lib.OthersKept.setCell (b:=b) HW2.out.kept ⟨b,1,none⟩ rfl _⟩
theorem bstr_any (B b:Nat) (l:List UInt8) (w:World) (h:Bl B b l w) (hBw:B≤w.heap.size):
 Calls Tryz.prog 79 #[.pointer (some ⟨b,0,none⟩)] w fun e w'=>e=.returned (.string ⟨l.toArray⟩)∧Below B w w':=Tryz.Builder_String_any B b l w h hBw
theorem blen_any (B b:Nat) (l:List UInt8) (w:World) (h:Bl B b l w):
  Calls Tryz.prog 141 #[.pointer (some ⟨b,0,none⟩)] w fun e w'=>e=.returned (.int .i64 l.length)∧w'=w:=by
 have:=Tryz.Builder_Len B b (cellsB l) w h
 rw[cellsB_length]at this
 exact this
open Go.RowKit
set_option maxHeartbeats 1000000 in
set_option maxRecDepth 100000 in
theorem isr_any (r:Int) (w:World):Calls Tryz.prog 154 #[.int .i32 r] w fun e w'=>e=.returned (.bool (decide (isR r)))∧w'=w:=by
 have HR:Hid (decide (isR r)=((decide (0≤r)&&decide (r<55296))||(decide (57343<r)&&decide (r≤1114111)))):=by
  show _=_
  by_cases h:isR r
  ·rw[decide_eq_true h]
   obtain⟨a,b,c|c⟩:=h
   ·simp[a,c]
   ·simp[b,c]
  ·rw[decide_eq_false h]
   symm
   simp only[Bool.or_eq_false_iff,Bool.and_eq_false_iff,decide_eq_false_iff_not]
   unfold isR at h
   omega
 rw[HR.out]
 by_cases h1:0≤r
 ·by_cases h2:r<55296
  ·go_enter Tryz.func154,Tryz.ntmps154
   go_wp2
   go_ret
   exact⟨ret_b (by simp[h1,h2]),rfl⟩
  ·by_cases h3:57343<r
   ·go_enter Tryz.func154,Tryz.ntmps154
    go_wp2
    go_ret
    exact⟨ret_b (by rw[Bool.eq_iff_iff];simp only[decide_eq_true_eq,Bool.or_eq_true];omega),rfl⟩
   ·go_enter Tryz.func154,Tryz.ntmps154
    go_wp2
    go_ret
    exact⟨ret_b (by rw[Bool.eq_iff_iff];simp only[decide_eq_true_eq,Bool.or_eq_true,Bool.and_eq_true,Bool.false_eq_true,false_iff];omega),rfl⟩
 ·have h3:¬57343<r:=by omega
  go_enter Tryz.func154,Tryz.ntmps154
  go_wp2
  go_ret
  exact⟨ret_b (by rw[Bool.eq_iff_iff];simp only[decide_eq_true_eq,Bool.or_eq_true,Bool.and_eq_true,Bool.false_eq_true,false_iff];omega),rfl⟩
def noR:List Int→Nat
 |[]=>0
 |r::t=>if isR r then noR t+1 else 0
theorem noR_le (l:List Int):noR l≤l.length:=by
 induction l with
 |nil=>exact Nat.le_refl _
 |cons r t ih=>simp only[noR];split<;>simp<;>omega
theorem noR_all (l:List Int):noR l=l.length↔∀r∈l,isR r:=by
 induction l with
 |nil=>simp[noR]
 |cons r t ih=>
  simp only[noR,List.length_cons,List.mem_cons,forall_eq_or_imp]
  by_cases h:isR r
  ·rw[if_pos h]
   constructor
   ·intro e;exact⟨h,ih.1 (by omega)⟩
   ·intro e;have:=ih.2 e.2;omega
  ·rw[if_neg h]
   constructor
   ·intro e;omega
   ·intro e;exact absurd e.1 h
theorem noR_drop (l:List Int) (k:Nat) (hk:k<l.length):noR (l.drop k)=if isR l[k] then noR (l.drop (k+1))+1 else 0:=by
 rw[List.drop_eq_getElem_cons hk]
 rfl
set_option maxHeartbeats 1000000 in
set_option maxRecDepth 100000 in
theorem norune_any (a:Option Addr) (l:List Int) (cap:Nat) (w:World) (hb:Nts .i32 a l w) (hs:l.length≤9223372036854775806):
  Calls Tryz.prog 136 #[.slice a l.length cap] w fun e w'=>e=.returned (.int .i64 (noR l))∧w'=w:=by
 have HL:Hid (Nts .i32 a l w):=hb
 clear hb
 go_enter Tryz.func136,Tryz.ntmps136
 go_wp2
 go_loop [7] (fun i=>∃k:Nat,i=.int .i64 k∧k≤l.length∧Hid (noR l=k+noR (l.drop k))) (fun i=>l.length - (intOf i).toNat)
 case atStart=>exact⟨0,rfl,Nat.zero_le _,by show _=_;rw[List.drop_zero];omega⟩
 case round=>
  obtain⟨k,rfl,hk,HE⟩:=hrel
  by_cases hlk:k<l.length
  ·have HD:Hid (_=_):=noR_drop l k hlk
   obtain⟨g,o,rfl,hg,hc⟩:=HL.out.cell k hlk
   have HI:=isr_any l[k] w
   by_cases hr:isR l[k]
   ·have HN:Hid (noR l=(k+1)+noR (l.drop (k+1))):=by
     show _=_
     rw[HE.out,HD.out,if_pos hr];omega
    have hd:decide (isR l[k])=true:=decide_eq_true hr
    rw[hd]at HI
    go_wp2_with (go_at_call 154;refine HI.mono ?_;rintro e w' ⟨rfl,rfl⟩)
    go_round
    case rel=>exact⟨k+1,by go_num,by omega,HN⟩
    case measure=>simp[intOf];omega
   ·have HN:Hid (noR l=k):=by
     show _=_
     rw[HE.out,HD.out,if_neg hr];omega
    have hd:decide (isR l[k])=false:=decide_eq_false hr
    rw[hd]at HI
    go_wp2_with (go_at_call 154;refine HI.mono ?_;rintro e w' ⟨rfl,rfl⟩)
    go_ret
    exact⟨ret_i64 (by rw[HN.out]),rfl⟩
  ·have HN:Hid (noR l=k):=by
    show _=_
    rw[HE.out,List.drop_eq_nil_of_le (by omega)]
    rfl
   obtain rfl:k=l.length:=by omega
   go_wp2
   go_ret
   exact⟨ret_i64 (by rw[HN.out]),rfl⟩
open Go.RowKit
set_option maxHeartbeats 1000000 in
set_option maxRecDepth 100000 in
theorem rcount_any (s:ByteArray) (w:World) (hs:s.size≤9223372036854775806):
  Calls Tryz.prog 111 #[.string s] w fun e w'=>(∃n:Nat,e=.returned (.int .i64 n)∧n≤s.size)∧Below w.heap.size w w':=by
 go_enter Tryz.func111,Tryz.ntmps111
 go_wp2
 go_loopw [2] (fun n w'=>∃(pos acc:Nat),w'=w.iter s pos∧n=.int .i64 acc∧acc≤pos∧acc≤s.size) (fun _ w'=>s.size - w'.iterPos w.heap.size)
 case atStart=>exact⟨0,0,rfl,rfl,Nat.le_refl _,Nat.zero_le _⟩
 case round=>
  obtain⟨pos,acc,rfl,rfl,hc,ha⟩:=hrel
  by_cases hp:pos<s.size
  ·have hnx:∀ty,(Instr.next (.pointer (some ⟨w.heap.size,0,none⟩)) true ty).run Tryz.prog (w.iter s pos)=_:=fun ty=>run_next_any w s pos ty hp
   have hwd:=Lib.decode_width_pos s pos hp
   go_wp2
   go_roundw
   case rel=>exact⟨pos+(Utf8.decode s pos).2,acc+1,rfl,by go_num,by omega,by omega⟩
   case measure=>
    simp
    omega
  ·have hnx:∀ty,(Instr.next (.pointer (some ⟨w.heap.size,0,none⟩)) true ty).run Tryz.prog (w.iter s pos)=_:=fun ty=>run_next_end w s pos ty hp
   go_wp2
   go_ret
   exact⟨⟨acc,rfl,ha⟩,(Below.refl _ _).alloc (Nat.le_refl _) _⟩
def decR (l:List UInt8):List Int:=if badU l<l.length then [] else decL l
def decE (l:List UInt8):Array Value:=if badU l<l.length then #[.int .i64 50,.int .i64 (badU l)] else #[.int .i64 0,.int .i64 0]
theorem oneN_whole {l:List UInt8} (h:badU l=l.length) (h0:0<l.length):∃r n,oneN l=some (r,n)∧badU (l.drop n)=(l.drop n).length:=by
 cases e:oneN l with
 |none=>rw[badU_none e]at h;omega
 |some p=>
  obtain⟨r,n⟩:=p
  refine⟨r,n,rfl,?_⟩
  have h1:=badU_some e
  have h2:=(oneN_run l r n e).1
  rw[List.length_drop]
  omega
set_option maxHeartbeats 2000000 in
set_option maxRecDepth 100000 in
theorem dec_any (s:ByteArray) (w:World) (hf:Fst w) (hs:s.size≤35184372088000):
  Calls Tryz.prog 108 #[.string s] w fun e w'=>(∃v,e=.returned (.tuple #[v,.agg (decE s.data.toList)])∧w'.ownsRow w.heap.size 21 1 v (decR s.data.toList).length (cellsN .i32 (decR s.data.toList)))∧Below w.heap.size w w':=by
 have HF:Hid (Fst w):=hf
 have hflt:=hf.lt
 have hle:=badU_le s.data.toList
 rw[len_list]at hle
 have HC:=ubs_any s (w.alloc (.cells #[.int .i64 0,.int .i64 0] 35)) (hf.below ((Below.refl _ w).alloc (Nat.le_refl _) _) hflt) (by omega)
 clear hf
 by_cases hr:badU s.data.toList<s.size
 ·have HT:Hid (decR s.data.toList=[]):=if_pos (by rw[len_list];exact hr)
  have HE:Hid (decE s.data.toList=#[.int .i64 50,.int .i64 (badU s.data.toList)]):=if_pos (by rw[len_list];exact hr)
  go_enter Tryz.func108,Tryz.ntmps108
  go_wp2_with fail
  refine HC.mono ?_
  rintro e w1 ⟨rfl,b1⟩
  have HS1:Hid (Lies w1 w.heap.size #[.int .i64 0,.int .i64 0] 35):=(Lies.new w _ 35).below b1 (by simp)
  have HW1:Hid (Below w.heap.size w w1):=((Below.refl _ w).alloc (Nat.le_refl _) _).trans (b1.mono (by simp))
  have c0:=HS1.out.cell 0
  have c1:=HS1.out.cell 1
  have f0:=HS1.out.frozen 0
  have f1:=HS1.out.frozen 1
  simp at c0 c1
  clear b1 HC
  go_wp2
  (try simp only[Exit.inBlock,Exit.then])
  refine bodyPost_ret (v:=.tuple #[.slice none 0 0,.agg #[.int .i64 50,.int .i64 (badU s.data.toList)]]) (by simp[results,Tryz.results108,go_sem,c0,c1]) rfl ⟨⟨.slice none 0 0,by rw[HE.out],?_⟩,(HW1.out.setCell (p:=⟨w.heap.size,0,none⟩) (Nat.le_refl _) _).setCell (p:=⟨w.heap.size,1,none⟩) (Nat.le_refl _) _⟩
  rw[HT.out]
  exact own_nilN _ _ _ _
 ·have hq:badU s.data.toList=s.size:=by omega
  have HT:Hid (decR s.data.toList=decL s.data.toList):=if_neg (by rw[len_list];exact hr)
  have HE:Hid (decE s.data.toList=#[.int .i64 0,.int .i64 0]):=if_neg (by rw[len_list];exact hr)
  have HQ:Hid (badU s.data.toList=s.data.toList.length):=by show _=_;rw[hq,len_list]
  rw[hq]at HC
  clear hq hr hle
  go_enter Tryz.func108,Tryz.ntmps108
  go_wp2_with fail
  refine HC.mono ?_
  rintro e w1 ⟨rfl,b1⟩
  have HS1:Hid (Lies w1 w.heap.size #[.int .i64 0,.int .i64 0] 35):=(Lies.new w _ 35).below b1 (by simp)
  have HW1:Hid (Below w.heap.size w w1):=((Below.refl _ w).alloc (Nat.le_refl _) _).trans (b1.mono (by simp))
  have HC2:=rcount_any s w1 (by omega)
  clear b1 HC
  go_wp2_with fail
  refine HC2.mono ?_
  rintro e w2 ⟨⟨n,rfl,hn⟩,b2⟩
  have HS2:Hid (Lies w2 w.heap.size #[.int .i64 0,.int .i64 0] 35):=HS1.out.below b2 HS1.out.lt
  have HW2:Hid (Below w.heap.size w w2):=HW1.out.trans (b2.mono HW1.out.size)
  clear b2 HC2
  obtain⟨w3,hmk,hown3,b3,hsz3⟩:=make_roomN w2 141 21 4 .i32 Tryz.underlying141 infoR (by omega) 0 n 0 n rfl rfl (by omega) (by omega) w.heap.size HW2.out.size
  have HS3:Hid (Lies w3 w.heap.size #[.int .i64 0,.int .i64 0] 35):=HS2.out.below b3 HS2.out.lt
  have HW3:Hid (Below w.heap.size w w3):=HW2.out.trans (b3.mono HW2.out.size)
  have HO3:Hid (w3.ownsRow w.heap.size 21 1 (.slice (some ⟨w2.heap.size,0,none⟩) 0 n) 0 (cellsN .i32 [])):=hown3
  clear hown3 b3
  go_wp2
  have HIT:Hid ((w3.iter s 0).heap[w2.heap.size+1]?=some (.stringIter s 0)):=by
   have:=World.iter_heap w3 s 0
   rw[hsz3]at this
   exact this
  have hw2:=HW2.out.size
  clear hmk HS1 HW1 HS2
  go_loopw [5] (fun v wr=>∃(pos:Nat) (acc:List Int),Hid (wr.ownsRow w.heap.size 21 1 v acc.length (cellsN .i32 acc))∧Hid (wr.heap[w2.heap.size+1]?=some (.stringIter s pos))∧Hid (Below w.heap.size w wr)∧Hid (Lies wr w.heap.size #[.int .i64 0,.int .i64 0] 35)∧Hid (acc++decL (s.data.toList.drop pos)=decL s.data.toList)∧Hid (badU (s.data.toList.drop pos)=(s.data.toList.drop pos).length)∧pos≤s.size∧acc.length≤pos) (fun _ wr=>s.size - wr.iterPos (w2.heap.size+1))
  case atStart=>exact⟨0,[],HO3.out.alloc _,HIT,HW3.out.alloc HW3.out.size _,HS3.out.alloc _,by show _=_;rw[List.drop_zero];rfl,by show _=_;rw[List.drop_zero];exact HQ.out,Nat.zero_le _,Nat.le_refl _⟩
  case round=>
   obtain⟨pos,acc,HO,HI,HW,HS,HA,HQ1,hps,hal⟩:=hrel
   have hib:w2.heap.size+1<wr.heap.size:=(Array.getElem?_eq_some_iff.1 HI.out).1
   by_cases hp:pos<s.size
   ·obtain⟨r,m,ho,hq2⟩:=oneN_whole HQ1.out (by rw[List.length_drop,len_list];omega)
    have hdec:=decode_one s pos r m ho
    have hr:=(oneN_is ho).1
    have hr0:(r.toNat:Int)=r:=Int.toNat_of_nonneg hr.1
    have hm:=(oneN_run _ r m ho)
    have hm1:=hm.1
    have hm2:=hm.2.1
    rw[List.length_drop,len_list]at hm1
    have hnx:∀ty,(Instr.next (.pointer (some ⟨w2.heap.size+1,0,none⟩)) true ty).run Tryz.prog wr=.ok (.tuple #[.bool true,.int .i64 pos,.int .i32 r]) (wr.iterAt (w2.heap.size+1) s (pos+m)):=fun ty=>by
     rw[Lib.run_next_any_at wr (w2.heap.size+1) s pos ty HI.out hp,hdec,hr0]
    have HA2:Hid ((acc++[r])++decL (s.data.toList.drop (pos+m))=decL s.data.toList):=by
     have:=HA.out
     rw[decL_some ho,List.drop_drop]at this
     show _=_
     rw[←this]
     simp
    have HQ2:Hid (badU (s.data.toList.drop (pos+m))=(s.data.toList.drop (pos+m)).length):=by
     rw[List.drop_drop]at hq2
     exact hq2
    have hne:(u5:Value).ownBlock≠some (w2.heap.size+1):=fun e=>by
     rcases HO.out.2 with⟨rfl,_⟩|⟨g',cap,cur,rfl,hB,hk,_⟩
     ·cases e
     ·injection e with e
      subst e
      have:=hk.symm.trans HI.out
      injection this with this
      cases this
    have HOI:Hid ((wr.iterAt (w2.heap.size+1) s (pos+m)).ownsRow w.heap.size 21 1 u5 acc.length (cellsN .i32 acc)):=ownN_keep HO.out (fun k hk=>Lib.iterAt_other _ _ _ _ _ (fun e=>hne (by rw[hk,e])))
    have HII:Hid ((wr.iterAt (w2.heap.size+1) s (pos+m)).heap[w2.heap.size+1]?=some (.stringIter s (pos+m))):=Lib.iterAt_heap _ _ s pos _ HI.out
    have HWI:Hid (Below w.heap.size w (wr.iterAt (w2.heap.size+1) s (pos+m))):=Lib.below_iterAt HW.out (by omega) _ _
    have HSI:Hid (Lies (wr.iterAt (w2.heap.size+1) s (pos+m)) w.heap.size #[.int .i64 0,.int .i64 0] 35):=(Lib.iterAt_other _ _ _ _ _ (by omega)).trans HS.out
    have hsI:w2.heap.size+1<(wr.iterAt (w2.heap.size+1) s (pos+m)).heap.size:=by rw[Lib.iterAt_size];exact hib
    have HNE:Hid ((u5:Value).ownBlock≠some (w2.heap.size+1)):=hne
    clear hne ho hdec hr hr0 hm hq2
    generalize wr.iterAt (w2.heap.size+1) s (pos+m)=wi at hnx HOI HII HWI HSI hsI
    go_wp2_with (at_builtin;refine wpList_append_num rfl _ _ 141 21 4 .i32 Tryz.underlying141 infoR (by omega) rfl w.heap.size _ acc.length acc rfl (HOI.out.alloc _) ⟨wi.heap.size,0,none⟩ r 1 rfl (one_nts _ _ _ _) (by omega) (by simp;omega) ?_)
    intro v4 w4 hown4 hgrow4
    have hg4:=grown_on (World.grownBy_alloc wi _ (u5:Value).ownBlock) hgrow4 (fun _ h=>.inl h.symm)
    have HI4:Hid (w4.heap[w2.heap.size+1]?=some (.stringIter s (pos+m))):=(hg4.block _ (by omega) (fun e=>HNE.out e.symm)).trans HII.out
    have HW4:Hid (Below w.heap.size w w4):=HWI.out.grown hg4 HWI.out.size (fun q hq=>(HOI.out.lt q hq).1)
    have HS4:Hid (Lies w4 w.heap.size #[.int .i64 0,.int .i64 0] 35):=(hg4.block _ HSI.out.lt (fun e=>ownN_apart HOI.out HSI.out (by decide) _ e.symm rfl)).trans HSI.out
    have HO4:Hid (w4.ownsRow w.heap.size 21 1 v4 (acc++[r]).length (cellsN .i32 (acc++[r]))):=by
     show World.ownsRow _ _ _ _ _ _ _
     rw[List.length_append]
     exact hown4
    clear hown4 hgrow4 hg4
    go_wp2
    go_roundw
    case rel=>exact⟨pos+m,acc++[r],HO4,HI4,HW4,HS4,HA2,HQ2,by omega,by simp;omega⟩
    case measure=>
     simp only[World.iterPos,HI4.out,HI.out]
     omega
   ·have hnx:∀ty,(Instr.next (.pointer (some ⟨w2.heap.size+1,0,none⟩)) true ty).run Tryz.prog wr=.ok (.tuple #[.bool false]) wr:=fun ty=>Lib.run_next_end_at wr (w2.heap.size+1) s pos ty HI.out hp
    have HD:Hid (decL s.data.toList=acc):=by
     have:=HA.out
     rw[List.drop_eq_nil_of_le (by rw[len_list];omega),decL_none rfl,List.append_nil]at this
     exact this.symm
    have c0:=HS.out.cell 0
    have c1:=HS.out.cell 1
    have f0:=HS.out.frozen 0
    have f1:=HS.out.frozen 1
    simp at c0 c1
    go_wp2
    (try simp only[Exit.inBlock,Exit.then])
    refine bodyPost_ret (v:=.tuple #[u5,.agg #[.int .i64 0,.int .i64 0]]) (by simp[results,Tryz.results108,go_sem,c0,c1]) rfl ⟨⟨u5,by rw[HE.out],?_⟩,(HW.out.setCell (p:=⟨w.heap.size,0,none⟩) (Nat.le_refl _) _).setCell (p:=⟨w.heap.size,1,none⟩) (Nat.le_refl _) _⟩
    rw[HT.out,HD.out]
    have hap:=ownN_apart HO.out HS.out (by decide)
    exact ownN_keep HO.out (fun k hk=>(Below.heap_setCell _ _ _ _ (hap k hk)).trans (Below.heap_setCell _ _ _ _ (hap k hk)))
end Go.Proofs.YtfjpkfhbmldmfabGreatDoor
