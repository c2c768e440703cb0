/-
  Rows of atoms and quoted texts from any place on.
-/
import Derived.Test.YtfjpkfhbmldmfabGreatDoorPtA
import Derived.Test.YtfjpkfhbmldmfabGreatDoorRpP
import Derived.Shelf.Strings.IndexAny
import Derived.Shelf.Strings.AsciiSet
import Derived.Shelf.Strings.Runes
import Derived.Shelf.Small.Utf8
import Derived.Shelf.Strings.Prefix
import Derived.Shelf.Strings.Search1
import Derived.Test.YtfjpkfhbmldmfabGreatDoorProg
import Derived.Test.YtfjpkfhbmldmfabGreatDoorLate5
import Derived.Test.YtfjpkfhbmldmfabGreatDoorPg8
import Derived.Test.YtfjpkfhbmldmfabGreatDoorPureBad
namespace Go.Proofs.YtfjpkfhbmldmfabGreatDoor
theorem rowG_shift (k:Nat):∀(s:List UInt8) (e i:Nat) (b:Bool),rowG (e+k) (i+k) b s=rowG e i b s+k
 |[],_,_,_=>rfl
 |c::r,e,i,b=>by
  rw[rowG,rowG]
  have h1:=rowG_shift k r (i+1) (i+1) true
  have h2:=rowG_shift k r e (i+1) false
  rw[show i+1+k=i+k+1 from by omega]at h1 h2
  rw[h1,h2]
  split
  ·rfl
  ·split<;>rfl
def shQ (k:Nat):Except (Option Nat) (List UInt8×Nat)→Except (Option Nat) (List UInt8×Nat)
 | .ok (m,n)=>.ok (m,n+k)
 | .error none=>.error none
 | .error (some p)=>.error (some (p+k))
theorem shQ_pre (k:Nat) (c:UInt8) (x:Except (Option Nat) (List UInt8×Nat)):shQ k (preQ c x)=preQ c (shQ k x):=by
 match x with
 | .ok (m,n)=>rfl
 | .error none=>rfl
 | .error (some p)=>rfl
theorem qtM_shift (k:Nat):∀(s:List UInt8) (i:Nat) (b:Bool),1≤i→qtM (i+k) b s=shQ k (qtM i b s)
 |[],i,b,_=>by cases b<;>rfl
 |c::r,i,true,h=>by
  rw[qtM,qtM]
  split
  ·rw[shQ_pre,←qtM_shift k r (i+1) false (by omega),show i+1+k=i+k+1 from by omega]
  ·show Except.error (some (i+k - 1))=Except.error (some (i - 1+k))
   rw[show i+k - 1=i - 1+k from by omega]
 |c::r,i,false,h=>by
  rw[qtM,qtM]
  split
  ·show Except.ok ([],i+k+1)=Except.ok ([],i+1+k)
   rw[show i+k+1=i+1+k from by omega]
  ·split
   ·rw[←qtM_shift k r (i+1) true (by omega),show i+1+k=i+k+1 from by omega]
   ·split
    ·rw[shQ_pre,←qtM_shift k r (i+1) false (by omega),show i+1+k=i+k+1 from by omega]
    ·rfl
theorem step_34 (q:Q) (hq:q.1≠0→128≤q.2.1):stepQ q 34=if q.1=0 then some (0,0,0) else none:=by
 unfold stepQ
 by_cases h:q.1=0
 ·rw[if_pos h,if_pos h]
  rfl
 ·rw[if_neg h,if_neg h,if_pos (.inl (by have:=hq h;omega))]
theorem beg_low {b:Nat} {q:Q} (h:begQ b=some q):q.1≠0→128≤q.2.1:=by
 unfold begQ at h
 repeat' split at h
 all_goals first|(cases h;done)|(cases h;decide)
theorem step_low {q q':Q} {b:Nat} (h:stepQ q b=some q'):q'.1≠0→128≤q'.2.1:=by
 unfold stepQ at h
 split at h
 ·exact beg_low h
 ·split at h
  ·cases h
  ·split at h
   ·cases h;decide
   ·cases h;exact fun _=>Nat.le_refl _
theorem badUA_mark:∀(l:List UInt8) (q:Q) (n w:Nat),w≤n→(q.1=0↔w=n)→(q.1≠0→128≤q.2.1)→badUA q n w (l++[34])=if badUA q n w l=n+l.length then n+l.length+1 else badUA q n w l
 |[],q,n,w,hw,hq,hl=>by
  have e34:stepQ q (34:UInt8).toNat=if q.1=0 then some (0,0,0) else none:=step_34 q hl
  by_cases h:q.1=0
  ·have e:=hq.1 h
   subst e
   rw[if_pos h]at e34
   simp only[List.nil_append,badUA,e34,List.length_nil,Nat.add_zero,if_true]
  ·rw[if_neg h]at e34
   have hne:¬badUA q n w []=n+([]:List UInt8).length:=fun e=>h (hq.2 e)
   rw[if_neg hne]
   simp only[List.nil_append,badUA,e34]
 |b::t,q,n,w,hw,hq,hl=>by
  rw[List.cons_append,badUA,badUA]
  cases hs:stepQ q b.toNat with
  |none=>
   dsimp only
   rw[List.length_cons,if_neg (by omega)]
  |some q1=>
   dsimp only
   have:=badUA_mark t q1 (n+1) (if q1.1=0 then n+1 else w) (by split<;>omega) (by
    by_cases h:q1.1=0
    ·rw[if_pos h];exact⟨fun _=>rfl,fun _=>h⟩
    ·rw[if_neg h];exact⟨fun e=>absurd e h,fun e=>by omega⟩) (step_low hs)
   rw[this,List.length_cons]
   have e:n+1+t.length=n+(t.length+1):=by omega
   rw[e]
theorem badU_mark (l:List UInt8):badU (l++[34])=if badU l=l.length then l.length+1 else badU l:=by
 have:=badUA_mark l q0 0 0 (Nat.le_refl _) ⟨fun _=>rfl,fun _=>rfl⟩ (fun h=>absurd rfl h)
 rw[Nat.zero_add]at this
 exact this
theorem badU_low {c:UInt8} (h:c.toNat<128) (r:List UInt8):badU (c::r)=1+badU r:=by
 have h1:oneN (c::r)=some ((c.toNat:Int),1):=by
  show(if c.toNat<128 then _ else _)=_
  exact if_pos h
 rw[badU_some h1]
 rfl
theorem spB_mark (l:List UInt8):spB loB (l++[34])=if spB loB l=l.length then l.length+1 else spB loB l:=by
 induction l with
 |nil=>rfl
 |cons c r ih=>
  rw[List.cons_append,spB,spB,ih,List.length_cons]
  by_cases h:loB c=true
  ·rw[if_pos h,if_pos h]
   by_cases h2:spB loB r=r.length
   ·rw[if_pos h2,if_pos (by omega)]
   ·rw[if_neg h2,if_neg (by omega)]
  ·rw[if_neg h,if_neg h,if_neg (by omega)]
theorem lo_34:loB 34=true:=by decide
def fwL (wide:Bool) (l:List UInt8):Nat:=if wide=true then badU l else spB loB l
theorem fwL_le (wide:Bool) (l:List UInt8):fwL wide l≤l.length:=by
 unfold fwL
 split
 ·exact badU_le l
 ·exact spB_le loB l
theorem fwL_mark (wide:Bool) (l:List UInt8):fwL wide (34::(l++[34]))=if fwL wide l=l.length then l.length+2 else 1+fwL wide l:=by
 unfold fwL
 cases wide
 ·simp only[Bool.false_eq_true,if_false]
  rw[spB,if_pos lo_34,spB_mark]
  split<;>omega
 ·simp only[if_true]
  rw[badU_low (show(34:UInt8).toNat<128 by decide),badU_mark]
  split<;>omega
theorem badU_lows:∀(l:List UInt8),spB loB l=l.length→badU l=l.length
 |[],_=>rfl
 |c::r,h=>by
  rw[spB,List.length_cons]at h
  by_cases hc:loB c=true
  ·rw[if_pos hc]at h
   rw[badU_low (by unfold loB at hc;simpa using hc),badU_lows r (by omega),List.length_cons]
   omega
  ·rw[if_neg hc]at h
   omega
theorem finL_fw (wide:Bool) (b:List UInt8) (f:Nat) (m:List UInt8) (n:Nat):finL wide b f m n=if 64<n then .error (90,0) else if fwL wide b<b.length then .error (94,f+fwL wide b) else .ok (m,n):=by
 unfold finL fwL
 by_cases h:64<n
 ·rw[if_pos h,if_pos h]
 ·rw[if_neg h,if_neg h]
  cases wide
  ·rw[if_neg (show ¬(false=true) by decide)]
   by_cases h1:spB loB b<b.length
   ·rw[if_pos ⟨rfl,h1⟩,if_pos h1]
   ·rw[if_neg (fun x=>h1 x.2),if_neg h1]
    have h2:=badU_lows b (by have:=spB_le loB b;omega)
    rw[if_neg (by omega)]
  ·rw[if_neg (fun x=>by cases x.1),if_pos rfl]
def shE {α:Type} (a:Nat):Except (Nat×Nat) (α×Nat)→Except (Nat×Nat) (α×Nat)
 | .ok (x,n)=>.ok (x,a+n)
 | .error (e,p)=>.error (e,a+p)
def meL (s:List UInt8):Except (Nat×Nat) (List UInt8×Nat):=
 if s.head?=some 34 then (match qtM 1 false (s.drop 1) with
  | .ok (m,n)=>.ok (m,n)
  | .error none=>.error (91,0)
  | .error (some p)=>.error (90,p))
 else if rowL s=0 then .error (90,0)
 else .ok (s.take (rowL s),rowL s)
theorem qtM_ends:∀(s:List UInt8) (i:Nat) (b:Bool) (m:List UInt8) (n:Nat),qtM i b s=.ok (m,n)→i<n∧n - i≤s.length∧s.take (n - i)=s.take (n - 1 - i)++[34]
 |[],i,b,m,n,h=>by unfold qtM at h;cases h
 |c::r,i,true,m,n,h=>by
  rw[qtM]at h
  split at h
  ·obtain⟨m',rfl,h'⟩:=preQ_ok h
   obtain⟨h1,h2,h3⟩:=qtM_ends r (i+1) false m' n h'
   refine⟨by omega,by rw[List.length_cons];omega,?_⟩
   have e1:n - i=(n - (i+1))+1:=by omega
   have e2:n - 1 - i=(n - 1 - (i+1))+1:=by omega
   rw[e1,e2,List.take_succ_cons,List.take_succ_cons,h3,List.cons_append]
  ·cases h
 |c::r,i,false,m,n,h=>by
  rw[qtM]at h
  split at h
  ·rename_i hc
   injection h with h
   injection h with h1 h2
   subst h2
   refine⟨by omega,by rw[List.length_cons];omega,?_⟩
   have e1:i+1 - i=1:=by omega
   have e2:i+1 - 1 - i=0:=by omega
   rw[e1,e2,hc]
   rfl
  ·split at h
   ·obtain⟨h1,h2,h3⟩:=qtM_ends r (i+1) true m n h
    refine⟨by omega,by rw[List.length_cons];omega,?_⟩
    have h4:i+1≠n - 1∨True:=.inr trivial
    have e1:n - i=(n - (i+1))+1:=by omega
    by_cases hz:n - 1 - i=0
    ·have:n - (i+1)=0:=by omega
     omega
    ·have e2:n - 1 - i=(n - 1 - (i+1))+1:=by omega
     rw[e1,e2,List.take_succ_cons,List.take_succ_cons,h3,List.cons_append]
   ·split at h
    ·obtain⟨m',rfl,h'⟩:=preQ_ok h
     obtain⟨h1,h2,h3⟩:=qtM_ends r (i+1) false m' n h'
     refine⟨by omega,by rw[List.length_cons];omega,?_⟩
     have e1:n - i=(n - (i+1))+1:=by omega
     have e2:n - 1 - i=(n - 1 - (i+1))+1:=by omega
     rw[e1,e2,List.take_succ_cons,List.take_succ_cons,h3,List.cons_append]
    ·cases h
theorem lcl_me (wide:Bool) (s:List UInt8):lcl wide s=match meL s with
  | .error e=>.error e
  | .ok (m,n)=>if 64<n then .error (90,0) else if fwL wide (s.take n)<(s.take n).length then .error (94,fwL wide (s.take n)) else .ok (m,n):=by
 unfold lcl meL
 by_cases h:s.head?=some 34
 ·rw[if_pos h,if_pos h]
  cases hq:qtM 1 false (s.drop 1) with
  |error x=>
   cases x<;>rfl
  |ok x=>
   obtain⟨m,n⟩:=x
   obtain⟨h1,h2,h3⟩:=qtM_ends _ _ _ _ _ hq
   dsimp only
   rw[finL_fw]
   obtain⟨c,r,rfl⟩:∃c r,s=c::r:=by
    cases s with
    |nil=>cases h
    |cons c r=>exact⟨c,r,rfl⟩
   rw[List.head?_cons]at h
   injection h with h
   subst h
   rw[List.drop_succ_cons,List.drop_zero]at h2 h3 ⊢
   have e1:n=(n - 1)+1:=by omega
   have ht:(34::r).take n=34::(r.take (n - 2)++[34]):=by
    have e3:n - 1 - 1=n - 2:=by omega
    rw[e3]at h3
    conv=>lhs;rw[e1]
    rw[List.take_succ_cons,h3]
   rw[ht,fwL_mark]
   have hl:(r.take (n - 2)).length=n - 2:=by rw[List.length_take];omega
   have hle:=fwL_le wide (r.take (n - 2))
   rw[hl]at hle
   have hll:(34::(r.take (n - 2)++[34])).length=n:=by
    rw[List.length_cons,List.length_append,hl,List.length_singleton]
    omega
   rw[hll,hl]
   by_cases h6:64<n
   ·rw[if_pos h6,if_pos h6]
   ·rw[if_neg h6,if_neg h6]
    by_cases h7:fwL wide (r.take (n - 2))=n - 2
    ·rw[if_neg (by omega),if_pos h7,if_neg (by omega)]
    ·rw[if_pos (by omega),if_neg h7,if_pos (by omega)]
 ·rw[if_neg h,if_neg h]
  by_cases h0:rowL s=0
  ·rw[if_pos h0,if_pos h0]
  ·rw[if_neg h0,if_neg h0,finL_fw]
   dsimp only
   rw[Nat.zero_add]
theorem meL_le {s m:List UInt8} {n:Nat} (h:meL s=.ok (m,n)):n≤s.length:=by
 unfold meL at h
 split at h
 ·cases hq:qtM 1 false (s.drop 1) with
  |error x=>rw[hq]at h;cases x<;>cases h
  |ok x=>
   obtain⟨m',n'⟩:=x
   rw[hq]at h
   dsimp only at h
   injection h with h
   injection h with h1 h2
   subst h2
   obtain⟨h1,h2,_⟩:=qtM_ends _ _ _ _ _ hq
   rw[List.length_drop]at h2
   omega
 ·split at h
  ·cases h
  ·injection h with h
   injection h with h1 h2
   subst h2
   exact rowL_le s
end Go.Proofs.YtfjpkfhbmldmfabGreatDoor
namespace Go.Proofs
def Tryz.lays119_ren:Go.Shelf.Ren:=⟨fun|119=>121|n=>n,fun|21=>21|4=>4|n=>n,fun|n=>n⟩
theorem Tryz.lays119:Go.Proofs.Lays.n119 Tryz.prog Tryz.lays119_ren:={
 mixed:=by kernel_rfl
 f119:=Tryz.func121.trans (congrArg some (by kernel_rfl))
 t4:=Tryz.underlying4
 a4:=Tryz.isAgg4
 z4:=Tryz.sizeOf4
 v4:=Tryz.zeroValue4
 t21:=Tryz.underlying21
 a21:=Tryz.isAgg21
 z21:=Tryz.sizeOf21
 v21:=Tryz.zeroValue21}
theorem Tryz.utf8_ValidRune (r:Int) (w:World):
 Calls Tryz.prog 121 #[.int .i32 r] w fun e w'=>e=.returned (.bool (Lib.validRune r))∧w'=w:=Any.utf8_ValidRune Tryz.lays119 r w
def Tryz.lays99_ren:Go.Shelf.Ren:=⟨fun|99=>85|206=>102|n=>n,fun|9=>9|4=>4|3=>3|n=>n,fun|n=>n⟩
theorem Tryz.lays99:Go.Proofs.Lays.n99 Tryz.prog Tryz.lays99_ren:={
 mixed:=by kernel_rfl
 f99:=Tryz.func85.trans (congrArg some (by kernel_rfl))
 f206:=Tryz.func102.trans (congrArg some (by kernel_rfl))
 t3:=Tryz.underlying3
 a3:=Tryz.isAgg3
 z3:=Tryz.sizeOf3
 v3:=Tryz.zeroValue3
 t4:=Tryz.underlying4
 a4:=Tryz.isAgg4
 z4:=Tryz.sizeOf4
 v4:=Tryz.zeroValue4
 t9:=Tryz.underlying9
 a9:=Tryz.isAgg9
 z9:=Tryz.sizeOf9
 v9:=Tryz.zeroValue9}
open Go.RowKit Go.Lib in
theorem Tryz.strings_HasPrefix (s p:ByteArray) (w:World):
 Calls Tryz.prog 85 #[.string s,.string p] w fun e w'=>e=.returned (.bool (Lib.hasPrefix s.data.toList p.data.toList))∧w'=w:=Any.strings_HasPrefix Tryz.lays99 s p w
def Tryz.lays152_ren:Go.Shelf.Ren:=⟨fun|152=>98|137=>67|119=>121|224=>122|225=>123|217=>89|266=>110|n=>n,fun|9=>9|21=>21|3=>3|4=>4|5=>5|0=>0|46=>54|n=>n,fun|n=>n⟩
theorem Tryz.lays152:Go.Proofs.Lays.n152 Tryz.prog Tryz.lays152_ren:={
 mixed:=by kernel_rfl
 f119:=Tryz.func121.trans (congrArg some (by kernel_rfl))
 f137:=Tryz.func67.trans (congrArg some (by kernel_rfl))
 f152:=Tryz.func98.trans (congrArg some (by kernel_rfl))
 f217:=Tryz.func89.trans (congrArg some (by kernel_rfl))
 f224:=Tryz.func122.trans (congrArg some (by kernel_rfl))
 f225:=Tryz.func123.trans (congrArg some (by kernel_rfl))
 f266:=Tryz.func110.trans (congrArg some (by kernel_rfl))
 t0:=Tryz.underlying0
 a0:=Tryz.isAgg0
 z0:=Tryz.sizeOf0
 v0:=Tryz.zeroValue0
 t3:=Tryz.underlying3
 a3:=Tryz.isAgg3
 z3:=Tryz.sizeOf3
 v3:=Tryz.zeroValue3
 t4:=Tryz.underlying4
 a4:=Tryz.isAgg4
 z4:=Tryz.sizeOf4
 v4:=Tryz.zeroValue4
 t5:=Tryz.underlying5
 a5:=Tryz.isAgg5
 z5:=Tryz.sizeOf5
 v5:=Tryz.zeroValue5
 t9:=Tryz.underlying9
 a9:=Tryz.isAgg9
 z9:=Tryz.sizeOf9
 v9:=Tryz.zeroValue9
 t21:=Tryz.underlying21
 a21:=Tryz.isAgg21
 z21:=Tryz.sizeOf21
 v21:=Tryz.zeroValue21
 t46:=Tryz.underlying54
 a46:=Tryz.isAgg54
 z46:=Tryz.sizeOf54
 v46:=Tryz.zeroValue54}
open Go.RowKit Go.Lib in
theorem Tryz.strings_IndexRune_ascii (s:ByteArray) (r:Int) (w:World) (h0:0≤r) (h1:r<128):
 Calls Tryz.prog 98 #[.string s,.int .i32 r] w fun e w'=>e=.returned (.int .i64 (Lib.indexByte s.data.toList r.toNat.toUInt8))∧w'=w:=Any.strings_IndexRune_ascii Tryz.lays152 s r w h0 h1
def Tryz.lays226_ren:Go.Shelf.Ren:=⟨fun|226=>99|n=>n,fun|3=>3|4=>4|n=>n,fun|n=>n⟩
theorem Tryz.lays226:Go.Proofs.Lays.n226 Tryz.prog Tryz.lays226_ren:={
 mixed:=by kernel_rfl
 f226:=Tryz.func99.trans (congrArg some (by kernel_rfl))
 t3:=Tryz.underlying3
 a3:=Tryz.isAgg3
 z3:=Tryz.sizeOf3
 v3:=Tryz.zeroValue3
 t4:=Tryz.underlying4
 a4:=Tryz.isAgg4
 z4:=Tryz.sizeOf4
 v4:=Tryz.zeroValue4}
open Go.RowKit Go.Lib in
theorem Tryz.strings_shouldUseASCIISet (n:Int) (w:World):
 Calls Tryz.prog 99 #[.int .i64 n] w fun e w'=>e=.returned (.bool (decide (8<n)))∧w'=w:=Any.strings_shouldUseASCIISet Tryz.lays226 n w
def Tryz.lays227_ren:Go.Shelf.Ren:=⟨fun|227=>100|n=>n,fun|9=>9|116=>132|4=>4|0=>0|3=>3|5=>5|n=>n,fun|n=>n⟩
theorem Tryz.lays227:Go.Proofs.Lays.n227 Tryz.prog Tryz.lays227_ren:={
 mixed:=by kernel_rfl
 f227:=Tryz.func100.trans (congrArg some (by kernel_rfl))
 t0:=Tryz.underlying0
 a0:=Tryz.isAgg0
 z0:=Tryz.sizeOf0
 v0:=Tryz.zeroValue0
 t3:=Tryz.underlying3
 a3:=Tryz.isAgg3
 z3:=Tryz.sizeOf3
 v3:=Tryz.zeroValue3
 t4:=Tryz.underlying4
 a4:=Tryz.isAgg4
 z4:=Tryz.sizeOf4
 v4:=Tryz.zeroValue4
 t5:=Tryz.underlying5
 a5:=Tryz.isAgg5
 z5:=Tryz.sizeOf5
 v5:=Tryz.zeroValue5
 t9:=Tryz.underlying9
 a9:=Tryz.isAgg9
 z9:=Tryz.sizeOf9
 v9:=Tryz.zeroValue9
 t116:=Tryz.underlying132
 a116:=Tryz.isAgg132
 z116:=Tryz.sizeOf132}
open Go.RowKit Go.Lib in
theorem Tryz.strings_makeASCIISet (hv116:∀w,(zeroValue 132).run Tryz.prog w=.ok (.agg (Array.replicate 256 (.bool false))) w) (chars:ByteArray) (w:World) (hs:chars.size<4294967281) (hascii:∀(j:Nat) b,chars.data.toList[j]?=some b→b.toNat<128):
 Calls Tryz.prog 100 #[.string chars] w fun e w'=>e=.returned (.tuple #[.agg (Lib.setCells chars.data.toList),.bool true])∧w'=w.alloc (.cells (Lib.setCells chars.data.toList) 132):=Any.strings_makeASCIISet Tryz.lays227 hv116 (by kernel_rfl) chars w hs hascii
def Tryz.lays228_ren:Go.Shelf.Ren:=⟨fun|228=>101|n=>n,fun|124=>158|5=>5|4=>4|0=>0|116=>132|n=>n,fun|n=>n⟩
theorem Tryz.lays228:Go.Proofs.Lays.n228 Tryz.prog Tryz.lays228_ren:={
 mixed:=by kernel_rfl
 f228:=Tryz.func101.trans (congrArg some (by kernel_rfl))
 t0:=Tryz.underlying0
 a0:=Tryz.isAgg0
 z0:=Tryz.sizeOf0
 v0:=Tryz.zeroValue0
 t4:=Tryz.underlying4
 a4:=Tryz.isAgg4
 z4:=Tryz.sizeOf4
 v4:=Tryz.zeroValue4
 t5:=Tryz.underlying5
 a5:=Tryz.isAgg5
 z5:=Tryz.sizeOf5
 v5:=Tryz.zeroValue5
 t116:=Tryz.underlying132
 a116:=Tryz.isAgg132
 z116:=Tryz.sizeOf132
 t124:=Tryz.underlying158
 a124:=Tryz.isAgg158
 z124:=Tryz.sizeOf158
 v124:=Tryz.zeroValue158}
open Go.RowKit Go.Lib in
theorem Tryz.asciiSet_contains (b:Nat) (x:UInt8) (v:Bool) (w:World) (hc:w.cell? ⟨b,x.toNat,none⟩=some (.bool v)):
 Calls Tryz.prog 101 #[.pointer (some ⟨b,0,none⟩),.int .u8 x.toNat] w fun e w'=>e=.returned (.bool v)∧w'=w:=Any.asciiSet_contains Tryz.lays228 b x v w hc
end Go.Proofs
namespace Go.Proofs.YtfjpkfhbmldmfabGreatDoor
open Go.RowKit
theorem oper_val {P:Program} {op:Oper} {a:Act} {w:World} {K:Act→World→Prop} {Q:Exit→Act→World→Prop} (d:Option Tmp) (v:Value) (hd:op.dst=d) (hy:(execOp a.eval op).run P w=.ok (.value v) w) (h:K (a.put d v) w):op.wp P a w K Q:=by
 subst hd
 unfold Oper.wp
 rw[hy]
 exact h
theorem oper_skip {P:Program} {op:Oper} {a:Act} {w w':World} {K:Act→World→Prop} {Q:Exit→Act→World→Prop} (hy:(execOp a.eval op).run P w=.ok .skip w') (hd:op.dst=none) (h:K a w'):op.wp P a w K Q:=by
 unfold Oper.wp
 rw[hy]
 have e:a.put op.dst undef=a:=by rw[hd];rfl
 exact(show K (a.put op.dst undef) w' from by rw[e];exact h)
theorem wrap_add (x y:Int) (hx:0≤x) (hy:0≤y) (hxy:x+y≤9223372036854775807):IntKind.i64.wrap (x+y)=x+y:=by rw[IntKind.wrap_i64];omega
theorem oper_valw {P:Program} {op:Oper} {a:Act} {w w':World} {K:Act→World→Prop} {Q:Exit→Act→World→Prop} (d:Option Tmp) (v:Value) (hd:op.dst=d) (hy:(execOp a.eval op).run P w=.ok (.value v) w') (h:K (a.put d v) w'):op.wp P a w K Q:=by
 subst hd
 unfold Oper.wp
 rw[hy]
 exact h
theorem oper_call {P:Program} {op:Oper} {a:Act} {w:World} {K:Act→World→Prop} {Q:Exit→Act→World→Prop} (d:Option Tmp) (f:FuncId) (args:Array Value) (R:Value→World→Prop) (hd:op.dst=d) (hy:(execOp a.eval op).run P w=.ok (.enter f args) w)
  (hc:Calls P f args w fun e w'=>∃v,e=.returned v∧R v w') (h:∀v w',R v w'→K (a.put d v) w'):op.wp P a w K Q:=by
 subst hd
 unfold Oper.wp
 rw[hy,Oper.upon_enter]
 refine hc.mono ?_
 rintro e w' ⟨v,rfl,hr⟩
 exact h v w' hr
theorem wpAnyE_two {P:Program} {ops:Array Oper} {Q:Exit→Act→World→Prop} {md:Region.Mode} {S:World→Prop} {L:Nat} {fuel:Nat} {listed:Array Bool} {a:Act} {w:World} (i j:Nat) {o p:Oper} (hr:Region.ready md ops listed=[i,j]) (hi:ops[i]?=some o) (hj:ops[j]?=some p)
  (hw:Region.wanted o (yielded ops a.tmps)=true) (hv:Region.wanted p (yielded ops a.tmps)=true)
  (h:o.wp P a w (fun a' w'=>(i=L∨S w')∧wpAnyE P md ops Q S L fuel (listed.setIfInBounds i true) a' w') Q)
  (k:p.wp P a w (fun a' w'=>(j=L∨S w')∧wpAnyE P md ops Q S L fuel (listed.setIfInBounds j true) a' w') Q):wpAnyE P md ops Q S L (fuel+1) listed a w:=
 ⟨fun h0=>(by rw[h0]at hr;cases hr),fun x hx=>by
  rw[hr]at hx
  simp only[List.mem_cons,List.not_mem_nil,or_false]at hx
  rcases hx with rfl|rfl
  ·unfold wpOp
   simp only[hi,hw,if_true]
   exact .inl h
  ·unfold wpOp
   simp only[hj,hv,if_true]
   exact .inl k⟩
theorem wpAnyE_three {P:Program} {ops:Array Oper} {Q:Exit→Act→World→Prop} {md:Region.Mode} {S:World→Prop} {L:Nat} {fuel:Nat} {listed:Array Bool} {a:Act} {w:World} (i j l:Nat) {o p q:Oper} (hr:Region.ready md ops listed=[i,j,l]) (hi:ops[i]?=some o) (hj:ops[j]?=some p) (hl:ops[l]?=some q)
  (hw:Region.wanted o (yielded ops a.tmps)=true) (hv:Region.wanted p (yielded ops a.tmps)=true) (hu:Region.wanted q (yielded ops a.tmps)=true)
  (h:o.wp P a w (fun a' w'=>(i=L∨S w')∧wpAnyE P md ops Q S L fuel (listed.setIfInBounds i true) a' w') Q)
  (k:p.wp P a w (fun a' w'=>(j=L∨S w')∧wpAnyE P md ops Q S L fuel (listed.setIfInBounds j true) a' w') Q)
  (m:q.wp P a w (fun a' w'=>(l=L∨S w')∧wpAnyE P md ops Q S L fuel (listed.setIfInBounds l true) a' w') Q):wpAnyE P md ops Q S L (fuel+1) listed a w:=
 ⟨fun h0=>(by rw[h0]at hr;cases hr),fun x hx=>by
  rw[hr]at hx
  simp only[List.mem_cons,List.not_mem_nil,or_false]at hx
  rcases hx with rfl|rfl|rfl
  ·unfold wpOp
   simp only[hi,hw,if_true]
   exact .inl h
  ·unfold wpOp
   simp only[hj,hv,if_true]
   exact .inl k
  ·unfold wpOp
   simp only[hl,hu,if_true]
   exact .inl m⟩
open Go.RowKit
def at5 (c:UInt8):Bool:=ldB c||[33,35,36,37,38,39,42,43,45,47,61,63,94,95,96,123,124,125,126].contains c
theorem atB_is (c:UInt8):atB c=(at5 c||decide (128≤c.toNat)):=rfl
end Go.Proofs.YtfjpkfhbmldmfabGreatDoor
