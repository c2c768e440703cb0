/-
  The library's contracts on sets of bytes and on runes, laid at this program.
-/
import Derived.Shelf.Strings.IndexAny
import Derived.Shelf.Strings.AsciiSet
import Derived.Shelf.Strings.Runes
import Derived.Shelf.Small.Utf8
import Derived.Shelf.Strings.Prefix
import Derived.Shelf.Strings.Search1
import Derived.Test.YtfjpkfhbmldmfaaGreatDoorProg
import Derived.Test.YtfjpkfhbmldmfaaGreatDoorLate5
import Derived.Test.YtfjpkfhbmldmfaaGreatDoorPg8
import Derived.Test.YtfjpkfhbmldmfaaGreatDoorPtL
import Derived.Test.YtfjpkfhbmldmfaaGreatDoorWd8
import Derived.Test.YtfjpkfhbmldmfaaGreatDoorWt8
namespace Go.Proofs
def Tryz.lays119_ren:Go.Shelf.Ren:=⟨fun|119=>192|n=>n,fun|21=>21|4=>4|n=>n,fun|n=>n⟩
theorem Tryz.lays119:Go.Proofs.Lays.n119 Tryz.prog Tryz.lays119_ren:={
 mixed:=by kernel_rfl
 f119:=Tryz.func192.trans (congrArg some (by kernel_rfl))
 t4:=Tryz.underlying4
 a4:=Tryz.isAgg4
 z4:=Tryz.sizeOf4
 v4:=Tryz.zeroValue4
 t21:=Tryz.underlying21
 a21:=Tryz.isAgg21
 z21:=Tryz.sizeOf21
 v21:=Tryz.zeroValue21}
theorem Tryz.utf8_ValidRune (r:Int) (w:World):
 Calls Tryz.prog 192 #[.int .i32 r] w fun e w'=>e=.returned (.bool (Lib.validRune r))∧w'=w:=Any.utf8_ValidRune Tryz.lays119 r w
def Tryz.lays99_ren:Go.Shelf.Ren:=⟨fun|99=>129|206=>168|n=>n,fun|9=>9|4=>4|3=>3|n=>n,fun|n=>n⟩
theorem Tryz.lays99:Go.Proofs.Lays.n99 Tryz.prog Tryz.lays99_ren:={
 mixed:=by kernel_rfl
 f99:=Tryz.func129.trans (congrArg some (by kernel_rfl))
 f206:=Tryz.func168.trans (congrArg some (by kernel_rfl))
 t3:=Tryz.underlying3
 a3:=Tryz.isAgg3
 z3:=Tryz.sizeOf3
 v3:=Tryz.zeroValue3
 t4:=Tryz.underlying4
 a4:=Tryz.isAgg4
 z4:=Tryz.sizeOf4
 v4:=Tryz.zeroValue4
 t9:=Tryz.underlying9
 a9:=Tryz.isAgg9
 z9:=Tryz.sizeOf9
 v9:=Tryz.zeroValue9}
open Go.RowKit Go.Lib in
theorem Tryz.strings_HasPrefix (s p:ByteArray) (w:World):
 Calls Tryz.prog 129 #[.string s,.string p] w fun e w'=>e=.returned (.bool (Lib.hasPrefix s.data.toList p.data.toList))∧w'=w:=Any.strings_HasPrefix Tryz.lays99 s p w
def Tryz.lays152_ren:Go.Shelf.Ren:=⟨fun|152=>164|137=>114|119=>192|224=>193|225=>194|217=>151|266=>182|n=>n,fun|9=>9|21=>21|3=>3|4=>4|5=>5|0=>0|46=>155|n=>n,fun|n=>n⟩
theorem Tryz.lays152:Go.Proofs.Lays.n152 Tryz.prog Tryz.lays152_ren:={
 mixed:=by kernel_rfl
 f119:=Tryz.func192.trans (congrArg some (by kernel_rfl))
 f137:=Tryz.func114.trans (congrArg some (by kernel_rfl))
 f152:=Tryz.func164.trans (congrArg some (by kernel_rfl))
 f217:=Tryz.func151.trans (congrArg some (by kernel_rfl))
 f224:=Tryz.func193.trans (congrArg some (by kernel_rfl))
 f225:=Tryz.func194.trans (congrArg some (by kernel_rfl))
 f266:=Tryz.func182.trans (congrArg some (by kernel_rfl))
 t0:=Tryz.underlying0
 a0:=Tryz.isAgg0
 z0:=Tryz.sizeOf0
 v0:=Tryz.zeroValue0
 t3:=Tryz.underlying3
 a3:=Tryz.isAgg3
 z3:=Tryz.sizeOf3
 v3:=Tryz.zeroValue3
 t4:=Tryz.underlying4
 a4:=Tryz.isAgg4
 z4:=Tryz.sizeOf4
 v4:=Tryz.zeroValue4
 t5:=Tryz.underlying5
 a5:=Tryz.isAgg5
 z5:=Tryz.sizeOf5
 v5:=Tryz.zeroValue5
 t9:=Tryz.underlying9
 a9:=Tryz.isAgg9
 z9:=Tryz.sizeOf9
 v9:=Tryz.zeroValue9
 t21:=Tryz.underlying21
 a21:=Tryz.isAgg21
 z21:=Tryz.sizeOf21
 v21:=Tryz.zeroValue21
 t46:=Tryz.underlying155
 a46:=Tryz.isAgg155
 z46:=Tryz.sizeOf155
 v46:=Tryz.zeroValue155}
open Go.RowKit Go.Lib in
theorem Tryz.strings_IndexRune_ascii (s:ByteArray) (r:Int) (w:World) (h0:0≤r) (h1:r<128):
 Calls Tryz.prog 164 #[.string s,.int .i32 r] w fun e w'=>e=.returned (.int .i64 (Lib.indexByte s.data.toList r.toNat.toUInt8))∧w'=w:=Any.strings_IndexRune_ascii Tryz.lays152 s r w h0 h1
def Tryz.lays226_ren:Go.Shelf.Ren:=⟨fun|226=>165|n=>n,fun|3=>3|4=>4|n=>n,fun|n=>n⟩
theorem Tryz.lays226:Go.Proofs.Lays.n226 Tryz.prog Tryz.lays226_ren:={
 mixed:=by kernel_rfl
 f226:=Tryz.func165.trans (congrArg some (by kernel_rfl))
 t3:=Tryz.underlying3
 a3:=Tryz.isAgg3
 z3:=Tryz.sizeOf3
 v3:=Tryz.zeroValue3
 t4:=Tryz.underlying4
 a4:=Tryz.isAgg4
 z4:=Tryz.sizeOf4
 v4:=Tryz.zeroValue4}
open Go.RowKit Go.Lib in
theorem Tryz.strings_shouldUseASCIISet (n:Int) (w:World):
 Calls Tryz.prog 165 #[.int .i64 n] w fun e w'=>e=.returned (.bool (decide (8<n)))∧w'=w:=Any.strings_shouldUseASCIISet Tryz.lays226 n w
def Tryz.lays227_ren:Go.Shelf.Ren:=⟨fun|227=>166|n=>n,fun|9=>9|116=>175|4=>4|0=>0|3=>3|5=>5|n=>n,fun|n=>n⟩
theorem Tryz.lays227:Go.Proofs.Lays.n227 Tryz.prog Tryz.lays227_ren:={
 mixed:=by kernel_rfl
 f227:=Tryz.func166.trans (congrArg some (by kernel_rfl))
 t0:=Tryz.underlying0
 a0:=Tryz.isAgg0
 z0:=Tryz.sizeOf0
 v0:=Tryz.zeroValue0
 t3:=Tryz.underlying3
 a3:=Tryz.isAgg3
 z3:=Tryz.sizeOf3
 v3:=Tryz.zeroValue3
 t4:=Tryz.underlying4
 a4:=Tryz.isAgg4
 z4:=Tryz.sizeOf4
 v4:=Tryz.zeroValue4
 t5:=Tryz.underlying5
 a5:=Tryz.isAgg5
 z5:=Tryz.sizeOf5
 v5:=Tryz.zeroValue5
 t9:=Tryz.underlying9
 a9:=Tryz.isAgg9
 z9:=Tryz.sizeOf9
 v9:=Tryz.zeroValue9
 t116:=Tryz.underlying175
 a116:=Tryz.isAgg175
 z116:=Tryz.sizeOf175}
open Go.RowKit Go.Lib in
theorem Tryz.strings_makeASCIISet (hv116:∀w,(zeroValue 175).run Tryz.prog w=.ok (.agg (Array.replicate 256 (.bool false))) w) (chars:ByteArray) (w:World) (hs:chars.size<4294967281) (hascii:∀(j:Nat) b,chars.data.toList[j]?=some b→b.toNat<128):
 Calls Tryz.prog 166 #[.string chars] w fun e w'=>e=.returned (.tuple #[.agg (Lib.setCells chars.data.toList),.bool true])∧w'=w.alloc (.cells (Lib.setCells chars.data.toList) 175):=Any.strings_makeASCIISet Tryz.lays227 hv116 (by kernel_rfl) chars w hs hascii
def Tryz.lays228_ren:Go.Shelf.Ren:=⟨fun|228=>167|n=>n,fun|124=>191|5=>5|4=>4|0=>0|116=>175|n=>n,fun|n=>n⟩
theorem Tryz.lays228:Go.Proofs.Lays.n228 Tryz.prog Tryz.lays228_ren:={
 mixed:=by kernel_rfl
 f228:=Tryz.func167.trans (congrArg some (by kernel_rfl))
 t0:=Tryz.underlying0
 a0:=Tryz.isAgg0
 z0:=Tryz.sizeOf0
 v0:=Tryz.zeroValue0
 t4:=Tryz.underlying4
 a4:=Tryz.isAgg4
 z4:=Tryz.sizeOf4
 v4:=Tryz.zeroValue4
 t5:=Tryz.underlying5
 a5:=Tryz.isAgg5
 z5:=Tryz.sizeOf5
 v5:=Tryz.zeroValue5
 t116:=Tryz.underlying175
 a116:=Tryz.isAgg175
 z116:=Tryz.sizeOf175
 t124:=Tryz.underlying191
 a124:=Tryz.isAgg191
 z124:=Tryz.sizeOf191
 v124:=Tryz.zeroValue191}
open Go.RowKit Go.Lib in
theorem Tryz.asciiSet_contains (b:Nat) (x:UInt8) (v:Bool) (w:World) (hc:w.cell? ⟨b,x.toNat,none⟩=some (.bool v)):
 Calls Tryz.prog 167 #[.pointer (some ⟨b,0,none⟩),.int .u8 x.toNat] w fun e w'=>e=.returned (.bool v)∧w'=w:=Any.asciiSet_contains Tryz.lays228 b x v w hc
end Go.Proofs
namespace Go.Proofs.YtfjpkfhbmldmfaaGreatDoor
open Go.RowKit
theorem oper_val {P:Program} {op:Oper} {a:Act} {w:World} {K:Act→World→Prop} {Q:Exit→Act→World→Prop} (d:Option Tmp) (v:Value) (hd:op.dst=d) (hy:(execOp a.eval op).run P w=.ok (.value v) w) (h:K (a.put d v) w):op.wp P a w K Q:=by
 subst hd
 unfold Oper.wp
 rw[hy]
 exact h
theorem oper_skip {P:Program} {op:Oper} {a:Act} {w w':World} {K:Act→World→Prop} {Q:Exit→Act→World→Prop} (hy:(execOp a.eval op).run P w=.ok .skip w') (hd:op.dst=none) (h:K a w'):op.wp P a w K Q:=by
 unfold Oper.wp
 rw[hy]
 have e:a.put op.dst undef=a:=by rw[hd];rfl
 exact(show K (a.put op.dst undef) w' from by rw[e];exact h)
theorem wrap_add (x y:Int) (hx:0≤x) (hy:0≤y) (hxy:x+y≤9223372036854775807):IntKind.i64.wrap (x+y)=x+y:=by rw[IntKind.wrap_i64];omega
theorem oper_valw {P:Program} {op:Oper} {a:Act} {w w':World} {K:Act→World→Prop} {Q:Exit→Act→World→Prop} (d:Option Tmp) (v:Value) (hd:op.dst=d) (hy:(execOp a.eval op).run P w=.ok (.value v) w') (h:K (a.put d v) w'):op.wp P a w K Q:=by
 subst hd
 unfold Oper.wp
 rw[hy]
 exact h
theorem oper_call {P:Program} {op:Oper} {a:Act} {w:World} {K:Act→World→Prop} {Q:Exit→Act→World→Prop} (d:Option Tmp) (f:FuncId) (args:Array Value) (R:Value→World→Prop) (hd:op.dst=d) (hy:(execOp a.eval op).run P w=.ok (.enter f args) w)
  (hc:Calls P f args w fun e w'=>∃v,e=.returned v∧R v w') (h:∀v w',R v w'→K (a.put d v) w'):op.wp P a w K Q:=by
 subst hd
 unfold Oper.wp
 rw[hy,Oper.upon_enter]
 refine hc.mono ?_
 rintro e w' ⟨v,rfl,hr⟩
 exact h v w' hr
theorem wpAnyE_two {P:Program} {ops:Array Oper} {Q:Exit→Act→World→Prop} {md:Region.Mode} {S:World→Prop} {L:Nat} {fuel:Nat} {listed:Array Bool} {a:Act} {w:World} (i j:Nat) {o p:Oper} (hr:Region.ready md ops listed=[i,j]) (hi:ops[i]?=some o) (hj:ops[j]?=some p)
  (hw:Region.wanted o (yielded ops a.tmps)=true) (hv:Region.wanted p (yielded ops a.tmps)=true)
  (h:o.wp P a w (fun a' w'=>(i=L∨S w')∧wpAnyE P md ops Q S L fuel (listed.setIfInBounds i true) a' w') Q)
  (k:p.wp P a w (fun a' w'=>(j=L∨S w')∧wpAnyE P md ops Q S L fuel (listed.setIfInBounds j true) a' w') Q):wpAnyE P md ops Q S L (fuel+1) listed a w:=
 ⟨fun h0=>(by rw[h0]at hr;cases hr),fun x hx=>by
  rw[hr]at hx
  simp only[List.mem_cons,List.not_mem_nil,or_false]at hx
  rcases hx with rfl|rfl
  ·unfold wpOp
   simp only[hi,hw,if_true]
   exact .inl h
  ·unfold wpOp
   simp only[hj,hv,if_true]
   exact .inl k⟩
theorem wpAnyE_three {P:Program} {ops:Array Oper} {Q:Exit→Act→World→Prop} {md:Region.Mode} {S:World→Prop} {L:Nat} {fuel:Nat} {listed:Array Bool} {a:Act} {w:World} (i j l:Nat) {o p q:Oper} (hr:Region.ready md ops listed=[i,j,l]) (hi:ops[i]?=some o) (hj:ops[j]?=some p) (hl:ops[l]?=some q)
  (hw:Region.wanted o (yielded ops a.tmps)=true) (hv:Region.wanted p (yielded ops a.tmps)=true) (hu:Region.wanted q (yielded ops a.tmps)=true)
  (h:o.wp P a w (fun a' w'=>(i=L∨S w')∧wpAnyE P md ops Q S L fuel (listed.setIfInBounds i true) a' w') Q)
  (k:p.wp P a w (fun a' w'=>(j=L∨S w')∧wpAnyE P md ops Q S L fuel (listed.setIfInBounds j true) a' w') Q)
  (m:q.wp P a w (fun a' w'=>(l=L∨S w')∧wpAnyE P md ops Q S L fuel (listed.setIfInBounds l true) a' w') Q):wpAnyE P md ops Q S L (fuel+1) listed a w:=
 ⟨fun h0=>(by rw[h0]at hr;cases hr),fun x hx=>by
  rw[hr]at hx
  simp only[List.mem_cons,List.not_mem_nil,or_false]at hx
  rcases hx with rfl|rfl|rfl
  ·unfold wpOp
   simp only[hi,hw,if_true]
   exact .inl h
  ·unfold wpOp
   simp only[hj,hv,if_true]
   exact .inl k
  ·unfold wpOp
   simp only[hl,hu,if_true]
   exact .inl m⟩
open Go.RowKit
def at5 (c:UInt8):Bool:=ldB c||[33,35,36,37,38,39,42,43,45,47,61,63,94,95,96,123,124,125,126].contains c
theorem atB_is (c:UInt8):atB c=(at5 c||decide (128≤c.toNat)):=rfl
def letB (c:UInt8):Bool:=(decide (65≤c.toNat)&&decide (c.toNat≤90))||(decide (97≤c.toNat)&&decide (c.toNat≤122))
theorem ld_let (c:UInt8):ldB c=(letB c||dgB c):=by
 unfold ldB letB
 cases dgB c<;>simp
theorem let_not {c:UInt8} (h:c=45):letB c=false∧dgB c=false:=by
 subst h
 exact⟨by decide,by decide⟩
def pwC (F a n:Nat) (c:UInt8):Bool:=
 if letB c=false∧dgB c=false∧¬c=45∧¬(128≤c.toNat∧a<F) then true
 else decide (63≤n)||(decide (c=45)&&decide (n=0))
theorem pwC_is (F a n:Nat) (c:UInt8) (hn:n≤63):pwC F a n c=true↔(n=63∨stB F a n c=false):=by
 unfold pwC stB
 rw[ld_let]
 by_cases h45:c=45
 ·obtain⟨h1,h2⟩:=let_not h45
  have h3:¬128≤c.toNat:=by subst h45;decide
  rw[if_neg (by rintro ⟨-, -,h, -⟩;exact h h45),h1,h2,decide_eq_true h45,decide_eq_false h3]
  simp
  omega
 ·rw[decide_eq_false h45]
  by_cases hh:128≤c.toNat∧a<F
  ·rw[if_neg (by rintro ⟨-, -, -,h⟩;exact h hh),decide_eq_true hh.1,decide_eq_true hh.2]
   simp
   omega
  ·have h4:(decide (128≤c.toNat)&&decide (a<F))=false:=by
    rw[Bool.and_eq_false_iff,decide_eq_false_iff_not,decide_eq_false_iff_not]
    by_cases h:128≤c.toNat
    ·exact .inr fun h'=>hh ⟨h,h'⟩
    ·exact .inl h
   rw[h4]
   cases h1:letB c
   ·cases h2:dgB c
    ·rw[if_pos ⟨rfl,rfl,h45,hh⟩]
     simp
    ·rw[if_neg (by rintro ⟨-,h, -⟩;cases h)]
     simp
     omega
   ·rw[if_neg (by rintro ⟨h, -⟩;cases h)]
    simp
    omega
def pw (F:Nat) (s:List UInt8) (b i:Nat):Bool:=
 match s[i]? with
 |none=>decide (i=b)||decide (s[i - 1]?=some 45)
 |some c=>if c=46 then decide (i=b)||decide (s[i - 1]?=some 45) else pwC F i (i - b) c
structure NmAt (F:Nat) (s:List UInt8) (b i:Nat) (h:Bool):Prop where
 le:b≤i
 most:i - b≤63
 hyp:b<i→h=decide (s[i - 1]?=some 45)
 is:wdGo F 0 0 false s=wdGo F i (i - b) h (s.drop i)
theorem NmAt.start (F:Nat) (s:List UInt8):NmAt F s 0 0 false:=⟨Nat.le_refl _,Nat.zero_le _,fun h=>absurd h (by omega),by rw[List.drop_zero]⟩
theorem pw_end {s:List UInt8} {b i:Nat} {h:Bool} (hb:b≤i) (hh:b<i→h=decide (s[i - 1]?=some 45)):(decide (i=b)||decide (s[i - 1]?=some 45))=false↔(0<i - b∧h=false):=by
 by_cases e:i=b
 ·rw[decide_eq_true e]
  simp
  omega
 ·have:=hh (by omega)
  rw[decide_eq_false e,Bool.false_or,←this]
  constructor
  ·intro h;exact⟨by omega,h⟩
  ·exact fun h=>h.2
theorem NmAt.wrong {F:Nat} {s:List UInt8} {b i:Nat} {h:Bool} (H:NmAt F s b i h) (hw:pw F s b i=true):wdGo F 0 0 false s=some i:=by
 rw[H.is]
 rcases Nat.lt_or_ge i s.length with hl|hl
 ·rw[List.drop_eq_getElem_cons hl,wdGo]
  unfold pw at hw
  rw[List.getElem?_eq_getElem hl]at hw
  dsimp only at hw
  split at hw
  ·rename_i hc
   rw[if_pos hc,if_neg]
   intro h'
   rw[(pw_end H.le H.hyp).2 h']at hw
   cases hw
  ·rename_i hc
   rw[if_neg hc,if_pos ((pwC_is F i (i - b) _ H.most).1 hw)]
 ·rw[List.drop_eq_nil_of_le hl,wdGo]
  unfold pw at hw
  rw[List.getElem?_eq_none hl]at hw
  dsimp only at hw
  rw[if_neg]
  intro h'
  rw[(pw_end H.le H.hyp).2 h']at hw
  cases hw
theorem NmAt.last {F:Nat} {s:List UInt8} {b i:Nat} {h:Bool} (H:NmAt F s b i h) (hi:i=s.length) (hw:pw F s b i=false):wdGo F 0 0 false s=none:=by
 rw[H.is,List.drop_eq_nil_of_le (by omega),wdGo]
 unfold pw at hw
 rw[List.getElem?_eq_none (by omega)]at hw
 dsimp only at hw
 rw[if_pos ((pw_end H.le H.hyp).1 hw)]
theorem NmAt.dot {F:Nat} {s:List UInt8} {b i:Nat} {h:Bool} (H:NmAt F s b i h) (hi:i<s.length) (hc:s[i]=46) (hw:pw F s b i=false):NmAt F s (i+1) (i+1) false:=by
 refine⟨Nat.le_refl _,by omega,fun h=>absurd h (by omega),?_⟩
 rw[H.is,List.drop_eq_getElem_cons hi,wdGo,if_pos hc]
 unfold pw at hw
 rw[List.getElem?_eq_getElem hi]at hw
 dsimp only at hw
 rw[if_pos hc]at hw
 rw[if_pos ((pw_end H.le H.hyp).1 hw),Nat.sub_self]
theorem NmAt.next {F:Nat} {s:List UInt8} {b i:Nat} {h:Bool} (H:NmAt F s b i h) (hi:i<s.length) (hc:¬s[i]=46) (hw:pw F s b i=false):NmAt F s b (i+1) (decide (s[i]=45)):=by
 unfold pw at hw
 rw[List.getElem?_eq_getElem hi]at hw
 dsimp only at hw
 rw[if_neg hc]at hw
 have hn:¬(i - b=63∨stB F i (i - b) s[i]=false):=fun h'=>by rw[(pwC_is F i (i - b) _ H.most).2 h']at hw;cases hw
 have hle:=H.le
 have hm:=H.most
 refine⟨by omega,by omega,fun _=>?_,?_⟩
 ·rw[Nat.add_sub_cancel,List.getElem?_eq_getElem hi]
  rw[Bool.eq_iff_iff]
  simp
 ·rw[H.is,List.drop_eq_getElem_cons hi,wdGo,if_neg hc,if_neg hn,show i+1 - b=i - b+1 from by omega]
def tgD (t:List UInt8):Option Nat:=
 if spB lbB t<t.length∧¬t[spB lbB t]?=some 58 then some (spB lbB t)
 else if spB lbB t=t.length∨spB lbB t=0∨t[spB lbB t - 1]?=some 45 then some (spB lbB t)
 else if spB lbB t+1+spB plB (t.drop (spB lbB t+1))<t.length then some (spB lbB t+1+spB plB (t.drop (spB lbB t+1)))
 else if spB lbB t+1=t.length then some t.length
 else none
theorem spB_stop (f:UInt8→Bool):∀(l:List UInt8) (h:spB f l<l.length),f l[spB f l]=false
 |[],h=>by simp at h
 |c::r,h=>by
  cases hc:f c
  ·have e:spB f (c::r)=0:=by rw[spB,if_neg (by rw[hc];decide)]
   simp only[e]
   exact hc
  ·have e:spB f (c::r)=spB f r+1:=by rw[spB,if_pos hc]
   simp only[e]
   rw[e,List.length_cons]at h
   exact spB_stop f r (by omega)
theorem spB_pre (f:UInt8→Bool):∀(l:List UInt8) (j:Nat) (h:j<l.length),j<spB f l→f l[j]=true
 |[],j,h,_=>by simp at h
 |c::r,j,h,h'=>by
  cases hc:f c
  ·have e:spB f (c::r)=0:=by rw[spB,if_neg (by rw[hc];decide)]
   omega
  ·have e:spB f (c::r)=spB f r+1:=by rw[spB,if_pos hc]
   cases j with
   |zero=>exact hc
   |succ j=>
    rw[List.getElem_cons_succ]
    exact spB_pre f r j _ (by omega)
theorem spB_eq (f:UInt8→Bool) (l:List UInt8) (k:Nat) (hk:k≤l.length) (h1:∀j (h:j<l.length),j<k→f l[j]=true) (h2:∀h:k<l.length,f l[k]=false):spB f l=k:=by
 have hle:=spB_le f l
 rcases Nat.lt_trichotomy (spB f l) k with h|h|h
 ·have a:=spB_stop f l (by omega)
  rw[h1 _ (by omega) h]at a
  cases a
 ·exact h
 ·have a:=spB_pre f l k (by omega) h
  rw[h2 (by omega)]at a
  cases a
theorem colon_some:∀{t:List UInt8} {k:Nat},colonAt t=some k→∃h:k<t.length,t[k]=58∧∀j (h':j<t.length),j<k→t[j]≠58
 |[],k,h=>by cases h
 |c::r,k,h=>by
  rw[colonAt]at h
  by_cases hc:c=58
  ·rw[if_pos hc]at h
   cases h
   exact⟨by simp,hc,fun j _ h=>absurd h (by omega)⟩
  ·rw[if_neg hc]at h
   cases hr:colonAt r with
   |none=>rw[hr]at h;cases h
   |some q=>
    rw[hr]at h
    obtain rfl:q+1=k:=by simpa using h
    obtain⟨h1,h2,h3⟩:=colon_some hr
    refine⟨by simp;omega,by simpa using h2,fun j hj hjk=>?_⟩
    cases j with
    |zero=>exact hc
    |succ j=>exact h3 j (by simpa using hj) (by omega)
theorem colon_none:∀{t:List UInt8},colonAt t=none→∀j (h':j<t.length),t[j]≠58
 |[],_,j,h=>by simp at h
 |c::r,h,j,hj=>by
  rw[colonAt]at h
  by_cases hc:c=58
  ·rw[if_pos hc]at h;cases h
  ·rw[if_neg hc]at h
   cases j with
   |zero=>exact hc
   |succ j=>exact colon_none (by simpa using h) j (by simpa using hj)
theorem tgD_none {t:List UInt8} (h:colonAt t=none):∃p,tgD t=some p:=by
 unfold tgD
 by_cases h1:spB lbB t<t.length
 ·refine⟨_,if_pos ⟨h1,?_⟩⟩
  rw[List.getElem?_eq_getElem h1]
  intro e
  exact colon_none h _ h1 (by simpa using e)
 ·have:=spB_le lbB t
  refine⟨spB lbB t,?_⟩
  rw[if_neg (fun h=>h1 h.1),if_pos (.inl (by omega))]
theorem lb_colon:lbB 58=false:=by decide
theorem spB_colon {t:List UInt8} {k:Nat} (h:colonAt t=some k):spB lbB (t.take k)=spB lbB t∧spB lbB t≤k:=by
 obtain⟨hk,h1,h2⟩:=colon_some h
 have hle:spB lbB t≤k:=by
  rcases Nat.lt_or_ge k (spB lbB t) with h'|h'
  ·have:=spB_pre lbB t k hk h'
   rw[h1,lb_colon]at this
   cases this
  ·exact h'
 refine⟨spB_eq lbB _ _ (by rw[List.length_take];omega) (fun j hj h'=>?_) (fun hh=>?_),hle⟩
 ·rw[List.getElem_take]
  exact spB_pre lbB t j _ h'
 ·rw[List.getElem_take]
  rw[List.length_take]at hh
  exact spB_stop lbB t (by omega)
theorem tgD_some {t:List UInt8} {k:Nat} (h:colonAt t=some k):tagged t k=match tgD t with
  |none=>(0,0)
  |some p=>(83,p):=by
 obtain⟨hk,h1,h2⟩:=colon_some h
 obtain⟨h3,h4⟩:=spB_colon h
 unfold tagged tgD
 rw[h3]
 rcases Nat.lt_or_ge (spB lbB t) k with hlt|hge
 ·rw[if_pos (.inl hlt),if_pos ⟨by omega,by rw[List.getElem?_eq_getElem (by omega)];intro e;exact h2 _ (by omega) hlt (by simpa using e)⟩]
 ·have e:spB lbB t=k:=by omega
  have n1:¬(k<t.length∧¬t[k]?=some 58):=fun h=>h.2 (by rw[List.getElem?_eq_getElem hk,h1])
  rw[e,if_neg n1]
  by_cases ha:k=0∨t[k - 1]?=some 45
  ·rw[if_pos (.inr ha),if_pos (.inr ha)]
  ·have n2:¬(k<k∨k=0∨t[k - 1]?=some 45):=fun h=>h.elim (by omega) ha
   have n3:¬(k=t.length∨k=0∨t[k - 1]?=some 45):=fun h=>h.elim (by omega) ha
   rw[if_neg n2,if_neg n3]
   have hl:=spB_le plB (t.drop (k+1))
   rw[List.length_drop]at hl
   by_cases hb:k+1+spB plB (t.drop (k+1))<t.length
   ·rw[if_pos (.inl hb),if_pos hb]
   ·rw[if_neg hb]
    by_cases hz:k+1=t.length
    ·have e0:spB plB (t.drop (k+1))=0:=by omega
     rw[if_pos (.inr e0),if_pos hz,e0,Nat.add_zero,hz]
    ·have n4:¬(k+1+spB plB (t.drop (k+1))<t.length∨spB plB (t.drop (k+1))=0):=by omega
     rw[if_neg n4,if_neg hz]
def ckD (h:Ho) (wide:Bool):Nat:=
 if h.k<1∨4<h.k then 2
 else if (h.k=2∨h.k=3)∧¬h.n=[] then 2
 else if (h.k=1∨h.k=4)∧¬h.a=z16 then 2
 else if h.k=2∧¬h.a.drop 4=List.replicate 12 0 then 2
 else if h.k=1 then (wd wide h.n).1
 else if h.k=4∧253<h.n.length then 82
 else if h.k=4∧(¬tgD h.n=none∨sixB h.n=true) then 83
 else 0
theorem ckD_is (h:Ho) (hl:h.a.length=16) (wide:Bool):ckD h wide=check h wide:=by
 unfold ckD check
 by_cases k1:h.k=1
 ·have a1:¬(h.k<1∨4<h.k):=by omega
  have a2:¬((h.k=2∨h.k=3)∧¬h.n=[]):=by omega
  have a4:¬(h.k=2∧¬h.a.drop 4=List.replicate 12 0):=by omega
  rw[if_neg a1,if_neg a2,if_neg a4]
  simp only[if_pos k1]
  by_cases ha:h.a=z16
  ·rw[if_neg (fun h=>h.2 ha),if_pos ha]
  ·rw[if_pos ⟨.inl k1,ha⟩,if_neg ha]
 simp only[if_neg k1]
 by_cases k2:h.k=2
 ·have a1:¬(h.k<1∨4<h.k):=by omega
  have a3:¬((h.k=1∨h.k=4)∧¬h.a=z16):=by omega
  have a5:¬(h.k=4∧253<h.n.length):=by omega
  have a6:¬(h.k=4∧(¬tgD h.n=none∨sixB h.n=true)):=by omega
  rw[if_neg a1,if_neg a3,if_neg a5,if_neg a6,if_pos k2]
  by_cases hn:h.n=[]
  ·rw[if_neg (fun h=>h.2 hn)]
   by_cases hd:h.a.drop 4=List.replicate 12 0
   ·rw[if_neg (fun h=>h.2 hd),if_pos]
    obtain⟨k,n,a⟩:=h
    dsimp only at k2 hn hd ⊢
    unfold fourH
    rw[k2,hn,←hd,List.take_append_drop]
   ·rw[if_pos ⟨k2,hd⟩,if_neg]
    intro e
    have:h.a=h.a.take 4++List.replicate 12 0:=congrArg Ho.a e
    have e2:=congrArg (List.drop 4) this
    have hd4:(h.a.take 4).drop 4=[]:=List.drop_eq_nil_of_le (by rw[List.length_take];omega)
    rw[List.drop_append_of_le_length (by rw[List.length_take];omega),hd4,List.nil_append]at e2
    exact hd e2
  ·rw[if_pos ⟨.inl k2,hn⟩,if_neg]
   intro e
   exact hn (congrArg Ho.n e)
 simp only[if_neg k2]
 by_cases k3:h.k=3
 ·have a1:¬(h.k<1∨4<h.k):=by omega
  have a3:¬((h.k=1∨h.k=4)∧¬h.a=z16):=by omega
  have a4:¬(h.k=2∧¬h.a.drop 4=List.replicate 12 0):=by omega
  have a5:¬(h.k=4∧253<h.n.length):=by omega
  have a6:¬(h.k=4∧(¬tgD h.n=none∨sixB h.n=true)):=by omega
  rw[if_neg a1,if_neg a3,if_neg a4,if_neg a5,if_neg a6,if_pos k3]
  by_cases hn:h.n=[]
  ·rw[if_neg (fun h=>h.2 hn),if_pos hn]
  ·rw[if_pos ⟨.inr k3,hn⟩,if_neg hn]
 simp only[if_neg k3]
 by_cases k4:h.k=4
 ·have a1:¬(h.k<1∨4<h.k):=by omega
  have a2:¬((h.k=2∨h.k=3)∧¬h.n=[]):=by omega
  have a4:¬(h.k=2∧¬h.a.drop 4=List.replicate 12 0):=by omega
  rw[if_neg a1,if_neg a2,if_neg a4,if_pos k4]
  by_cases ha:h.a=z16
  ·rw[if_neg (fun h=>h.2 ha),if_pos ha]
   unfold chTag
   by_cases hz:253<h.n.length
   ·rw[if_pos ⟨k4,hz⟩,if_pos hz]
   ·rw[if_neg (fun h=>hz h.2),if_neg hz]
    cases hc:colonAt h.n with
    |none=>
     obtain⟨p,hp⟩:=tgD_none hc
     rw[if_pos ⟨k4,.inl (by rw[hp];simp)⟩]
    |some k=>
     dsimp only
     rw[tgD_some hc]
     cases ht:tgD h.n with
     |none=>
      cases h6:sixB h.n
      ·rw[if_neg (fun h=>h.2.elim (fun h=>h rfl) (fun h=>by cases h))]
       rfl
      ·rw[if_pos ⟨k4,.inr rfl⟩]
       rfl
     |some p=>
      rw[if_pos ⟨k4,.inl (by simp)⟩]
      cases sixB h.n<;>rfl
  ·rw[if_pos ⟨.inr k4,ha⟩,if_neg ha]
 have a1:h.k<1∨4<h.k:=by omega
 rw[if_pos a1,if_neg k4]
open Go.RowKit
def smS (s:ByteArray):ByteArray:=⟨(sml s.data.toList).toArray⟩
theorem smB_no (b:UInt8) (h:¬(65≤b.toNat∧b.toNat≤90)):smB b=b:=if_neg h
theorem smB_yes (b:UInt8) (h1:65≤b.toNat) (h2:b.toNat≤90):(smB b).toNat=b.toNat+32:=by
 unfold smB
 rw[if_pos ⟨h1,h2⟩]
 simp
 omega
def smAt (l:List UInt8) (k j:Nat):UInt8:=if j<k then smB (l.getD j 0) else l.getD j 0
theorem smAt_zero (l:List UInt8) (j:Nat):smAt l 0 j=l.getD j 0:=by simp[smAt]
theorem smAt_self (l:List UInt8) (k:Nat):smAt l k k=l.getD k 0:=by simp[smAt]
theorem smAt_step (l:List UInt8) (k:Nat):smAt l (k+1) k=smB (l.getD k 0):=by simp[smAt]
theorem smAt_other (l:List UInt8) (k j:Nat) (h:j≠k):smAt l (k+1) j=smAt l k j:=by
 unfold smAt
 by_cases h1:j<k
 ·rw[if_pos h1,if_pos (by omega)]
 ·rw[if_neg h1,if_neg (by omega)]
theorem smAt_all (l:List UInt8) (n j:Nat) (hn:n=l.length) (h:j<(sml l).length):smAt l n j=(sml l)[j]:=by
 have h':j<l.length:=by simpa [sml] using h
 subst hn
 simp[smAt,sml,h',List.getD_eq_getElem?_getD]
structure SmRel (s:ByteArray) (B:Nat) (w:World) (k:Nat) (wr:World):Prop where
 cell:∀j,j<s.size→wr.cell? ⟨B,j,none⟩=some (.int .u8 ((smAt s.data.toList k j).toNat:Int))
 free:∀j,j<s.size→wr.frozen? ⟨B,j,none⟩=false
 below:Below B w wr
theorem SmRel.same {s:ByteArray} {B:Nat} {w wr:World} {k:Nat} (h:SmRel s B w k wr) (hn:¬(65≤(s.data.toList.getD k 0).toNat∧(s.data.toList.getD k 0).toNat≤90)):SmRel s B w (k+1) wr:=by
 refine⟨fun j hj=>?_,h.free,h.below⟩
 rw[h.cell j hj]
 by_cases e:j=k
 ·subst e
  rw[smAt_self,smAt_step,smB_no _ hn]
 ·rw[smAt_other _ _ _ e]
theorem SmRel.put {s:ByteArray} {B:Nat} {w wr:World} {k:Nat} (h:SmRel s B w k wr) (hk:k<s.size) (h1:65≤(s.data.toList.getD k 0).toNat) (h2:(s.data.toList.getD k 0).toNat≤90):
  SmRel s B w (k+1) (wr.setCell ⟨B,k,none⟩ (.int .u8 (((s.data.toList.getD k 0).toNat:Int) - 65+97))):=by
 refine⟨fun j hj=>?_,fun j hj=>?_,h.below.setCell (Nat.le_refl _) _⟩
 ·by_cases e:j=k
  ·subst e
   rw[World.cell?_setCell_same _ _ _ (h.cell j hj),smAt_step,smB_yes _ h1 h2]
   congr 2
   omega
  ·rw[World.cell?_setCell_other _ _ _ _ (by intro h';injection h' with _ h';omega),h.cell j hj,smAt_other _ _ _ e]
 ·rw[World.frozen?_setCell]
  exact h.free j hj
theorem SmRel.start (s:ByteArray) (w:World) (cap:Nat) (n:Nat) (hn:n=(bytesRow s cap).size):SmRel s w.heap.size w 0 (w.alloc (.cells (bytesRow s cap) 5 (n,n+1))).drew:=by
 refine⟨fun j hj=>?_,fun j hj=>?_,((Below.refl _ _).alloc (Nat.le_refl _) _).drew⟩
 ·have:=World.cell?_alloc_mark w (bytesRow s cap) 5 (n,n+1) j
  rw[bytesRow_at s cap j hj]at this
  rw[smAt_zero]
  refine Eq.trans this ?_
  rw[List.getD_eq_getElem?_getD,Array.getElem?_toList,Array.getElem?_eq_getElem hj,Option.getD_some]
 ·have:=World.frozen?_alloc_mark w (bytesRow s cap) 5 n (n+1) j
  refine Eq.trans this ?_
  have h2:=bytes_lt s cap
  have h3:s.size=s.data.size:=rfl
  rw[decide_eq_false (by omega),Bool.false_and]
theorem SmRel.back {s:ByteArray} {B:Nat} {w wr:World} (h:SmRel s B w s.size wr) (cap:Nat):
  (convert 98 9 (.slice (some ⟨B,0,none⟩) s.size cap)).run Tryz.prog wr=.ok (.string (smS s)) wr:=by
 have hl:(sml s.data.toList).length=s.size:=by rw[sml,List.length_map,Array.length_toList];rfl
 have:=run_convert_bytes_back (P:=Tryz.prog) wr 98 9 5 ⟨B,0,none⟩ cap (sml s.data.toList) Tryz.underlying98 Tryz.underlying5 Tryz.underlying9 (fun j hj=>by
  have hj':j<s.size:=by omega
  have he:(⟨B,0,none⟩:Addr).add j=⟨B,j,none⟩:=by rw[Addr.add_lit,Nat.zero_add]
  rw[he,h.cell j hj']
  rw[smAt_all s.data.toList s.size j (by rw[Array.length_toList];rfl) hj])
 rw[hl]at this
 exact this
set_option maxRecDepth 100000 in
set_option maxHeartbeats 400000 in
theorem small_any (s:ByteArray) (w:World) (hs:s.size≤maxLen):
  Calls Tryz.prog 115 #[.string s] w fun e w'=>e=.returned (.string (smS s))∧Below w.heap.size w w':=by
 unfold maxLen at hs
 have hconv:=run_bytes_of_string (P:=Tryz.prog) w 9 98 5 s Tryz.underlying9 Tryz.underlying98 Tryz.underlying5
 obtain⟨cap,hcap⟩:∃c,c=grownCap w s.size 0 5:=⟨_,rfl⟩
 rw[←hcap]at hconv
 obtain⟨n,hn⟩:∃n,n=(bytesRow s cap).size:=⟨_,rfl⟩
 rw[←hn]at hconv
 have HR:Hid (SmRel s w.heap.size w 0 (w.alloc (.cells (bytesRow s cap) 5 (n,n+1))).drew):=SmRel.start s w cap n hn
 clear hcap hn
 go_enter Tryz.func115,Tryz.ntmps115
 go_wp2
 go_loopw [10] (fun i wr=>∃k:Nat,k≤s.size∧i=.int .i64 k∧Hid (SmRel s w.heap.size w k wr)) (fun i _=>s.size - (intOf i).toNat)
 case atStart=>exact⟨0,Nat.zero_le _,rfl,HR⟩
 case round=>
  obtain⟨k,hk,rfl,HK⟩:=hrel
  by_cases hlt:k<s.size
  ·have hc:=HK.out.cell k hlt
   have hf:=HK.out.free k hlt
   rw[smAt_self]at hc
   obtain⟨x,hx⟩:∃x:UInt8,x=s.data.toList.getD k 0:=⟨_,rfl⟩
   rw[←hx]at hc
   have HX:Hid (x=s.data.toList.getD k 0):=hx
   clear hx
   have hx1:x.toNat<256:=x.toNat_lt
   by_cases h1:65≤x.toNat
   ·by_cases h2:x.toNat≤90
    ·have HN:Hid (SmRel s w.heap.size w (k+1) (wr.setCell ⟨w.heap.size,k,none⟩ (.int .u8 ((x.toNat:Int) - 65+97)))):=by
      have:=HK.out.put hlt (by rw[←HX.out];exact h1) (by rw[←HX.out];exact h2)
      rw[←HX.out]at this
      exact this
     clear HK
     go_wp2
     go_roundw
     case rel=>exact⟨k+1,by omega,by go_num,HN⟩
     case measure=>simp[intOf];omega
    ·have HN:Hid (SmRel s w.heap.size w (k+1) wr):=HK.out.same (by rw[←HX.out];omega)
     clear HK
     go_wp2
     go_roundw
     case rel=>exact⟨k+1,by omega,by go_num,HN⟩
     case measure=>simp[intOf];omega
   ·have HN:Hid (SmRel s w.heap.size w (k+1) wr):=HK.out.same (by rw[←HX.out];omega)
    clear HK
    go_wp2
    go_roundw
    case rel=>exact⟨k+1,by omega,by go_num,HN⟩
    case measure=>simp[intOf];omega
  ·have he:k=s.size:=by omega
   subst he
   have hback:=HK.out.back cap
   have HB:Hid (Below w.heap.size w wr):=HK.out.below
   clear HK
   go_wp2
   go_ret
   exact⟨rfl,HB.out⟩
open Go.RowKit
theorem let_case (c:UInt8):letB c=decide ((65≤c.toNat∧c.toNat≤90)∨(97≤c.toNat∧c.toNat≤122)):=by
 unfold letB
 rw[Bool.eq_iff_iff]
 simp
set_option maxHeartbeats 1000000 in
set_option maxRecDepth 100000 in
theorem letter_any (c:UInt8) (w:World):Calls Tryz.prog 132 #[.int .u8 (c.toNat:Int)] w fun e w'=>e=.returned (.bool (letB c))∧w'=w:=by
 rw[let_case]
 obtain⟨x,hx⟩:∃x,x=c.toNat:=⟨_,rfl⟩
 rw[←hx]
 clear hx
 by_cases h1:65≤x
 ·by_cases h2:x≤90
  ·rw[decide_eq_true (.inl ⟨h1,h2⟩)]
   go_enter Tryz.func132,Tryz.ntmps132
   go_wp2_with fail
   go_ret
   exact⟨by first|rfl|(simp;omega),rfl⟩
  ·by_cases h3:97≤x
   ·by_cases h4:x≤122
    ·rw[decide_eq_true (.inr ⟨h3,h4⟩)]
     go_enter Tryz.func132,Tryz.ntmps132
     go_wp2_with fail
     go_ret
     exact⟨by first|rfl|(simp;omega),rfl⟩
    ·rw[decide_eq_false (by omega)]
     go_enter Tryz.func132,Tryz.ntmps132
     go_wp2_with fail
     go_ret
     exact⟨by first|rfl|(simp;omega),rfl⟩
   ·rw[decide_eq_false (by omega)]
    go_enter Tryz.func132,Tryz.ntmps132
    go_wp2_with fail
    go_ret
    exact⟨by first|rfl|(simp;omega),rfl⟩
 ·have h3:¬97≤x:=by omega
  rw[decide_eq_false (by omega)]
  go_enter Tryz.func132,Tryz.ntmps132
  go_wp2_with fail
  go_ret
  exact⟨by first|rfl|(simp;omega),rfl⟩
set_option maxHeartbeats 1000000 in
set_option maxRecDepth 100000 in
theorem digit_any (c:UInt8) (w:World):Calls Tryz.prog 133 #[.int .u8 (c.toNat:Int)] w fun e w'=>e=.returned (.bool (dgB c))∧w'=w:=by
 unfold dgB
 obtain⟨x,hx⟩:∃x,x=c.toNat:=⟨_,rfl⟩
 rw[←hx]
 clear hx
 by_cases h1:48≤x
 ·by_cases h2:x≤57
  ·rw[decide_eq_true h1,decide_eq_true h2]
   go_enter Tryz.func133,Tryz.ntmps133
   go_wp2_with fail
   go_ret
   exact⟨by first|rfl|(simp;omega),rfl⟩
  ·rw[decide_eq_true h1,decide_eq_false h2]
   go_enter Tryz.func133,Tryz.ntmps133
   go_wp2_with fail
   go_ret
   exact⟨by first|rfl|(simp;omega),rfl⟩
 ·rw[decide_eq_false h1]
  go_enter Tryz.func133,Tryz.ntmps133
  go_wp2_with fail
  go_ret
  exact⟨by first|rfl|(simp;omega),rfl⟩
theorem SmRel.put2 {s:ByteArray} {B:Nat} {w wr:World} {k:Nat} (h:SmRel s B w k wr) (hk:k<s.size) (h1:65≤(s.data.toList.getD k 0).toNat) (h2:(s.data.toList.getD k 0).toNat≤90):
  SmRel s B w (k+1) (wr.setCell ⟨B,k,none⟩ (.int .u8 (((s.data.toList.getD k 0).toNat:Int)+32))):=by
 have:=h.put hk h1 h2
 rw[show((s.data.toList.getD k 0).toNat:Int) - 65+97=((s.data.toList.getD k 0).toNat:Int)+32 from by omega]at this
 exact this
set_option maxRecDepth 100000 in
set_option maxHeartbeats 1000000 in
theorem rsmall_any (s:ByteArray) (w:World) (hs:s.size≤maxLen):
  Calls Tryz.prog 83 #[.string s] w fun e w'=>e=.returned (.string (smS s))∧Below w.heap.size w w':=by
 unfold maxLen at hs
 have hconv:=run_bytes_of_string (P:=Tryz.prog) w 9 98 5 s Tryz.underlying9 Tryz.underlying98 Tryz.underlying5
 obtain⟨cap,hcap⟩:∃c,c=grownCap w s.size 0 5:=⟨_,rfl⟩
 rw[←hcap]at hconv
 obtain⟨n,hn⟩:∃n,n=(bytesRow s cap).size:=⟨_,rfl⟩
 rw[←hn]at hconv
 have HR:Hid (SmRel s w.heap.size w 0 (w.alloc (.cells (bytesRow s cap) 5 (n,n+1))).drew):=SmRel.start s w cap n hn
 clear hcap hn
 go_enter Tryz.func83,Tryz.ntmps83
 go_wp2
 go_loopw [9] (fun i wr=>∃k:Nat,k≤s.size∧i=.int .i64 k∧Hid (SmRel s w.heap.size w k wr)) (fun i _=>s.size - (intOf i).toNat)
 case atStart=>exact⟨0,Nat.zero_le _,rfl,HR⟩
 case round=>
  obtain⟨k,hk,rfl,HK⟩:=hrel
  by_cases hlt:k<s.size
  ·have hc:=HK.out.cell k hlt
   have hf:=HK.out.free k hlt
   rw[smAt_self]at hc
   obtain⟨x,hx⟩:∃x:UInt8,x=s.data.toList.getD k 0:=⟨_,rfl⟩
   rw[←hx]at hc
   have HX:Hid (x=s.data.toList.getD k 0):=hx
   clear hx
   have hx1:x.toNat<256:=x.toNat_lt
   by_cases h1:65≤x.toNat
   ·by_cases h2:x.toNat≤90
    ·have HN:Hid (SmRel s w.heap.size w (k+1) (wr.setCell ⟨w.heap.size,k,none⟩ (.int .u8 ((x.toNat:Int)+32)))):=by
      have:=HK.out.put2 hlt (by rw[←HX.out];exact h1) (by rw[←HX.out];exact h2)
      rw[←HX.out]at this
      exact this
     clear HK
     go_wp2
     go_roundw
     case rel=>exact⟨k+1,by omega,by go_num,HN⟩
     case measure=>simp[intOf];omega
    ·have HN:Hid (SmRel s w.heap.size w (k+1) wr):=HK.out.same (by rw[←HX.out];omega)
     clear HK
     go_wp2
     go_roundw
     case rel=>exact⟨k+1,by omega,by go_num,HN⟩
     case measure=>simp[intOf];omega
   ·have HN:Hid (SmRel s w.heap.size w (k+1) wr):=HK.out.same (by rw[←HX.out];omega)
    clear HK
    go_wp2
    go_roundw
    case rel=>exact⟨k+1,by omega,by go_num,HN⟩
    case measure=>simp[intOf];omega
  ·have he:k=s.size:=by omega
   subst he
   have hback:=HK.out.back cap
   have HB:Hid (Below w.heap.size w wr):=HK.out.below
   clear HK
   go_wp2
   go_ret
   exact⟨rfl,HB.out⟩
end Go.Proofs.YtfjpkfhbmldmfaaGreatDoor
