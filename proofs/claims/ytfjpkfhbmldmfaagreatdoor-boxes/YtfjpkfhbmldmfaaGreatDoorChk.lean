/-
  Whole rows of numbers, out of and into blocks.
-/
import Derived.Test.YtfjpkfhbmldmfaaGreatDoorProg
import Derived.WalkKit
import Derived.WalkSpells
import Derived.Below
import Derived.Deep.WholeRow
import Derived.Deep.MidRow
import Derived.Laws.ResultCell
import Derived.Deep.QuietTactic
import Derived.BigQuiet
import Derived.OwnWalk
import Derived.Laws.OwnMore
import Derived.Laws.Cover1
import Derived.Laws.IdiomStrings
import Derived.Laws.AppendOwnNone
import Derived.ArgAppend
import Derived.Lib.AppendStr
import Derived.Laws.StructEq
import Derived.Lib.RuneBytes
namespace Go.Proofs.YtfjpkfhbmldmfaaGreatDoor
open Go.RowKit
def Lies (w:World) (g:Nat) (cs:Array Value) (t:TypeId):Prop:=w.heap[g]?=some (.cells cs t (0,0))
theorem Lies.lt {w:World} {g:Nat} {cs:Array Value} {t:TypeId} (h:Lies w g cs t):g<w.heap.size:=(Array.getElem?_eq_some_iff.1 h).1
theorem Lies.new (w:World) (cs:Array Value) (t:TypeId):Lies (w.alloc (.cells cs t)) w.heap.size cs t:=heap_alloc_last w _
theorem Lies.alloc {w:World} {g:Nat} {cs:Array Value} {t:TypeId} (h:Lies w g cs t) (o:Obj):Lies (w.alloc o) g cs t:=
 (Below.heap_alloc w o g h.lt).trans h
theorem Lies.below {w w':World} {g B:Nat} {cs:Array Value} {t:TypeId} (h:Lies w g cs t) (hb:Below B w w') (hg:g<B):Lies w' g cs t:=(hb.block g hg).trans h
theorem Lies.drew {w:World} {g:Nat} {cs:Array Value} {t:TypeId} (h:Lies w g cs t):Lies w.drew g cs t:=h
theorem Lies.drewN {w:World} {g:Nat} {cs:Array Value} {t:TypeId} (h:Lies w g cs t) (n:Nat):Lies (w.drewN n) g cs t:=h
theorem Lies.set {w:World} {g:Nat} {cs:Array Value} {t:TypeId} (h:Lies w g cs t) (k:Nat) (v:Value):Lies (w.setCell ⟨g,k,none⟩ v) g (cs.setIfInBounds k v) t:=by
 have hlt:=h.lt
 have hv:w.heap[g]=.cells cs t (0,0):=(Array.getElem?_eq_some_iff.1 h).2
 unfold Lies World.setCell
 rw[Array.getElem?_eq_getElem (by simpa using hlt),Array.getElem_modify]
 simp[hv]
theorem Lies.set_other {w:World} {g:Nat} {cs:Array Value} {t:TypeId} (h:Lies w g cs t) {a:Addr} (hne:g≠a.block) (v:Value):Lies (w.setCell a v) g cs t:=
 (Below.heap_setCell w a v g hne).trans h
theorem Lies.row {w:World} {g:Nat} {cs:Array Value} {t:TypeId} (h:Lies w g cs t) (ds:Array Value):Lies (w.setRow g ds) g ds t:=setRow_heap w g cs ds t (0,0) h
theorem Lies.row_other {w:World} {g k:Nat} {cs:Array Value} {t:TypeId} (h:Lies w g cs t) (hne:g≠k) (ds:Array Value):Lies (w.setRow k ds) g cs t:=
 (setRow_other w k g ds hne).trans h
theorem Lies.cell {w:World} {g:Nat} {cs:Array Value} {t:TypeId} (h:Lies w g cs t) (k:Nat):w.cell? ⟨g,k,none⟩=cs[k]?:=cell_of_row w g k cs t (0,0) h
theorem Lies.frozen {w:World} {g:Nat} {cs:Array Value} {t:TypeId} (h:Lies w g cs t) (k:Nat):w.frozen? ⟨g,k,none⟩=false:=frozen_of_row w g k cs t h
theorem below_row {B:Nat} {a w:World} (h:Below B a w) {g:Nat} (hg:B≤g) (cs:Array Value):Below B a (w.setRow g cs):=
 h.trans ⟨rfl,rfl,rfl,by simp[World.setRow],fun k hk=>setRow_other w g k cs (by omega)⟩
theorem wpList_load_row {P:Program} {ops:Array Oper} {rest:List Oper} {op:Oper} {a:Act} {w:World} {Q:Exit→Act→World→Prop} (hgd:op.guard=none) (ty:TypeId) (x:Operand) (ho:op.op=.load ty x)
  (g:Nat) (hx:a.eval x=.pointer (some ⟨g,0,none⟩)) (cs:Array Value) (t:TypeId) (d:TypeDesc) (hc:Lies w g cs t)
  (hu:P.underlying ty=some d) (hd:(match d with| .struct _| .array _ _=>true|_=>false)=true) (hi:(P.info? ty).map (·.size)=some cs.size)
  (h:wpList P ops Q rest (a.put op.dst (.agg cs)) w):wpList P ops Q (op::rest) a w:=
 wpList_plain hgd fun _ hK=>by
  unfold Oper.wp execOp
  simp only[ho,hx,Instr.loadAt,Instr.sureAddr,Sem.run_bind,Sem.run_pure,Result.andThen_ok,run_loadVar_row w g t ty cs (0,0) d hc hu hd hi]
  exact hK _ _ h
theorem wpList_store_row {P:Program} {ops:Array Oper} {rest:List Oper} {op:Oper} {a:Act} {w:World} {Q:Exit→Act→World→Prop} (hgd:op.guard=none) (ty:TypeId) (x y:Operand) (ho:op.op=.store ty x y)
  (g:Nat) (hx:a.eval x=.pointer (some ⟨g,0,none⟩)) (old cs:Array Value) (hy:a.eval y=.agg cs) (t:TypeId) (hc:Lies w g old t)
  (hi:(P.info? ty).map (·.size)=some cs.size) (hs:old.size=cs.size) (h1:cs.all (·.oneCell')=true) (hdst:op.dst=none)
  (h:wpList P ops Q rest a (w.setRow g cs)):wpList P ops Q (op::rest) a w:=
 wpList_plain hgd fun _ hK=>by
  unfold Oper.wp execOp
  simp only[ho,hx,hy,Instr.storeAt,Instr.sureAddr,Sem.run_bind,Sem.run_pure,Result.andThen_ok,run_storeVar_row w g t ty old cs hc hi hs h1]
  have e:a.put op.dst undef=a:=by rw[hdst];rfl
  exact hK _ _ (by rw[e];exact h)
structure Upto (k:Nat) (c d:Array Value):Prop where
 size:c.size=d.size
 same:∀j,j<k→c[j]?=d[j]?
theorem Upto.next {k:Nat} {c d:Array Value} (h:Upto k c d) {v:Value} (hv:d[k]?=some v):Upto (k+1) (c.setIfInBounds k v) d:=
 ⟨by rw[Array.size_setIfInBounds];exact h.size,fun j hj=>by
  have hk:k<c.size:=by rw[h.size];exact(Array.getElem?_eq_some_iff.1 hv).1
  rw[Array.getElem?_setIfInBounds]
  by_cases e:k=j
  ·subst e
   rw[if_pos rfl,if_pos hk,hv]
  ·rw[if_neg e]
   exact h.same j (by omega)⟩
theorem Upto.all {n:Nat} {c d:Array Value} (h:Upto n c d) (hd:d.size=n):c=d:=by
 apply Array.ext_getElem?
 intro i
 rcases Nat.lt_or_ge i n with hi|hi
 ·exact h.same i hi
 ·rw[Array.getElem?_eq_none (by rw[h.size,hd];exact hi),Array.getElem?_eq_none (by rw[hd];exact hi)]
theorem new_one (w:World) (a:Obj) (cs:Array Value) (t:TypeId):Lies ((w.alloc a).alloc (.cells cs t)) (w.heap.size+1) cs t:=by
 simpa using Lies.new (w.alloc a) cs t
theorem new_two (w:World) (a b:Obj) (cs:Array Value) (t:TypeId):Lies (((w.alloc a).alloc b).alloc (.cells cs t)) (w.heap.size+2) cs t:=by
 simpa using Lies.new ((w.alloc a).alloc b) cs t
theorem Lies.range {w:World} {g:Nat} {cs:Array Value} {t:TypeId} (h:Lies w g cs t):w.rangeAt g 0 cs.toList:=
 fun j v hv=>by rw[Nat.zero_add,h.cell j,←hv,Array.getElem?_toList]
open Go.RowKit
theorem ret_i64 {a b:Int} (h:a=b):Ending.returned (.int .i64 a)=.returned (.int .i64 b):=by rw[h]
theorem ret_b {a b:Bool} (h:a=b):Ending.returned (.bool a)=.returned (.bool b):=by rw[h]
def RowL (l:List UInt8) (g o:Nat) (w:World):Prop:=∀j,(h:j<l.length)→w.cell? ⟨g,o+j,none⟩=some (.int .u8 (l[j].toNat:Int))
def Bts (a:Option Addr) (l:List UInt8) (w:World):Prop:=l=[]∨∃g o,a=some ⟨g,o,none⟩∧g<w.heap.size∧RowL l g o w
theorem Bts.below {a:Option Addr} {l:List UInt8} {w w':World} (h:Bts a l w) (hb:Below w.heap.size w w'):Bts a l w':=by
 rcases h with h|⟨g,o,e,hg,hr⟩
 ·exact .inl h
 ·exact .inr ⟨g,o,e,Nat.lt_of_lt_of_le hg hb.size,fun j hj=>(hb.cell (p:=⟨g,o+j,none⟩) hg).trans (hr j hj)⟩
theorem Bts.nil (a:Option Addr) (w:World):Bts a [] w:=.inl rfl
theorem Bts.cell {a:Option Addr} {l:List UInt8} {w:World} (h:Bts a l w) (k:Nat) (hk:k<l.length):∃g o,a=some ⟨g,o,none⟩∧g<w.heap.size∧w.cell? ⟨g,o+k,none⟩=some (.int .u8 (l[k].toNat:Int)):=by
 rcases h with rfl|⟨g,o,e,hg,hr⟩
 ·simp at hk
 ·exact⟨g,o,e,hg,hr k hk⟩
def cellsB (l:List UInt8):List Value:=l.map fun b=>Value.int .u8 (b.toNat:Int)
theorem cellsB_length (l:List UInt8):(cellsB l).length=l.length:=by simp[cellsB]
theorem cellsB_append (l r:List UInt8):cellsB (l++r)=cellsB l++cellsB r:=by simp[cellsB]
theorem cellsB_at (l:List UInt8) (j:Nat) (h:j<l.length):(cellsB l)[j]?=some (.int .u8 (l[j].toNat:Int)):=by simp[cellsB,List.getElem?_eq_getElem h]
theorem cellsB_one (l:List UInt8):∀v∈cellsB l,v.oneCell'=true:=by
 intro v hv
 simp only[cellsB,List.mem_map]at hv
 obtain⟨b,_,rfl⟩:=hv
 rfl
def rowV (l:List UInt8):Array Value:=(cellsB l).toArray
theorem rowV_at (l:List UInt8) (j:Nat) (h:j<l.length):(rowV l)[j]?=some (.int .u8 (l[j].toNat:Int)):=by
 rw[rowV,List.getElem?_toArray,cellsB_at l j h]
theorem info5:(Tryz.prog.info? 5).map (fun i=>(i.zero,i.size,i.bytes))=some (some (.int .u8 0),1,1):=by kernel_rfl
theorem own_bts {w:World} {base n:Nat} {v:Value} {l:List UInt8} (h:w.ownsRow base 5 1 v n (cellsB l)):∃a cap,v=.slice a n cap∧Bts a l w∧l.length=n∧(a=none→cap=0)∧n≤cap∧∀ad,a=some ad→base≤ad.block∧ad.block<w.heap.size∧ad.off=0∧ad.spot=none:=by
 obtain⟨h1,h2⟩:=id h
 have hl:l.length=n:=by rw[cellsB_length]at h1;omega
 rcases h2 with⟨rfl,h0⟩|⟨g,cap,cur,rfl,hb,hg,hcap,_⟩
 ·exact⟨none,0,by rw[h0],.inl (List.eq_nil_of_length_eq_zero (hl.trans h0)),hl,fun _=>rfl,by omega,fun ad e=>by cases e⟩
 ·refine⟨_,cap,rfl,.inr ⟨g,0,rfl,(Array.getElem?_eq_some_iff.1 hg).1,fun j hj=>?_⟩,hl,(fun e=>by cases e),hcap,fun ad e=>?_⟩
  ·have:=h.cellAt j (by omega)
   rw[Nat.zero_add,this,cellsB_at l j hj]
  ·injection e with e
   subst e
   exact⟨hb,(Array.getElem?_eq_some_iff.1 hg).1,rfl,rfl⟩
theorem bts_news {ad:Addr} {l:List UInt8} {w:World} (h:Bts (some ad) l w):∀j u,(cellsB l)[j]?=some u→w.cell? (ad.add j)=some u:=by
 intro j u hu
 have hj:j<l.length:=by
  have:=(List.getElem?_eq_some_iff.1 hu).1
  simpa [cellsB] using this
 obtain⟨g,o,e,_,hc⟩:=h.cell j hj
 injection e with e
 subst e
 rw[Addr.add_lit,hc,←hu,cellsB_at l j hj]
theorem Bts.take {a:Option Addr} {l:List UInt8} {w:World} (h:Bts a l w) (n:Nat):Bts a (l.take n) w:=by
 rcases h with rfl|⟨g,o,e,hg,hr⟩
 ·exact .inl (by simp)
 ·exact .inr ⟨g,o,e,hg,fun j hj=>by rw[List.length_take]at hj;rw[hr j (by omega),List.getElem_take]⟩
theorem bts_none {l:List UInt8} {w:World} (h:Bts none l w):l=[]:=by
 rcases h with h|⟨g,o,e,_⟩
 ·exact h
 ·cases e
theorem wpList_append_bts {ops:Array Oper} {rest:List Oper} {o:Oper} {a:Act} {w:World} {Q:Exit→Act→World→Prop} (hgd:o.guard=none) (s x:Operand)
  (ho:o.op=.call {callee:=.builtin .append,args:=#[s,x],argTypes:=#[98,98]}) (base:Nat) (v:Value) (n:Nat) (xs:List UInt8) (hs:a.eval s=v) (hown:w.ownsRow base 5 1 v n (cellsB xs))
  (sp:Option Addr) (l:List UInt8) (c:Nat) (hx:a.eval x=.slice sp l.length c) (hb:Bts sp l w) (hnc:sp=none→c=0) (hbytes:n+l.length≤140737488355328) (hbase:base≤w.heap.size)
  (h:∀v' w',w'.ownsRow base 5 1 v' (n+l.length) (cellsB (xs++l))→(∀B w0,Below B w0 w→B≤base→Below B w0 w')→wpList Tryz.prog ops Q rest (a.put o.dst v') w'):wpList Tryz.prog ops Q (o::rest) a w:=by
 obtain⟨i0,hi,hz0,hz1,hz2⟩:=info_parts info5
 cases sp with
 |none=>
  obtain rfl:=bts_none hb
  obtain rfl:=hnc rfl
  refine wpList_append_own_none hgd s x 98 ho base 5 i0 1 Tryz.underlying98 hi v n _ hs hown hx ?_
  exact h v w (by simpa using hown) (fun _ _ hb _=>hb)
 |some ad=>
  refine wpList_append_own _ hgd s x 98 ho base 5 i0 (.int .u8 0) 1 1 Tryz.underlying98 hi hz0 hz1 hz2 rfl (by decide) v n _ hs hown ad l.length c (cellsB l) hx (by rw[cellsB_length];omega) (bts_news hb) (cellsB_one l) (by unfold maxLen;omega) (by omega) hbase ?_
  intro v' w' hown' hgrow _
  exact h v' w' (by rw[cellsB_append];exact hown') (fun B w0 hb hB=>hb.grown hgrow (by omega) (fun q hq=>Nat.le_trans hB (hown.lt q hq).1))
theorem wpList_append_byte {ops:Array Oper} {rest:List Oper} {o:Oper} {a:Act} {w:World} {Q:Exit→Act→World→Prop} (hgd:o.guard=none) (s x:Operand)
  (ho:o.op=.call {callee:=.builtin .append,args:=#[s,x],argTypes:=#[98,98]}) (base:Nat) (v:Value) (n:Nat) (xs:List UInt8) (hs:a.eval s=v) (hown:w.ownsRow base 5 1 v n (cellsB xs))
  (w0:World) (b:UInt8) (y:Int) (hy:y=(b.toNat:Int)) (hw:w=w0.alloc (.cells #[.int .u8 y] 5)) (c:Nat) (hx:a.eval x=.slice (some ⟨w0.heap.size,0,none⟩) 1 c) (hbytes:n+1≤140737488355328) (hbase:base≤w0.heap.size)
  (h:∀v' w',w'.ownsRow base 5 1 v' (n+1) (cellsB (xs++[b]))→(∀B w1,Below B w1 w0→B≤base→Below B w1 w')→wpList Tryz.prog ops Q rest (a.put o.dst v') w'):wpList Tryz.prog ops Q (o::rest) a w:=by
 subst hw hy
 refine wpList_append_bts hgd s x ho base v n xs hs hown (some ⟨w0.heap.size,0,none⟩) [b] c hx ?_ (fun e=>by cases e) (by simpa using hbytes) (by simp;omega) ?_
 ·exact .inr ⟨w0.heap.size,0,rfl,by simp,fun j hj=>by
   obtain rfl:j=0:=by simpa using hj
   simp⟩
 ·intro v' w' ho' hb'
  exact h v' w' ho' (fun B w1 hb1 hB=>hb' B w1 (hb1.alloc (by omega) _) hB)
theorem lies_kind {w:World} {g t u:Nat} {cs ds:Array Value} (h:Lies w g cs t) (k:Lies w g ds u):t=u:=by
 have:=h.symm.trans k
 injection this with e
 injection e
theorem own_keep {w w':World} {B n:Nat} {v:Value} {xs:List Value} (h:w.ownsRow B 5 1 v n xs) (hb:∀k,v.ownBlock=some k→w'.heap[k]?=w.heap[k]?):w'.ownsRow B 5 1 v n xs:=by
 obtain⟨h1,h2⟩:=h
 refine⟨h1,?_⟩
 rcases h2 with h2|⟨g,cap,cur,rfl,hB,hg,hr⟩
 ·exact .inl h2
 ·exact .inr ⟨g,cap,cur,rfl,hB,by rw[hb g rfl];exact hg,hr⟩
theorem own_apart {w:World} {B n g t:Nat} {v:Value} {xs:List Value} {cs:Array Value} (h:w.ownsRow B 5 1 v n xs) (hl:Lies w g cs t) (ht:t≠5):∀k,v.ownBlock=some k→k≠g:=by
 intro k hk e
 subst e
 rcases h.2 with⟨rfl,_⟩|⟨g',cap,cur,rfl,hB,hg,_⟩
 ·cases hk
 ·injection hk with hk
  subst hk
  exact ht (lies_kind hl hg)
structure Rw (w:World) (g cap:Nat) (l:List UInt8):Prop where
 ex:∃cur,w.heap[g]?=some (.cells cur 5 (0,0))∧l.length≤cap∧cur.size=cap∧cur.toList.take l.length=cellsB l
theorem Rw.of {w w':World} {g cap:Nat} {l:List UInt8} (h:Rw w g cap l) (e:w'.heap[g]?=w.heap[g]?):Rw w' g cap l:=by
 obtain⟨cur,h1,h2⟩:=h.ex
 exact⟨cur,e.trans h1,h2⟩
theorem Rw.lt {w:World} {g cap:Nat} {l:List UInt8} (h:Rw w g cap l):g<w.heap.size:=by
 obtain⟨cur,h1,_⟩:=h.ex
 exact(Array.getElem?_eq_some_iff.1 h1).1
theorem Rw.cap {w:World} {g cap:Nat} {l:List UInt8} (h:Rw w g cap l):l.length≤cap:=by
 obtain⟨cur,_,h1,_⟩:=h.ex
 exact h1
theorem Rw.below {w w':World} {g cap:Nat} {l:List UInt8} (h:Rw w g cap l) (hb:Below w.heap.size w w'):Rw w' g cap l:=h.of (hb.block g h.lt)
theorem Rw.cell {w:World} {g cap:Nat} {l:List UInt8} (h:Rw w g cap l) (k:Nat) (hk:k<l.length):w.cell? ⟨g,k,none⟩=some (.int .u8 (l[k].toNat:Int)):=by
 obtain⟨cur,h1,h2,h3,h4⟩:=h.ex
 have e:=congrArg (fun x=>x[k]?) h4
 simp only[List.getElem?_take,if_pos hk,cellsB_at l k hk,Array.getElem?_toList]at e
 exact(Lies.cell h1 k).trans e
theorem Rw.frozen {w:World} {g cap:Nat} {l:List UInt8} (h:Rw w g cap l) (k:Nat):w.frozen? ⟨g,k,none⟩=false:=by
 obtain⟨cur,h1,_⟩:=h.ex
 exact Lies.frozen h1 k
theorem Rw.bts {w:World} {g cap:Nat} {l:List UInt8} (h:Rw w g cap l) (k:Nat):Bts (some ⟨g,0,none⟩) (l.take k) w:=by
 refine .inr ⟨g,0,rfl,h.lt,fun j hj=>?_⟩
 rw[Nat.zero_add]
 have hj':j<l.length:=by rw[List.length_take]at hj;omega
 rw[List.getElem_take]
 exact h.cell j hj'
theorem Rw.all {w:World} {g cap:Nat} {l:List UInt8} (h:Rw w g cap l):Bts (some ⟨g,0,none⟩) l w:=by
 have:=h.bts l.length
 rwa[List.take_length]at this
theorem Rw.set {w:World} {g cap:Nat} {l:List UInt8} (h:Rw w g cap l) (k:Nat) (x:UInt8):Rw (w.setCell ⟨g,k,none⟩ (.int .u8 (x.toNat:Int))) g cap (l.set k x):=by
 obtain⟨cur,h1,h2,h3,h4⟩:=h.ex
 refine⟨cur.setIfInBounds k (.int .u8 (x.toNat:Int)),Lies.set h1 k _,by rw[List.length_set];exact h2,by rw[Array.size_setIfInBounds];exact h3,?_⟩
 rw[List.length_set,Array.toList_setIfInBounds,List.take_set,h4]
 simp[cellsB]
theorem Rw.other {w:World} {g q cap:Nat} {l:List UInt8} (h:Rw w g cap l) (hne:g≠q) (k:Nat) (v:Value):Rw (w.setCell ⟨q,k,none⟩ v) g cap l:=h.of (Below.heap_setCell _ _ _ _ hne)
theorem bts_back {a:Option Addr} {l:List UInt8} {w:World} (h:Bts a l w) (c:Nat):(convert 98 9 (.slice a l.length c)).run Tryz.prog w=.ok (.string ⟨l.toArray⟩) w:=by
 cases a with
 |none=>
  obtain rfl:=bts_none h
  exact run_convert_bytes_nil w 98 5 Tryz.underlying98 Tryz.underlying5 0 c 9 Tryz.underlying9
 |some ad=>
  refine run_convert_bytes_back (P:=Tryz.prog) w 98 9 5 ad c l Tryz.underlying98 Tryz.underlying5 Tryz.underlying9 (fun j hj=>?_)
  have:=bts_news h j (.int .u8 (l[j].toNat:Int)) (cellsB_at l j hj)
  simpa using this
structure But (g:Nat) (w w':World):Prop where
 os:w'.os=w.os
 tape:w'.tape=w.tape
 output:w'.output=w.output
 size:w.heap.size≤w'.heap.size
 block:∀k,k<w.heap.size→k≠g→w'.heap[k]?=w.heap[k]?
theorem But.refl (g:Nat) (w:World):But g w w:=⟨rfl,rfl,rfl,Nat.le_refl _,fun _ _ _=>rfl⟩
theorem But.trans {g:Nat} {a b c:World} (h:But g a b) (k:But g b c):But g a c:=
 ⟨k.os.trans h.os,k.tape.trans h.tape,k.output.trans h.output,Nat.le_trans h.size k.size,fun j hj hne=>(k.block j (Nat.lt_of_lt_of_le hj h.size) hne).trans (h.block j hj hne)⟩
theorem But.set {g:Nat} {w w':World} (h:But g w w') (j:Nat) (v:Value):But g w (w'.setCell ⟨g,j,none⟩ v):=
 ⟨h.os,h.tape,h.output,by rw[World.size_setCell];exact h.size,fun k hk hne=>(Below.heap_setCell _ _ _ _ hne).trans (h.block k hk hne)⟩
theorem But.row {g:Nat} {w w':World} (h:But g w w') (cs:Array Value):But g w (w'.setRow g cs):=
 ⟨h.os,h.tape,h.output,by simp[World.setRow];exact h.size,fun k hk hne=>(setRow_other _ _ _ _ hne).trans (h.block k hk hne)⟩
theorem But.below {g B:Nat} {w w':World} (h:But g w w') (hB:B≤g) (hs:B≤w.heap.size):Below B w w':=
 ⟨h.os,h.tape,h.output,h.size,fun k hk=>h.block k (by omega) (by omega)⟩
theorem But.of_below {g:Nat} {w w':World} (h:Below w.heap.size w w'):But g w w':=⟨h.os,h.tape,h.output,h.size,fun k hk _=>h.block k hk⟩
theorem But.lies {g k:Nat} {w w':World} {cs:Array Value} {t:TypeId} (h:But g w w') (hl:Lies w k cs t) (hne:k≠g):Lies w' k cs t:=(h.block k hl.lt hne).trans hl
theorem But.bts {g:Nat} {a:Option Addr} {l:List UInt8} {w w':World} (h:But g w w') (hb:Bts a l w) (hne:∀ad,a=some ad→ad.block≠g):Bts a l w':=by
 rcases hb with hb|⟨b,o,e,hb,hr⟩
 ·exact .inl hb
 ·exact .inr ⟨b,o,e,Nat.lt_of_lt_of_le hb h.size,fun j hj=>(World.cell?_of_block (w:=w) (a:=⟨b,o+j,none⟩) (h.block b hb (hne _ e))).trans (hr j hj)⟩
open Go.RowKit
theorem grown_on {w w1 w2:World} {row row2:Option Nat} (h1:w.grownBy w1 row) (h2:w1.grownBy w2 row2) (h:∀k,row2=some k→some k=row∨w.heap.size≤k):w.grownBy w2 row:=
 ⟨h2.os.trans h1.os,h2.tape.trans h1.tape,h2.output.trans h1.output,Nat.le_trans h1.size h2.size,fun k hk hne=>(h2.block k (Nat.lt_of_lt_of_le hk h1.size) (fun e=>by
  rcases h k e.symm with h'|h'
  ·exact hne h'
  ·omega)).trans (h1.block k hk hne)⟩
theorem base_le {w:World} {base base' e size n:Nat} {v:Value} {xs:List Value} (h:w.ownsRow base e size v n xs) (hb:base'≤base):w.ownsRow base' e size v n xs:=by
 obtain⟨h1,h2⟩:=h
 refine⟨h1,?_⟩
 rcases h2 with h2|⟨g,cap,cur,hv,hg,r⟩
 ·exact .inl h2
 ·exact .inr ⟨g,cap,cur,hv,by omega,r⟩
def isR (x:Int):Prop:=0≤x∧x≤1114111∧(x<55296∨57343<x)
instance (x:Int):Decidable (isR x):=by unfold isR;infer_instance
abbrev Q:=Nat×Nat×Nat
def q0:Q:=(0,0,0)
def begQ (b:Nat):Option Q:=
 if b<128 then some (0,0,0)
 else if 194≤b∧b≤223 then some (1,128,191)
 else if 224≤b∧b≤224 then some (2,160,191)
 else if 225≤b∧b≤236 then some (2,128,191)
 else if 237≤b∧b≤237 then some (2,128,159)
 else if 238≤b∧b≤239 then some (2,128,191)
 else if 240≤b∧b≤240 then some (3,144,191)
 else if 241≤b∧b≤243 then some (3,128,191)
 else if 244≤b∧b≤244 then some (3,128,143)
 else none
def stepQ (q:Q) (b:Nat):Option Q:=
 if q.1=0 then begQ b
 else if b<q.2.1∨q.2.2<b then none
 else if q.1=1 then some (0,0,0) else some (q.1 - 1,128,191)
def runQ (q:Q):List UInt8→Option Q
 |[]=>some q
 |b::t=>(stepQ q b.toNat).bind fun q'=>runQ q' t
def badUA (q:Q) (n whole:Nat):List UInt8→Nat
 |[]=>whole
 |b::t=>match stepQ q b.toNat with
  |none=>whole
  |some q'=>badUA q' (n+1) (if q'.1=0 then n+1 else whole) t
def badU (l:List UInt8):Nat:=badUA q0 0 0 l
def oneN (l:List UInt8):Option (Int×Nat):=
 match l with
 |[]=>none
 |a::t=>
  if a.toNat<128 then some (a.toNat,1) else
  match t with
  |[]=>none
  |b::t=>
   if 194≤a.toNat∧a.toNat≤223∧128≤b.toNat∧b.toNat≤191 then some ((a.toNat - 192)*64+(b.toNat - 128),2) else
   match t with
   |[]=>none
   |c::t=>
    if 224≤a.toNat∧a.toNat≤239∧128≤b.toNat∧b.toNat≤191∧(a.toNat=224→160≤b.toNat)∧(a.toNat=237→b.toNat≤159)∧128≤c.toNat∧c.toNat≤191 then some (((a.toNat - 224)*64+(b.toNat - 128))*64+(c.toNat - 128),3) else
    match t with
    |[]=>none
    |d::_=>
     if 240≤a.toNat∧a.toNat≤244∧128≤b.toNat∧b.toNat≤191∧(a.toNat=240→144≤b.toNat)∧(a.toNat=244→b.toNat≤143)∧128≤c.toNat∧c.toNat≤191∧128≤d.toNat∧d.toNat≤191 then some ((((a.toNat - 240)*64+(b.toNat - 128))*64+(c.toNat - 128))*64+(d.toNat - 128),4) else none
theorem stepQ_zero (b:Nat):stepQ (0,0,0) b=begQ b:=by simp[stepQ]
theorem stepQ_low {n lo hi b:Nat} (hn:n≠0) (h:b<lo∨hi<b):stepQ (n,lo,hi) b=none:=by simp[stepQ,hn,h]
theorem stepQ_last {lo hi b:Nat} (h1:lo≤b) (h2:b≤hi):stepQ (1,lo,hi) b=some (0,0,0):=by
 have:¬(b<lo∨hi<b):=by omega
 simp[stepQ,this]
theorem stepQ_more {n lo hi b:Nat} (hn:2≤n) (h1:lo≤b) (h2:b≤hi):stepQ (n,lo,hi) b=some (n - 1,128,191):=by
 have:¬(b<lo∨hi<b):=by omega
 have h0:n≠0:=by omega
 have h1:n≠1:=by omega
 simp[stepQ,this,h0,h1]
theorem begQ_one {b:Nat} (h:b<128):begQ b=some (0,0,0):=by simp[begQ,h]
theorem begQ_cases (b:Nat):
  (b<128∧begQ b=some (0,0,0))∨
  (194≤b∧b≤223∧begQ b=some (1,128,191))∨
  (224≤b∧b≤239∧∃lo hi,begQ b=some (2,lo,hi)∧lo=(if b=224 then 160 else 128)∧hi=(if b=237 then 159 else 191))∨
  (240≤b∧b≤244∧∃lo hi,begQ b=some (3,lo,hi)∧lo=(if b=240 then 144 else 128)∧hi=(if b=244 then 143 else 191))∨
  (((128≤b∧b<194)∨244<b)∧begQ b=none):=by
 unfold begQ
 by_cases h1:b<128
 ·left;simp[h1]
 by_cases h2:194≤b∧b≤223
 ·right;left;simp[h1,h2]
 by_cases h3:224≤b∧b≤239
 ·right;right;left
  refine⟨h3.1,h3.2,?_⟩
  rw[if_neg h1,if_neg h2]
  by_cases e1:b=224
  ·subst e1;exact⟨160,191,by simp,by simp,by simp⟩
  by_cases e2:b=237
  ·subst e2;exact⟨128,159,by simp,by simp,by simp⟩
  rw[if_neg (by omega)]
  rw[if_neg e1,if_neg e2]
  refine⟨128,191,?_,rfl,rfl⟩
  by_cases e3:225≤b∧b≤236
  ·rw[if_pos e3]
  ·rw[if_neg e3,if_neg (by omega),if_pos (by omega)]
 by_cases h4:240≤b∧b≤244
 ·right;right;right;left
  refine⟨h4.1,h4.2,?_⟩
  rw[if_neg h1,if_neg h2,if_neg (by omega),if_neg (by omega),if_neg (by omega),if_neg (by omega)]
  by_cases e1:b=240
  ·subst e1;exact⟨144,191,by simp,by simp,by simp⟩
  by_cases e2:b=244
  ·subst e2;exact⟨128,143,by simp,by simp,by simp⟩
  rw[if_neg (by omega),if_neg e1,if_neg e2]
  exact⟨128,191,by rw[if_pos (by omega)],rfl,rfl⟩
 ·right;right;right;right
  refine⟨by omega,?_⟩
  rw[if_neg h1,if_neg h2,if_neg (by omega),if_neg (by omega),if_neg (by omega),if_neg (by omega),if_neg (by omega),if_neg (by omega),if_neg (by omega)]
theorem oneN_run (l:List UInt8) (r:Int) (n:Nat) (h:oneN l=some (r,n)):
  n≤l.length∧0<n∧(∀k w,badUA q0 k w l=badUA q0 (k+n) (k+n) (l.drop n))∧(runQ q0 l=runQ q0 (l.drop n)):=by
 unfold oneN at h
 match l with
 |[]=>simp at h
 |a::t=>
  simp only at h
  by_cases ha:a.toNat<128
  ·rw[if_pos ha]at h
   injection h with h;injection h with h1 h2
   subst h2
   refine⟨by simp,by omega,?_,?_⟩
   ·intro k w
    simp[badUA,q0,stepQ_zero,begQ_one ha]
   ·simp[runQ,q0,stepQ_zero,begQ_one ha]
  rw[if_neg ha]at h
  match t with
  |[]=>simp at h
  |b::t=>
   simp only at h
   by_cases hb:194≤a.toNat∧a.toNat≤223∧128≤b.toNat∧b.toNat≤191
   ·rw[if_pos hb]at h
    injection h with h;injection h with h1 h2
    subst h2
    have e1:begQ a.toNat=some (1,128,191):=by
     rcases begQ_cases a.toNat with h|h|h|h|h<;>first|exact h.2.2|omega
    have e2:=stepQ_last (b:=b.toNat) hb.2.2.1 hb.2.2.2
    refine⟨by simp,by omega,?_,?_⟩
    ·intro k w
     simp[badUA,q0,stepQ_zero,e1,e2]
    ·simp[runQ,q0,stepQ_zero,e1,e2]
   rw[if_neg hb]at h
   match t with
   |[]=>simp at h
   |c::t=>
    simp only at h
    by_cases hc:224≤a.toNat∧a.toNat≤239∧128≤b.toNat∧b.toNat≤191∧(a.toNat=224→160≤b.toNat)∧(a.toNat=237→b.toNat≤159)∧128≤c.toNat∧c.toNat≤191
    ·rw[if_pos hc]at h
     injection h with h;injection h with h1 h2
     subst h2
     obtain⟨lo,hi,e1,elo,ehi⟩:∃lo hi,begQ a.toNat=some (2,lo,hi)∧lo=(if a.toNat=224 then 160 else 128)∧hi=(if a.toNat=237 then 159 else 191):=by
      rcases begQ_cases a.toNat with h|h|h|h|h<;>first|exact h.2.2|omega
     have e2:stepQ (2,lo,hi) b.toNat=some (1,128,191):=stepQ_more (n:=2) (by omega) (by rw[elo];split<;>omega) (by rw[ehi];split<;>omega)
     have e3:=stepQ_last (b:=c.toNat) hc.2.2.2.2.2.2.1 hc.2.2.2.2.2.2.2
     refine⟨by simp,by omega,?_,?_⟩
     ·intro k w
      simp[badUA,q0,stepQ_zero,e1,e2,e3]
     ·simp[runQ,q0,stepQ_zero,e1,e2,e3]
    rw[if_neg hc]at h
    match t with
    |[]=>simp at h
    |d::t=>
     simp only at h
     by_cases hd:240≤a.toNat∧a.toNat≤244∧128≤b.toNat∧b.toNat≤191∧(a.toNat=240→144≤b.toNat)∧(a.toNat=244→b.toNat≤143)∧128≤c.toNat∧c.toNat≤191∧128≤d.toNat∧d.toNat≤191
     ·rw[if_pos hd]at h
      injection h with h;injection h with h1 h2
      subst h2
      obtain⟨lo,hi,e1,elo,ehi⟩:∃lo hi,begQ a.toNat=some (3,lo,hi)∧lo=(if a.toNat=240 then 144 else 128)∧hi=(if a.toNat=244 then 143 else 191):=by
       rcases begQ_cases a.toNat with h|h|h|h|h<;>first|exact h.2.2|omega
      have e2:stepQ (3,lo,hi) b.toNat=some (2,128,191):=stepQ_more (n:=3) (by omega) (by rw[elo];split<;>omega) (by rw[ehi];split<;>omega)
      have e3:stepQ (2,128,191) c.toNat=some (1,128,191):=stepQ_more (n:=2) (by omega) (by omega) (by omega)
      have e4:stepQ (1,128,191) d.toNat=some (0,0,0):=stepQ_last (by omega) (by omega)
      refine⟨by simp,by omega,?_,?_⟩
      ·intro k w
       simp[badUA,q0,stepQ_zero,e1,e2,e3,e4]
      ·simp[runQ,q0,stepQ_zero,e1,e2,e3,e4]
     ·rw[if_neg hd]at h
      cases h
theorem oneN_none (l:List UInt8) (h:oneN l=none) (k w:Nat):badUA q0 k w l=w:=by
 unfold oneN at h
 match l with
 |[]=>simp[badUA]
 |a::t=>
  simp only at h
  by_cases ha:a.toNat<128
  ·rw[if_pos ha]at h;cases h
  rw[if_neg ha]at h
  rcases begQ_cases a.toNat with h1|⟨h1,h2,e1⟩|⟨h1,h2,lo,hi,e1,elo,ehi⟩|⟨h1,h2,lo,hi,e1,elo,ehi⟩|⟨_,e1⟩
  ·omega
  ·match t with
   |[]=>simp[badUA,q0,stepQ_zero,e1]
   |b::t=>
    simp only at h
    by_cases hb:194≤a.toNat∧a.toNat≤223∧128≤b.toNat∧b.toNat≤191
    ·rw[if_pos hb]at h;cases h
    ·have e2:stepQ (1,128,191) b.toNat=none:=stepQ_low (by omega) (by omega)
     simp[badUA,q0,stepQ_zero,e1,e2]
  ·match t with
   |[]=>simp[badUA,q0,stepQ_zero,e1]
   |b::t=>
    simp only at h
    rw[if_neg (by omega)]at h
    by_cases hb:lo≤b.toNat∧b.toNat≤hi
    ·have e2:stepQ (2,lo,hi) b.toNat=some (1,128,191):=stepQ_more (n:=2) (by omega) hb.1 hb.2
     match t with
     |[]=>simp[badUA,q0,stepQ_zero,e1,e2]
     |c::t=>
      simp only at h
      by_cases hc:128≤c.toNat∧c.toNat≤191
      ·have g1:128≤b.toNat∧(a.toNat=224→160≤b.toNat):=by
        have:=hb.1;rw[elo]at this;split at this<;>omega
       have g2:b.toNat≤191∧(a.toNat=237→b.toNat≤159):=by
        have:=hb.2;rw[ehi]at this;split at this<;>omega
       rw[if_pos ⟨h1,h2,g1.1,g2.1,g1.2,g2.2,hc.1,hc.2⟩]at h
       cases h
      ·have e3:stepQ (1,128,191) c.toNat=none:=stepQ_low (by omega) (by omega)
       simp[badUA,q0,stepQ_zero,e1,e2,e3]
    ·have e2:stepQ (2,lo,hi) b.toNat=none:=stepQ_low (by omega) (by omega)
     simp[badUA,q0,stepQ_zero,e1,e2]
  ·match t with
   |[]=>simp[badUA,q0,stepQ_zero,e1]
   |b::t=>
    simp only at h
    rw[if_neg (by omega)]at h
    by_cases hb:lo≤b.toNat∧b.toNat≤hi
    ·have e2:stepQ (3,lo,hi) b.toNat=some (2,128,191):=stepQ_more (n:=3) (by omega) hb.1 hb.2
     match t with
     |[]=>simp[badUA,q0,stepQ_zero,e1,e2]
     |c::t=>
      simp only at h
      rw[if_neg (by omega)]at h
      by_cases hc:128≤c.toNat∧c.toNat≤191
      ·have e3:stepQ (2,128,191) c.toNat=some (1,128,191):=stepQ_more (n:=2) (by omega) hc.1 hc.2
       match t with
       |[]=>simp[badUA,q0,stepQ_zero,e1,e2,e3]
       |d::t=>
        simp only at h
        by_cases hd:128≤d.toNat∧d.toNat≤191
        ·have g1:128≤b.toNat∧(a.toNat=240→144≤b.toNat):=by
          have:=hb.1;rw[elo]at this;split at this<;>omega
         have g2:b.toNat≤191∧(a.toNat=244→b.toNat≤143):=by
          have:=hb.2;rw[ehi]at this;split at this<;>omega
         rw[if_pos ⟨h1,h2,g1.1,g2.1,g1.2,g2.2,hc.1,hc.2,hd.1,hd.2⟩]at h
         cases h
        ·have e4:stepQ (1,128,191) d.toNat=none:=stepQ_low (by omega) (by omega)
         simp[badUA,q0,stepQ_zero,e1,e2,e3,e4]
      ·have e3:stepQ (2,128,191) c.toNat=none:=stepQ_low (by omega) (by omega)
       simp[badUA,q0,stepQ_zero,e1,e2,e3]
    ·have e2:stepQ (3,lo,hi) b.toNat=none:=stepQ_low (by omega) (by omega)
     simp[badUA,q0,stepQ_zero,e1,e2]
  ·simp[badUA,q0,stepQ_zero,e1]
theorem badUA_shift (l:List UInt8):∀(q:Q) (n w k:Nat),badUA q (n+k) (w+k) l=badUA q n w l+k:=by
 induction l with
 |nil=>intro q n w k;rfl
 |cons b t ih=>
  intro q n w k
  unfold badUA
  cases stepQ q b.toNat with
  |none=>rfl
  |some q'=>
   simp only
   split
   ·rw[show n+k+1=(n+1)+k from by omega,ih]
   ·rw[show n+k+1=(n+1)+k from by omega,ih]
theorem badU_some {l:List UInt8} {r:Int} {n:Nat} (h:oneN l=some (r,n)):badU l=n+badU (l.drop n):=by
 have:=(oneN_run l r n h).2.2.1 0 0
 unfold badU
 rw[this,badUA_shift,Nat.add_comm]
theorem badU_none {l:List UInt8} (h:oneN l=none):badU l=0:=oneN_none l h 0 0
theorem badUA_le (l:List UInt8):∀(q:Q) (n w:Nat),w≤n→badUA q n w l≤n+l.length:=by
 induction l with
 |nil=>intro q n w h;simp[badUA];omega
 |cons b t ih=>
  intro q n w h
  unfold badUA
  cases stepQ q b.toNat with
  |none=>simp;omega
  |some q'=>
   have:=ih q' (n+1) (if q'.1=0 then n+1 else w) (by split<;>omega)
   simp only[List.length_cons]
   omega
theorem badU_le (l:List UInt8):badU l≤l.length:=by
 have:=badUA_le l q0 0 0 (Nat.le_refl _)
 unfold badU;omega
open Go.RowKit
def fsRows:List (List Int):=[[194,223,1,128,191],[224,224,2,160,191],[225,236,2,128,191],[237,237,2,128,159],[238,239,2,128,191],[240,240,3,144,191],[241,243,3,128,191],[244,244,3,128,143]]
def fsCells:Array Value:=(fsRows.flatten.map fun x=>Value.int .u8 x).toArray
def Fst (w:World):Prop:=∃t fr,w.heap[1]?=some (.cells fsCells t fr)
theorem wpList_load_rowF {P:Program} {ops:Array Oper} {rest:List Oper} {op:Oper} {a:Act} {w:World} {Q:Exit→Act→World→Prop} (hgd:op.guard=none) (ty:TypeId) (x:Operand) (ho:op.op=.load ty x)
  (g:Nat) (hx:a.eval x=.pointer (some ⟨g,0,none⟩)) (cs:Array Value) (t:TypeId) (fr:Nat×Nat) (d:TypeDesc) (hc:w.heap[g]?=some (.cells cs t fr))
  (hu:P.underlying ty=some d) (hd:(match d with| .struct _| .array _ _=>true|_=>false)=true) (hi:(P.info? ty).map (·.size)=some cs.size)
  (h:wpList P ops Q rest (a.put op.dst (.agg cs)) w):wpList P ops Q (op::rest) a w:=
 wpList_plain hgd fun _ hK=>by
  unfold Oper.wp execOp
  simp only[ho,hx,Instr.loadAt,Instr.sureAddr,Sem.run_bind,Sem.run_pure,Result.andThen_ok,run_loadVar_row w g t ty cs fr d hc hu hd hi]
  exact hK _ _ h
theorem fs_size:(Tryz.prog.info? 206).map (·.size)=some fsCells.size:=by kernel_rfl
def stC (left low high:Int) (wrong:Bool):List Value:=[.int .u8 left,.int .u8 low,.int .u8 high,.bool wrong]
def StAt (w:World) (g:Nat) (p:List Value) (t:TypeId) (left low high:Int) (wrong:Bool):Prop:=Lies w g (p++stC left low high wrong).toArray t
theorem StAt.cell {w:World} {g:Nat} {p:List Value} {t:TypeId} {left low high:Int} {wrong:Bool} (h:StAt w g p t left low high wrong):
  w.cell? ⟨g,p.length,none⟩=some (.int .u8 left)∧w.cell? ⟨g,p.length+1,none⟩=some (.int .u8 low)∧w.cell? ⟨g,p.length+2,none⟩=some (.int .u8 high)∧w.cell? ⟨g,p.length+3,none⟩=some (.bool wrong):=by
 refine⟨?_,?_,?_,?_⟩
 all_goals
  rw[Lies.cell h]
  simp[stC]
theorem StAt.set {w:World} {g:Nat} {p:List Value} {t:TypeId} {left low high:Int} {wrong:Bool} (h:StAt w g p t left low high wrong):
  (∀x,StAt (w.setCell ⟨g,p.length,none⟩ (.int .u8 x)) g p t x low high wrong)∧(∀x,StAt (w.setCell ⟨g,p.length+1,none⟩ (.int .u8 x)) g p t left x high wrong)∧
  (∀x,StAt (w.setCell ⟨g,p.length+2,none⟩ (.int .u8 x)) g p t left low x wrong)∧(∀x,StAt (w.setCell ⟨g,p.length+3,none⟩ (.bool x)) g p t left low high x):=by
 refine⟨fun x=>?_,fun x=>?_,fun x=>?_,fun x=>?_⟩
 all_goals
  have:=Lies.set h
  unfold StAt
 ·have h1:=this p.length (.int .u8 x)
  rwa[List.setIfInBounds_toArray,List.set_append_right _ _ (Nat.le_refl _),Nat.sub_self]at h1
 ·have h1:=this (p.length+1) (.int .u8 x)
  rwa[List.setIfInBounds_toArray,List.set_append_right _ _ (by omega),Nat.add_sub_cancel_left]at h1
 ·have h1:=this (p.length+2) (.int .u8 x)
  rwa[List.setIfInBounds_toArray,List.set_append_right _ _ (by omega),Nat.add_sub_cancel_left]at h1
 ·have h1:=this (p.length+3) (.bool x)
  rwa[List.setIfInBounds_toArray,List.set_append_right _ _ (by omega),Nat.add_sub_cancel_left]at h1
set_option maxHeartbeats 1000000 in
set_option maxRecDepth 100000 in
theorem begin_low (g:Nat) (p:List Value) (b:Int) (hb:b<128) (w:World):
  Calls Tryz.prog 176 #[.pointer (some ⟨g,p.length,none⟩),.int .u8 b] w fun e w'=>e=.returned (.tuple #[])∧w'=w:=by
 go_enter Tryz.func176,Tryz.ntmps176
 go_wp2
 (try simp only[Exit.inBlock,Exit.then])
 refine bodyPost_ret (results_none rfl _ _ _) rfl ?_
 exact⟨rfl,rfl⟩
theorem But.alloc' {g:Nat} {w w':World} (h:But g w w') (o:Obj):But g w (w'.alloc o):=
 ⟨h.os,h.tape,h.output,by simp;exact Nat.le_succ_of_le h.size,fun k hk hne=>(Below.heap_alloc _ _ _ (Nat.lt_of_lt_of_le hk h.size)).trans (h.block k hk hne)⟩
theorem But.drewK {g:Nat} {w w':World} (h:But g w w'):But g w w'.drew:=⟨h.os,h.tape,h.output,h.size,h.block⟩
def fsAt (k i:Nat):Int:=(fsRows.getD k []).getD i 0
set_option maxRecDepth 100000 in
theorem fs_index (w:World) (k:Nat) (hk:k<8):(Instr.index 206 (.agg fsCells) (.int .i64 k)).run Tryz.prog w=.ok (.agg #[.int .u8 (fsAt k 0),.int .u8 (fsAt k 1),.int .u8 (fsAt k 2),.int .u8 (fsAt k 3),.int .u8 (fsAt k 4)]) w:=by
 match k,hk with
 |0,_=>rfl
 |1,_=>rfl
 |2,_=>rfl
 |3,_=>rfl
 |4,_=>rfl
 |5,_=>rfl
 |6,_=>rfl
 |7,_=>rfl
set_option maxHeartbeats 1000000 in
set_option maxRecDepth 100000 in
theorem begin_rows (g:Nat) (p:List Value) (t:TypeId) (left low high:Int) (wrong:Bool) (b:Int) (h0:¬b<128) (w:World) (hst:StAt w g p t left low high wrong) (hf:Fst w):
  Calls Tryz.prog 176 #[.pointer (some ⟨g,p.length,none⟩),.int .u8 b] w fun e w'=>e=.returned (.tuple #[])∧But g w w'∧
   ((∃k,k<8∧fsAt k 0≤b∧b≤fsAt k 1∧StAt w' g p t (fsAt k 2) (fsAt k 3) (fsAt k 4) wrong)∨((∀k,k<8→¬(fsAt k 0≤b∧b≤fsAt k 1))∧StAt w' g p t left low high true)):=by
 have HS:Hid (StAt w g p t left low high wrong):=hst
 have HI:Hid (∀(wx:World) (k:Nat),k<8→(Instr.index 206 (.agg fsCells) (.int .i64 k)).run Tryz.prog wx=.ok (.agg #[.int .u8 (fsAt k 0),.int .u8 (fsAt k 1),.int .u8 (fsAt k 2),.int .u8 (fsAt k 3),.int .u8 (fsAt k 4)]) wx):=fs_index
 obtain⟨tf,ff,hf'⟩:=hf
 clear hst
 go_enter Tryz.func176,Tryz.ntmps176
 go_wp2_with (refine wpList_load_rowF rfl 206 _ rfl _ rfl fsCells tf ff _ hf' Tryz.underlying206 rfl fs_size ?_)
 generalize fsCells=FC at HI hf' ⊢
 go_loopw [9] (fun i wr=>∃k:Nat,i=.int .i64 k∧k≤8∧Hid (∀j,j<k→¬(fsAt j 0≤b∧b≤fsAt j 1))∧Hid (Below w.heap.size w wr)) (fun i _=>8 - (intOf i).toNat)
 case atStart=>exact⟨0,rfl,by omega,fun j hj=>by omega,Below.refl _ _⟩
 case round=>
  obtain⟨k,rfl,hk,HJ,HB⟩:=hrel
  have HSr:Hid (StAt wr g p t left low high wrong):=HS.out.below HB.out HS.out.lt
  have hgr:g<wr.heap.size:=HSr.out.lt
  by_cases hlt:k<8
  ·have hi:=HI.out wr k hlt
   go_wp2_with fail
   ·obtain⟨c0,c1,c2,c3⟩:=HSr.out.cell
    have f0:=HSr.out.frozen p.length
    have f1:=HSr.out.frozen (p.length+1)
    have f2:=HSr.out.frozen (p.length+2)
    clear hi
    go_region
    go_wp2
    (try simp only[Exit.inBlock,Exit.then])
    refine bodyPost_ret (results_none rfl _ _ _) rfl ?_
    refine⟨rfl,?_,.inl ⟨k,hlt,by assumption,by assumption,?_⟩⟩
    ·exact((((But.of_below HB.out).set _ _).set _ _).set _ _).alloc' _ |>.drewK
    ·exact((((HSr.out.set.1 _).set.2.1 _).set.2.2.1 _)).alloc _
   ·have HN:Hid (∀j,j<k+1→¬(fsAt j 0≤b∧b≤fsAt j 1)):=fun j hj=>by
     by_cases e:j=k
     ·subst e;omega
     ·exact HJ.out j (by omega)
    go_roundw
    case rel=>exact⟨k+1,by go_num,by omega,HN,HB.out.alloc HB.out.size _⟩
    case measure=>simp[intOf];omega
   ·have HN:Hid (∀j,j<k+1→¬(fsAt j 0≤b∧b≤fsAt j 1)):=fun j hj=>by
     by_cases e:j=k
     ·subst e;omega
     ·exact HJ.out j (by omega)
    go_roundw
    case rel=>exact⟨k+1,by go_num,by omega,HN,HB.out.alloc HB.out.size _⟩
    case measure=>simp[intOf];omega
  ·obtain⟨c0,c1,c2,c3⟩:=HSr.out.cell
   have f3:=HSr.out.frozen (p.length+3)
   obtain rfl:k=8:=by omega
   go_wp2
   go_end0
   refine⟨rfl,(But.of_below HB.out).set _ _,.inr ⟨HJ.out,HSr.out.set.2.2.2 _⟩⟩
theorem fs_beg (b:Nat) (hb:¬b<128):(∀k,k<8→fsAt k 0≤(b:Int)→(b:Int)≤fsAt k 1→∃n lo hi:Nat,begQ b=some (n,lo,hi)∧n≠0∧fsAt k 2=n∧fsAt k 3=lo∧fsAt k 4=hi)∧((∀k,k<8→¬(fsAt k 0≤(b:Int)∧(b:Int)≤fsAt k 1))→begQ b=none):=by
 have e0:fsAt 0 0=194∧fsAt 0 1=223∧fsAt 0 2=1∧fsAt 0 3=128∧fsAt 0 4=191:=by decide
 have e1:fsAt 1 0=224∧fsAt 1 1=224∧fsAt 1 2=2∧fsAt 1 3=160∧fsAt 1 4=191:=by decide
 have e2:fsAt 2 0=225∧fsAt 2 1=236∧fsAt 2 2=2∧fsAt 2 3=128∧fsAt 2 4=191:=by decide
 have e3:fsAt 3 0=237∧fsAt 3 1=237∧fsAt 3 2=2∧fsAt 3 3=128∧fsAt 3 4=159:=by decide
 have e4:fsAt 4 0=238∧fsAt 4 1=239∧fsAt 4 2=2∧fsAt 4 3=128∧fsAt 4 4=191:=by decide
 have e5:fsAt 5 0=240∧fsAt 5 1=240∧fsAt 5 2=3∧fsAt 5 3=144∧fsAt 5 4=191:=by decide
 have e6:fsAt 6 0=241∧fsAt 6 1=243∧fsAt 6 2=3∧fsAt 6 3=128∧fsAt 6 4=191:=by decide
 have e7:fsAt 7 0=244∧fsAt 7 1=244∧fsAt 7 2=3∧fsAt 7 3=128∧fsAt 7 4=143:=by decide
 unfold begQ
 rw[if_neg hb]
 refine⟨fun k hk h0 h1=>?_,fun h=>?_⟩
 ·match k,hk with
  |0,_=>exact⟨1,128,191,by rw[if_pos (by omega)],by omega,by omega,by omega,by omega⟩
  |1,_=>exact⟨2,160,191,by rw[if_neg (by omega),if_pos (by omega)],by omega,by omega,by omega,by omega⟩
  |2,_=>exact⟨2,128,191,by rw[if_neg (by omega),if_neg (by omega),if_pos (by omega)],by omega,by omega,by omega,by omega⟩
  |3,_=>exact⟨2,128,159,by rw[if_neg (by omega),if_neg (by omega),if_neg (by omega),if_pos (by omega)],by omega,by omega,by omega,by omega⟩
  |4,_=>exact⟨2,128,191,by rw[if_neg (by omega),if_neg (by omega),if_neg (by omega),if_neg (by omega),if_pos (by omega)],by omega,by omega,by omega,by omega⟩
  |5,_=>exact⟨3,144,191,by rw[if_neg (by omega),if_neg (by omega),if_neg (by omega),if_neg (by omega),if_neg (by omega),if_pos (by omega)],by omega,by omega,by omega,by omega⟩
  |6,_=>exact⟨3,128,191,by rw[if_neg (by omega),if_neg (by omega),if_neg (by omega),if_neg (by omega),if_neg (by omega),if_neg (by omega),if_pos (by omega)],by omega,by omega,by omega,by omega⟩
  |7,_=>exact⟨3,128,143,by rw[if_neg (by omega),if_neg (by omega),if_neg (by omega),if_neg (by omega),if_neg (by omega),if_neg (by omega),if_neg (by omega),if_pos (by omega)],by omega,by omega,by omega,by omega⟩
 ·have h0:=h 0 (by omega)
  have h1:=h 1 (by omega)
  have h2:=h 2 (by omega)
  have h3:=h 3 (by omega)
  have h4:=h 4 (by omega)
  have h5:=h 5 (by omega)
  have h6:=h 6 (by omega)
  have h7:=h 7 (by omega)
  rw[if_neg (by omega),if_neg (by omega),if_neg (by omega),if_neg (by omega),if_neg (by omega),if_neg (by omega),if_neg (by omega),if_neg (by omega)]
def Sq (q:Q) (left low high:Int):Prop:=left=(q.1:Int)∧(q.1≠0→low=(q.2.1:Int)∧high=(q.2.2:Int))
def MSq (m:Option Q) (left low high:Int) (wrong:Bool):Prop:=match m with
 |none=>wrong=true
 |some q=>wrong=false∧Sq q left low high
def MSt (w:World) (g:Nat) (p:List Value) (t:TypeId) (m:Option Q):Prop:=
 ∃left low high wrong,StAt w g p t left low high wrong∧(0≤left∧left<256)∧MSq m left low high wrong
def stepM (m:Option Q) (b:Nat):Option Q:=m.bind fun q=>stepQ q b
set_option maxHeartbeats 1000000 in
set_option maxRecDepth 100000 in
theorem take_any (g:Nat) (p:List Value) (t:TypeId) (m:Option Q) (b:UInt8) (w:World) (hst:MSt w g p t m) (hf:Fst w):
  Calls Tryz.prog 143 #[.pointer (some ⟨g,p.length,none⟩),.int .u8 (b.toNat:Int)] w fun e w'=>e=.returned (.tuple #[])∧But g w w'∧MSt w' g p t (stepM m b.toNat):=by
 obtain⟨left,low,high,wrong,hs,⟨hl0,hl1⟩,hm⟩:=hst
 obtain⟨c0,c1,c2,c3⟩:=hs.cell
 have f0:=Lies.frozen hs p.length
 have f1:=Lies.frozen hs (p.length+1)
 have f2:=Lies.frozen hs (p.length+2)
 have f3:=Lies.frozen hs (p.length+3)
 have HS:Hid (StAt w g p t left low high wrong):=hs
 have HM:Hid (MSq m left low high wrong):=hm
 clear hs hm
 by_cases h0:left=0
 ·have q0:(left==0)=true:=by simp[h0]
  by_cases hb:(b.toNat:Int)<128
  ·have HC:=begin_low g p (b.toNat:Int) hb
   go_enter Tryz.func143,Tryz.ntmps143
   go_wp2_with (go_at_call 176;refine(HC _).mono ?_;rintro e w1 ⟨rfl,rfl⟩)
   go_end0
   refine⟨rfl,But.refl _ _,left,low,high,wrong,HS.out,⟨hl0,hl1⟩,?_⟩
   have:=HM.out
   cases m with
   |none=>exact this
   |some q=>
    obtain⟨h1,h2,h3⟩:=this
    have:q.1=0:=by omega
    simp only[stepM,Option.bind_some,stepQ,if_pos this,begQ_one (show b.toNat<128 by omega)]
    exact⟨h1,by simp[h0],fun h=>absurd rfl h⟩
  ·have HC:=begin_rows g p t left low high wrong (b.toNat:Int) hb
   go_enter Tryz.func143,Tryz.ntmps143
   go_wp2_with (go_at_call 176;refine(HC _ HS.out hf).mono ?_;rintro e w1 ⟨rfl,b1,r1⟩)
   go_end0
   refine⟨rfl,b1,?_⟩
   obtain⟨F1,F2⟩:=fs_beg b.toNat (by omega)
   rcases r1 with⟨k,k1,k2,k3,k4⟩|⟨k1,k2⟩
   ·obtain⟨n,lo,hi,e1,e2,e3,e4,e5⟩:=F1 k k1 k2 k3
    have hn:n<256:=by
     rcases begQ_cases b.toNat with h|h|h|h|h
     ·omega
     ·rw[h.2.2]at e1;cases e1;omega
     ·obtain⟨_,_,l,h',h,_⟩:=h;rw[h]at e1;cases e1;omega
     ·obtain⟨_,_,l,h',h,_⟩:=h;rw[h]at e1;cases e1;omega
     ·rw[h.2]at e1;cases e1
    refine⟨_,_,_,wrong,k4,by omega,?_⟩
    have:=HM.out
    cases m with
    |none=>exact this
    |some q=>
     obtain⟨h1,h2,h3⟩:=this
     have:q.1=0:=by omega
     simp only[stepM,Option.bind_some,stepQ,if_pos this,e1]
     exact⟨h1,e3,fun _=>⟨e4,e5⟩⟩
   ·refine⟨_,_,_,true,k2,⟨hl0,hl1⟩,?_⟩
    have:=HM.out
    cases m with
    |none=>rfl
    |some q=>
     obtain⟨h1,h2,h3⟩:=this
     have:q.1=0:=by omega
     simp only[stepM,Option.bind_some,stepQ,if_pos this,F2 k1]
     exact rfl
 ·have q0:(left==0)=false:=by simp[h0]
  by_cases hb:(b.toNat:Int)<low
  ·go_enter Tryz.func143,Tryz.ntmps143
   go_wp2
   go_end0
   refine⟨rfl,(But.refl _ _).set _ _,_,_,_,true,HS.out.set.2.2.2 _,⟨hl0,hl1⟩,?_⟩
   have:=HM.out
   cases m with
   |none=>rfl
   |some q=>
    obtain⟨n,lo,hi⟩:=q
    obtain⟨h1,h2,h3⟩:=this
    simp only at h2 h3
    have hq:n≠0:=by omega
    have:=h3 hq
    have e:stepQ (n,lo,hi) b.toNat=none:=stepQ_low hq (.inl (by omega))
    simp only[stepM,Option.bind_some,e]
    exact rfl
  by_cases hb2:high<(b.toNat:Int)
  ·go_enter Tryz.func143,Tryz.ntmps143
   go_wp2
   go_end0
   refine⟨rfl,(But.refl _ _).set _ _,_,_,_,true,HS.out.set.2.2.2 _,⟨hl0,hl1⟩,?_⟩
   have:=HM.out
   cases m with
   |none=>rfl
   |some q=>
    obtain⟨n,lo,hi⟩:=q
    obtain⟨h1,h2,h3⟩:=this
    simp only at h2 h3
    have hq:n≠0:=by omega
    have:=h3 hq
    have e:stepQ (n,lo,hi) b.toNat=none:=stepQ_low hq (.inr (by omega))
    simp only[stepM,Option.bind_some,e]
    exact rfl
  ·have hw:IntKind.u8.wrap (left - 1)=left - 1:=by
    rw[IntKind.wrap_u8]
    omega
   go_enter Tryz.func143,Tryz.ntmps143
   go_wp2
   go_end0
   refine⟨rfl,(((But.refl _ _).set _ _).set _ _).set _ _,left - 1,128,191,wrong,((HS.out.set.1 _).set.2.1 _).set.2.2.1 _,by omega,?_⟩
   have:=HM.out
   cases m with
   |none=>exact this
   |some q=>
    obtain⟨n,lo,hi⟩:=q
    obtain⟨h1,h2,h3⟩:=this
    simp only at h2 h3
    have hq:n≠0:=by omega
    have:=h3 hq
    by_cases h4:n=1
    ·subst h4
     simp only[stepM,Option.bind_some]
     rw[stepQ_last (by omega) (by omega)]
     exact⟨h1,by show left - 1=0;omega,fun h=>absurd rfl h⟩
    ·simp only[stepM,Option.bind_some]
     rw[stepQ_more (by omega) (by omega) (by omega)]
     exact⟨h1,by show left - 1=((n - 1:Nat):Int);omega,fun _=>⟨rfl,rfl⟩⟩
end Go.Proofs.YtfjpkfhbmldmfaaGreatDoor
