/-
  The shape of a row of one's own.
-/
import Derived.Test.YtfjpkfhbmldmfaaGreatDoorChk
import Derived.Shelf.Strings.Builder1
import Derived.Test.YtfjpkfhbmldmfaaGreatDoorProg
import Derived.Test.YtfjpkfhbmldmfaaGreatDoorNum
import Derived.Lib.OthersKept
import Derived.Test.YtfjpkfhbmldmfaaGreatDoorUtfE
import Derived.Test.YtfjpkfhbmldmfaaGreatDoorLate5
import Derived.Lib.RuneCount
import Derived.WalkKit
namespace Go.Proofs.YtfjpkfhbmldmfaaGreatDoor
open Go.RowKit
end Go.Proofs.YtfjpkfhbmldmfaaGreatDoor
namespace Go.Proofs
open Go.Shelf
end Go.Proofs
namespace Go.Proofs.YtfjpkfhbmldmfaaGreatDoor
open Go.RowKit
structure Wrote (B b:Nat) (w w':World):Prop where
 below:Below B w w'
 kept:Lib.OthersKept 5 (some b) w w'
theorem Wrote.refl (B b:Nat) (w:World):Wrote B b w w:=⟨Below.refl _ _,Lib.OthersKept.refl _ _ _⟩
theorem Wrote.trans {B b:Nat} {x y z:World} (h:Wrote B b x y) (k:Wrote B b y z):Wrote B b x z:=⟨h.below.trans k.below,h.kept.trans k.kept⟩
theorem Wrote.lies {B b g t:Nat} {w w':World} {cs:Array Value} (h:Wrote B b w w') (hl:Lies w g cs t) (hg:g≠b) (ht:t≠5):Lies w' g cs t:=
 h.kept g _ hl (by intro e;injection e with e;exact hg e) (fun c fz e=>by injection e with _ e2;exact ht e2)
def Bl (B b:Nat) (l:List UInt8) (w:World):Prop:=Lib.IsBuilder 145 5 B b (cellsB l) w
theorem Bl.lt {B b:Nat} {l:List UInt8} {w:World} (h:Bl B b l w):b<w.heap.size:=by rcases h with h|h<;>exact Lib.BuilderAt.lt h
theorem Bl.le {B b:Nat} {l:List UInt8} {w:World} (h:Bl B b l w):B≤b:=by rcases h with h|h<;>exact h.1
theorem Bl.keep {B b:Nat} {l:List UInt8} {w w':World} (h:Bl B b l w) (hk:∀k:Nat,(∃(c:Array Value) (t:TypeId) (fz:Nat×Nat),w.heap[k]?=some (Obj.cells c t fz)∧(t=5∨t=145))→w'.heap[k]?=w.heap[k]?):Bl B b l w':=by
 have go:∀p,Lib.BuilderAt 145 5 B b p (cellsB l) w→Lib.BuilderAt 145 5 B b p (cellsB l) w':=by
  rintro p ⟨h1,v,hb,hown,hne⟩
  refine⟨h1,v,(hk b ⟨_,_,_,hb,.inr rfl⟩).trans hb,?_,hne⟩
  obtain⟨h2,h3|⟨g,cap,cur,hv,hB,hg,hr⟩⟩:=hown
  ·exact⟨h2,.inl h3⟩
  ·exact⟨h2,.inr ⟨g,cap,cur,hv,hB,(hk g ⟨_,_,_,hg,.inl rfl⟩).trans hg,hr⟩⟩
 rcases h with h|h
 ·exact .inl (go _ h)
 ·exact .inr (go _ h)
theorem Bl.below {B b:Nat} {l:List UInt8} {w w':World} (h:Bl B b l w) (hb:Below w.heap.size w w'):Bl B b l w':=
 h.keep (fun k ⟨_,_,_,hk,_⟩=>hb.block k (Array.getElem?_eq_some_iff.1 hk).1)
theorem Bl.but {B b g:Nat} {l:List UInt8} {w w':World} {cs:Array Value} {t:TypeId} (h:Bl B b l w) (hb:But g w w') (hg:Lies w g cs t) (ht:t≠5) (ht2:t≠145):Bl B b l w':=
 h.keep (fun k ⟨c,u,fz,hk,hu⟩=>hb.block k (Array.getElem?_eq_some_iff.1 hk).1 (fun e=>by
  subst e
  have:=hk.symm.trans hg
  injection this with e
  injection e with _ e2
  rcases hu with rfl|rfl
  ·exact ht e2.symm
  ·exact ht2 e2.symm))
open Go.RowKit
open Go.RowKit
def lowb (k:Nat):Nat:=if k=0 then 0 else if k % 2=1 then 1 else 2*lowb (k / 2)
termination_by k
decreasing_by omega
theorem lowb_zero:lowb 0=0:=by rw[lowb];simp
theorem lowb_odd {k:Nat} (h:k % 2=1):lowb k=1:=by rw[lowb,if_neg (by omega),if_pos h]
theorem lowb_even {k:Nat} (h:k % 2=0):lowb k=2*lowb (k / 2):=by
 by_cases h0:k=0
 ·subst h0;simp[lowb_zero]
 ·rw[lowb,if_neg h0,if_neg (by omega)]
theorem lowb_le (k:Nat):lowb k≤k:=by
 induction k using Nat.strongRecOn with
 |_ k ih=>
  by_cases h0:k=0
  ·subst h0;rw[lowb_zero];omega
  by_cases h1:k % 2=1
  ·rw[lowb_odd h1];omega
  ·rw[lowb_even (by omega)]
   have:=ih (k / 2) (by omega)
   omega
def pre (f:Nat→Int):Nat→Int
 |0=>0
 |n+1=>pre f n+f n
def put1 (f:Nat→Int) (at':Nat) (by':Int):Nat→Int:=fun j=>if j=at' then f j+by' else f j
theorem pre_put (f:Nat→Int) (at':Nat) (by':Int) (n:Nat):pre (put1 f at' by') n=pre f n+(if at'<n then by' else 0):=by
 induction n with
 |zero=>simp[pre]
 |succ n ih=>
  simp only[pre,ih,put1]
  by_cases h:n=at'
  ·subst h
   simp;omega
  ·rw[if_neg h]
   by_cases h2:at'<n
   ·rw[if_pos h2,if_pos (by omega)];omega
   ·rw[if_neg h2,if_neg (by omega)];omega
def ent (f:Nat→Int) (k:Nat):Int:=pre f k - pre f (k - lowb k)
theorem pre_mono (f:Nat→Int) (h:∀j,0≤f j) {a b:Nat} (hab:a≤b):pre f a≤pre f b:=by
 induction b with
 |zero=>rw[show a=0 from by omega];exact Int.le_refl _
 |succ b ih=>
  by_cases e:a=b+1
  ·rw[e];exact Int.le_refl _
  ·have:=ih (by omega)
   have:=h b
   simp only[pre];omega
theorem pre_le (f:Nat→Int) (h:∀j,f j≤1) (n:Nat):pre f n≤n:=by
 induction n with
 |zero=>simp[pre]
 |succ n ih=>have:=h n;simp only[pre];omega
theorem pre_ext (f g:Nat→Int) (n:Nat) (h:∀j,j<n→f j=g j):pre f n=pre g n:=by
 induction n with
 |zero=>rfl
 |succ n ih=>simp only[pre];rw[ih (fun j hj=>h j (by omega)),h n (by omega)]
def fill:List (Option Int)→List Int→List Int
 |[],_=>[]
 |some r::t,l=>r::fill t l
 |none::t,x::l=>x::fill t l
 |none::t,[]=>0::fill t []
def free (s:List (Option Int)) (j:Nat):Int:=if s[j]?=some none then 1 else 0
theorem free_cons (o:Option Int) (s:List (Option Int)) (n:Nat):pre (free (o::s)) (n+1)=(if o=none then 1 else 0)+pre (free s) n:=by
 induction n with
 |zero=>simp[pre,free]
 |succ n ih=>
  rw[pre,ih,pre]
  have:free (o::s) (n+1)=free s n:=by simp[free]
  omega
theorem fill_insert (s:List (Option Int)):∀(l:List Int) (p at':Nat) (r:Int),p≤l.length→s[at']?=some none→pre (free s) at'=p→fill s (l.insertIdx p r)=fill (s.set at' (some r)) l:=by
 induction s with
 |nil=>intro l p at' r _ h _;simp at h
 |cons o s ih=>
  intro l p at' r hp h1 h2
  cases at' with
  |zero=>
   simp at h1
   subst h1
   simp only[pre]at h2
   have:p=0:=by omega
   subst this
   simp[fill,List.insertIdx_zero]
  |succ at'=>
   rw[free_cons]at h2
   simp at h1
   cases o with
   |none=>
    simp at h2
    obtain⟨p,rfl⟩:∃q,p=q+1:=⟨p - 1,by
     have:=pre_mono (free s) (fun j=>by unfold free;split<;>omega) (a:=0) (b:=at') (by omega)
     simp only[pre]at this
     omega⟩
    cases l with
    |nil=>simp at hp
    |cons x l=>
     simp only[List.insertIdx_succ_cons,List.set_cons_succ,fill]
     rw[ih l p at' r (by simpa using hp) h1 (by omega)]
   |some y=>
    simp at h2
    simp only[List.set_cons_succ]
    cases hl:l.insertIdx p r with
    |nil=>
     have:=congrArg List.length hl
     rw[List.length_insertIdx_of_le_length hp]at this
     simp at this
    |cons z zs=>
     simp only[fill]
     rw[←hl,ih l p at' r hp h1 (by omega)]
theorem free_set (s:List (Option Int)) (at':Nat) (r:Int) (h:s[at']?=some none):∀j,free (s.set at' (some r)) j=put1 (free s) at' (-1) j:=by
 intro j
 unfold free put1
 by_cases e:j=at'
 ·subst e
  have hlt:=(List.getElem?_eq_some_iff.1 h).1
  rw[if_pos rfl,List.getElem?_set_self hlt,if_neg (by simp)]
  show 0=(if s[j]?=some none then (1:Int) else 0)+ -1
  rw[h,if_pos rfl]
  omega
 ·rw[if_neg e,List.getElem?_set_ne (Ne.symm e)]
open Go.RowKit
def MkAt (w:World) (g N:Nat) (f:Nat→Int):Prop:=∃cs:List Int,cs.length=N+1∧Lies w g (cellsN .i32 cs).toArray 21∧∀k,1≤k→k≤N→cs[k]?=some (ent f k)
def F01 (f:Nat→Int):Prop:=(∀j,0≤f j)∧∀j,f j≤1
theorem MkAt.lt {w:World} {g N:Nat} {f:Nat→Int} (h:MkAt w g N f):g<w.heap.size:=by
 obtain⟨_,_,h,_⟩:=h
 exact h.lt
theorem MkAt.keep {w w':World} {g N:Nat} {f:Nat→Int} (h:MkAt w g N f) (e:w'.heap[g]?=w.heap[g]?):MkAt w' g N f:=by
 obtain⟨cs,h1,h2,h3⟩:=h
 exact⟨cs,h1,e.trans h2,h3⟩
theorem MkAt.below {w w':World} {g N B:Nat} {f:Nat→Int} (h:MkAt w g N f) (hb:Below B w w') (hg:g<B):MkAt w' g N f:=h.keep (hb.block g hg)
theorem MkAt.ext {w:World} {g N:Nat} {f f':Nat→Int} (h:MkAt w g N f) (e:∀j,j<N→f j=f' j):MkAt w g N f':=by
 obtain⟨cs,h1,h2,h3⟩:=h
 refine⟨cs,h1,h2,fun k hk1 hk2=>?_⟩
 rw[h3 k hk1 hk2]
 have:=lowb_le k
 simp only[ent]
 rw[pre_ext f f' k (fun j hj=>e j (by omega)),pre_ext f f' (k - lowb k) (fun j hj=>e j (by omega))]
theorem F01.put {f:Nat→Int} (h:F01 f) (at':Nat) (by':Int) (h0:0≤f at'+by') (h1:f at'+by'≤1):F01 (put1 f at' by'):=by
 refine⟨fun j=>?_,fun j=>?_⟩
 ·unfold put1
  split
  ·rename_i e;subst e;exact h0
  ·exact h.1 j
 ·unfold put1
  split
  ·rename_i e;subst e;exact h1
  ·exact h.2 j
end Go.Proofs.YtfjpkfhbmldmfaaGreatDoor
