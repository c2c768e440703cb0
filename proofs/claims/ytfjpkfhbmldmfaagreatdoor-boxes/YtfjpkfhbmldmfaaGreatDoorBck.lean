/-
  The document's Within and PrintV6 in plain words; no Go in sight.
-/
import Derived.Test.YtfjpkfhbmldmfaaGreatDoorUtfE
import Derived.Test.YtfjpkfhbmldmfaaGreatDoorRc8
import Derived.Test.YtfjpkfhbmldmfaaGreatDoorWst
import Derived.Test.YtfjpkfhbmldmfaaGreatDoorChk
import Derived.Test.YtfjpkfhbmldmfaaGreatDoorLate5
import Derived.Test.YtfjpkfhbmldmfaaGreatDoorREnc
import Derived.Lib.SlBytesConst
import Derived.RangeFuncNested
import Derived.RangeFuncBound
import Derived.RangeFuncCalls
import Derived.RangeFuncLeaves
import Derived.Shelf.Abstract
import Derived.Shelf.RegionOpen
import Derived.WalkKit
import Derived.OwnWalkIn
import Derived.TacticsInMore
import Derived.LoopNIn
import Derived.LoopIn
import Derived.Test.YtfjpkfhbmldmfaaGreatDoorNum
import Derived.Test.YtfjpkfhbmldmfaaGreatDoorMk
namespace Go.Proofs.YtfjpkfhbmldmfaaGreatDoor
open Go.RowKit
def Rw2 (l:List Int) (a b:Nat):Prop:=rn l a<rn l b∨(rn l a=rn l b∧a<b)
theorem sorted_eq {R:Nat→Nat→Prop} (hirr:∀a,¬R a a) (hasym:∀a b,R a b→R b a→False):∀(a b:List Nat),a.Pairwise R→b.Pairwise R→(∀x,x∈a↔x∈b)→a=b
 |[],[],_,_,_=>rfl
 |[],y::b,_,_,h=>by have:=(h y).2 (by simp);cases this
 |x::a,[],_,_,h=>by have:=(h x).1 (by simp);cases this
 |x::a,y::b,ha,hb,h=>by
  rw[List.pairwise_cons]at ha hb
  have e:x=y:=by
   have h1:=(h x).1 (by simp)
   have h2:=(h y).2 (by simp)
   rw[List.mem_cons]at h1 h2
   rcases h1 with h1|h1
   ·exact h1
   ·rcases h2 with h2|h2
    ·exact h2.symm
    ·exact absurd (hb.1 x h1) (fun h'=>hasym _ _ h' (ha.1 y h2))
  subst e
  congr 1
  refine sorted_eq hirr hasym a b ha.2 hb.2 (fun z=>?_)
  have hz:=h z
  rw[List.mem_cons,List.mem_cons]at hz
  constructor
  ·intro hm
   rcases hz.1 (.inr hm) with e|e
   ·subst e;exact absurd (ha.1 z hm) (hirr z)
   ·exact e
  ·intro hm
   rcases hz.2 (.inr hm) with e|e
   ·subst e;exact absurd (hb.1 z hm) (hirr z)
   ·exact e
structure OrdOk (l:List Int) (k:Nat) (S:List Nat):Prop where
 sorted:S.Pairwise (Rw2 l)
 mem:∀x,x∈S↔x∈wideK l k
theorem OrdOk.done {l:List Int} {S:List Nat} (h:OrdOk l l.length S):S=ordW l:=by
 refine sorted_eq (R:=Rw2 l) (fun a h=>?_) (fun a b h1 h2=>?_) S (ordW l) h.sorted (pairwise_ord l) (fun x=>?_)
 ·unfold Rw2 at h;omega
 ·unfold Rw2 at h1 h2;omega
 ·rw[h.mem x]
  unfold ordW
  rw[List.mem_mergeSort]
theorem OrdOk.small {l:List Int} {k:Nat} {S:List Nat} (h:OrdOk l k S) (hr:¬128≤rn l k):OrdOk l (k+1) S:=
 ⟨h.sorted,fun x=>by rw[wideK_succ,if_neg hr,List.append_nil];exact h.mem x⟩
theorem OrdOk.lt {l:List Int} {k:Nat} {S:List Nat} (h:OrdOk l k S) {x:Nat} (hx:x∈S):x<k∧128≤rn l x:=wideK_lt ((h.mem x).1 hx)
theorem OrdOk.put {l:List Int} {k at':Nat} {S:List Nat} (h:OrdOk l k S) (hr:128≤rn l k) (ha:at'≤S.length) (hhi:∀j (hj:j<S.length),at'≤j→rn l k<rn l S[j]) (hlo:at'=0∨∃hj:at' - 1<S.length,rn l S[at' - 1]≤rn l k):
  OrdOk l (k+1) (S.take at'++[k]++S.drop at'):=by
 have hlow:∀x∈S.take at',rn l x≤rn l k:=by
  intro x hx
  obtain⟨j,hj,rfl⟩:=List.getElem_of_mem hx
  rw[List.length_take]at hj
  rw[List.getElem_take]
  rcases hlo with h0|⟨hj',hle⟩
  ·omega
  ·rcases Nat.lt_or_ge j (at' - 1) with h1|h1
   ·have:=List.pairwise_iff_getElem.1 h.sorted j (at' - 1) (by omega) hj' h1
    unfold Rw2 at this
    omega
   ·have e:j=at' - 1:=by omega
    subst e
    exact hle
 have hhigh:∀x∈S.drop at',rn l k<rn l x:=by
  intro x hx
  obtain⟨j,hj,rfl⟩:=List.getElem_of_mem hx
  rw[List.length_drop]at hj
  rw[List.getElem_drop]
  exact hhi _ _ (by omega)
 have hS:=h.sorted
 rw[←List.take_append_drop at' S,List.pairwise_append]at hS
 refine⟨?_,fun x=>?_⟩
 ·rw[List.append_assoc,List.pairwise_append]
  refine⟨hS.1,?_,?_⟩
  ·rw[List.singleton_append,List.pairwise_cons]
   exact⟨fun x hx=>.inl (hhigh x hx),hS.2.1⟩
  ·intro x hx y hy
   rw[List.singleton_append,List.mem_cons]at hy
   rcases hy with rfl|hy
   ·have:=hlow x hx
    have:=(h.lt (List.mem_of_mem_take hx)).1
    unfold Rw2
    omega
   ·exact hS.2.2 x hx y hy
 ·rw[wideK_succ,if_pos hr,List.mem_append,List.mem_append,List.mem_append,←h.mem x]
  conv=>rhs;rw[←List.take_append_drop at' S,List.mem_append]
  constructor
  ·rintro ((h|h)|h)
   ·exact .inl (.inl h)
   ·exact .inr h
   ·exact .inl (.inr h)
  ·rintro ((h|h)|h)
   ·exact .inl (.inl h)
   ·exact .inr h
   ·exact .inl (.inr h)
def insAll (base:List Int) (ps:List (Int×Nat)):List Int:=ps.foldl (fun L x=>L.insertIdx x.2 x.1) base
def PsOk (h:Nat):List (Int×Nat)→Prop
 |[]=>True
 |x::t=>x.2≤h∧128≤x.1∧x.1≤1114111∧PsOk (h+1) t
open Go.RowKit
open Go.RowKit
open Go.RowKit
open Go.RowKit
open Go.RowKit
attribute [local go_sem] Oper.semAt_some
end Go.Proofs.YtfjpkfhbmldmfaaGreatDoor
