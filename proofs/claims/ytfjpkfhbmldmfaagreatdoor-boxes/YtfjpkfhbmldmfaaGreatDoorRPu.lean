/-
  The document's Puny.
-/
import Derived.Test.YtfjpkfhbmldmfaaGreatDoorRLet
import Derived.Test.YtfjpkfhbmldmfaaGreatDoorREnc
import Derived.Test.YtfjpkfhbmldmfaaGreatDoorPun
namespace Go.Proofs.YtfjpkfhbmldmfaaGreatDoor
open Go.RowKit
def boolsF (f:Nat→Int) (N:Nat):Array Value:=((List.range N).map fun j=>Value.bool (decide (f j=1))).toArray
def BlAt (w:World) (g N:Nat) (f:Nat→Int):Prop:=Lies w g (boolsF f N) 4
theorem BlAt.cell {w:World} {g N:Nat} {f:Nat→Int} (h:BlAt w g N f) (k:Nat) (hk:k<N):w.cell? ⟨g,k,none⟩=some (.bool (decide (f k=1))):=by
 rw[Lies.cell h k]
 simp[boolsF,hk]
theorem boolsF_put (f:Nat→Int) (N k:Nat) (hk:k<N) (h0:f k=0):(boolsF f N).setIfInBounds k (.bool true)=boolsF (put1 f k 1) N:=by
 apply Array.ext_getElem?
 intro i
 rw[Array.getElem?_setIfInBounds]
 by_cases e:k=i
 ·subst e
  rw[if_pos rfl,if_pos (by simp[boolsF];exact hk)]
  simp[boolsF,hk,put1,h0]
 ·rw[if_neg e]
  by_cases hi:i<N
  ·simp[boolsF,put1,hi,show ¬i=k from fun h=>e h.symm]
  ·simp[boolsF,hi]
theorem BlAt.put {w:World} {g N:Nat} {f:Nat→Int} (h:BlAt w g N f) (k:Nat) (hk:k<N) (h0:f k=0):BlAt (w.setCell ⟨g,k,none⟩ (.bool true)) g N (put1 f k 1):=by
 have:=Lies.set h k (.bool true)
 rw[boolsF_put f N k hk h0]at this
 exact this
end Go.Proofs.YtfjpkfhbmldmfaaGreatDoor
