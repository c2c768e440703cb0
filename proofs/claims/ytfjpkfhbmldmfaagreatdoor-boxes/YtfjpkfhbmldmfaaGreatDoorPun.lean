/-
  The program's Puny.
-/
import Derived.Test.YtfjpkfhbmldmfaaGreatDoorWst
import Derived.Test.YtfjpkfhbmldmfaaGreatDoorMk
import Derived.Test.YtfjpkfhbmldmfaaGreatDoorLate5
namespace Go.Proofs.YtfjpkfhbmldmfaaGreatDoor
open Go.RowKit
theorem Wrote.own {B b B' e m n:Nat} {w w':World} {v:Value} {xs:List Value} (h:Wrote B b w w') (ho:w.ownsRow B' e m v n xs) (he:e≠5) (hne:∀k,v.ownBlock=some k→k≠b):w'.ownsRow B' e m v n xs:=by
 obtain⟨h1,h2|⟨g,cap,cur,rfl,hB,hg,hr⟩⟩:=ho
 ·exact⟨h1,.inl h2⟩
 ·exact⟨h1,.inr ⟨g,cap,cur,rfl,hB,h.lies hg (hne g rfl) he,hr⟩⟩
end Go.Proofs.YtfjpkfhbmldmfaaGreatDoor
