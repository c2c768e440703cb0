/-
  Parameters in memory.
-/
import Derived.Test.YtjpmfgmoekpcpabGreatDoorIs4
import Derived.Test.YtjpmfgmoekpcpabGreatDoorPmP
namespace Go.Proofs.YtjpmfgmoekpcpabGreatDoor
open Go.RowKit

theorem infoPm : (Tryz.prog.info? 54).map (·.size) = some 3 := by kernel_rfl
/-- A parameter's cells. -/
def pmC (p : Pm) : Array Value := #[.string (tx p.name), .string (tx p.val), .bool p.has]
theorem res_cvc {P : Program} {fn : Func} {p q r : Tmp} {ty tz : TypeId} (h : fn.results = #[.cell p ty, .tmp q, .cell r tz]) (tmps : Array Value) (w : World) (g1 g2 : Nat) (cs ds : Array Value) (d1 d2 : TypeDesc) (v : Value) (hp : tmps.getD p undef = .pointer (some ⟨g1, 0, none⟩)) (hq : tmps.getD q undef = v) (hr : tmps.getD r undef = .pointer (some ⟨g2, 0, none⟩)) (hg1 : Lies w g1 cs ty) (hg2 : Lies w g2 ds tz)
    (hu1 : P.underlying ty = some d1) (ha1 : (match d1 with | .struct _ | .array _ _ => true | _ => false) = true) (hz1 : (P.info? ty).map (·.size) = some cs.size)
    (hu2 : P.underlying tz = some d2) (ha2 : (match d2 with | .struct _ | .array _ _ => true | _ => false) = true) (hz2 : (P.info? tz).map (·.size) = some ds.size) : (results fn tmps).run P w = .ok (.tuple #[.agg cs, v, .agg ds]) w := by
  have hp' : tmps[p]?.getD undef = .pointer (some ⟨g1, 0, none⟩) := by simpa using hp
  have hq' : tmps[q]?.getD undef = v := by simpa using hq
  have hr' : tmps[r]?.getD undef = .pointer (some ⟨g2, 0, none⟩) := by simpa using hr
  simp [results, h, hp', hq', hr', asAddr, run_loadVar_row w g1 ty ty cs (0, 0) d1 hg1 hu1 ha1 hz1, run_loadVar_row w g2 tz tz ds (0, 0) d2 hg2 hu2 ha2 hz2]
end Go.Proofs.YtjpmfgmoekpcpabGreatDoor
