/-
  What the texts of lines and of bodies have in common.
-/
import Derived.Test.YthnjbnhmdjpfpaaWld
import Derived.Test.YthnjbnhmdjpfpaaBase
import Derived.Test.YthnjbnhmdjpfpaaGrown
import Derived.Test.YthnjbnhmdjpfpaaOwn2
import Derived.Test.YthnjbnhmdjpfpaaLate5
import Derived.Deep.AppendLies
namespace Go.Proofs.Ythnjbnhmdjpfpaa
open Go.RowKit

theorem But.chg {g : Nat} {F : Nat → Prop} {w w' : World} (h : But g w w') (hg : F g) : Chg F w w' := ⟨h.os, h.tape, h.output, h.size, fun k hk hn => h.block k hk (fun e => by subst e; exact hn hg)⟩
def zit : Array Value := #[.int .i64 0, .string ⟨#[]⟩, .slice none 0 0, .int .i64 0, .bool false]
theorem infoIT : (Try.prog.info? 50).map (·.size) = some 5 := by kernel_rfl
theorem Bts.chg {a : Option Addr} {l : List UInt8} {F : Nat → Prop} {w w' : World} (h : Bts a l w) (hc : Chg F w w') (hn : ∀ ad, a = some ad → ¬ F ad.block) : Bts a l w' := by
  rcases h with e | ⟨g, o, rfl, hg, hrow⟩
  · exact .inl e
  · exact .inr ⟨g, o, rfl, Nat.lt_of_lt_of_le hg hc.size, fun j hj => (World.cell?_of_block (w := w) (a := ⟨g, o + j, none⟩) (hc.block g hg (hn _ rfl))).trans (hrow j hj)⟩
theorem res_vc {P : Program} {fn : Func} {p r : Tmp} {ty : TypeId} (h : fn.results = #[.tmp p, .cell r ty]) {R : Ending → World → Prop} {tmps : Array Value} {w : World} (g : Nat) (t : TypeId) (cs : Array Value) (d : TypeDesc) (v : Value)
    (hp : tmps.getD p undef = v) (hr : tmps.getD r undef = .pointer (some ⟨g, 0, none⟩)) (hg : Lies w g cs t) (hu : P.underlying ty = some d) (hd : (match d with | .struct _ | .array _ _ => true | _ => false) = true) (hi : (P.info? ty).map (·.size) = some cs.size)
    (hR : R (.returned (.tuple #[v, .agg cs])) w) : bodyPost P fn R .ret { tmps := tmps, defers := [] } w := by
  refine bodyPost_ret ?_ rfl hR
  have hp' : tmps[p]?.getD undef = v := by simpa using hp
  have hr' : tmps[r]?.getD undef = .pointer (some ⟨g, 0, none⟩) := by simpa using hr
  simp [results, h, hp', hr', asAddr, run_loadVar_row w g t ty cs (0, 0) d hg hu hd hi]
theorem it_cells {w : World} {g : Nat} {i y : Int} {tx : ByteArray} {v : Value} {hh : Bool} (h : Lies w g #[.int .i64 i, .string tx, v, .int .i64 y, .bool hh] 50) : (w.cell? ⟨g, 0, none⟩ = some (.int .i64 i) ∧ w.cell? ⟨g, 1, none⟩ = some (.string tx) ∧ w.cell? ⟨g, 2, none⟩ = some v ∧ w.cell? ⟨g, 3, none⟩ = some (.int .i64 y) ∧ w.cell? ⟨g, 4, none⟩ = some (.bool hh)) ∧ (w.frozen? ⟨g, 0, none⟩ = false ∧ w.frozen? ⟨g, 1, none⟩ = false ∧ w.frozen? ⟨g, 2, none⟩ = false ∧ w.frozen? ⟨g, 3, none⟩ = false ∧ w.frozen? ⟨g, 4, none⟩ = false) := ⟨⟨h.cell 0, h.cell 1, h.cell 2, h.cell 3, h.cell 4⟩, h.frozen 0, h.frozen 1, h.frozen 2, h.frozen 3, h.frozen 4⟩
end Go.Proofs.Ythnjbnhmdjpfpaa
