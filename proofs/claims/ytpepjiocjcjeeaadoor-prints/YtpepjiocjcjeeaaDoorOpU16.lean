/-
  Fields that came in, in the second form: how many bytes they hold at all.
-/
import Derived.Test.YtpepjiocjcjeeaaDoorOpF16
import Derived.Test.YtpepjiocjcjeeaaDoorCardX10
namespace Go.Proofs.YtpepjiocjcjeeaaDoor
open Go.ChangeShapes Go.WideShapes Go.ChangeAt Go.RowKit

theorem bulk_posF {H : Type} (d : DataW H) : 0 < Rows.uptoBulk d := by
  cases d <;> first | (rename_i l; cases l <;> simp [Rows.uptoBulk]) | simp [Rows.uptoBulk]
theorem bulk_lenF {H : Type} : ∀ l : List (DataW H), l.length ≤ Rows.uptoBulkAll l
  | [] => Nat.zero_le _
  | d :: r => by
    have h1 := bulk_posF d
    have h2 := bulk_lenF r
    simp only [Rows.uptoBulkAll, List.length_cons]
    omega
/-- How many bytes fields hold. -/
def totF (l : List Fd) : Nat := (l.map fun p => p.name.length + p.body.length).sum
theorem totF_cons (p : Fd) (r : List Fd) : totF (p :: r) = p.name.length + p.body.length + totF r := by simp [totF]
theorem totF_mem : ∀ (l : List Fd) (p : Fd), p ∈ l → p.name.length + p.body.length ≤ totF l
  | q :: r, p, h => by
    rw [totF_cons]
    rcases List.mem_cons.1 h with rfl | h
    · omega
    · have := totF_mem r p h
      omega
theorem bulk_totF {H : Type} : ∀ l : List Fd, totF l ≤ Rows.uptoBulkAll (l.map (dtF (H := H)))
  | [] => Nat.zero_le _
  | p :: r => by
    have h2 := bulk_totF (H := H) r
    rw [totF_cons, List.map_cons]
    simp only [Rows.uptoBulkAll, dtF, Rows.uptoBulk]
    omega
theorem fds_bulk {H : Type} {d : DataW H} {st : List Fd} (e : (st = [] ∧ d = .nil) ∨ ∃ sp, d = .slice (st.map dtF) sp) : st.length ≤ Rows.uptoBulk d ∧ totF st ≤ Rows.uptoBulk d := by
  rcases e with ⟨rfl, rfl⟩ | ⟨sp, rfl⟩
  · exact ⟨Nat.zero_le _, Nat.zero_le _⟩
  · have h1 := bulk_lenF (st.map (dtF (H := H)))
    have h2 := bulk_totF (H := H) st
    rw [List.length_map] at h1
    simp only [Rows.uptoBulk]
    constructor <;> omega
end Go.Proofs.YtpepjiocjcjeeaaDoor
