/-
  A reader that was fed any bytes.
-/
import Derived.Test.YtbfgefgadplcjaaDoorSa12
namespace Go.Proofs.YtbfgefgadplcjaaDoor
open Go.RowKit

set_option maxRecDepth 100000 in
set_option maxHeartbeats 1000000 in
theorem fed_nil (a : Option Addr) (cap : Nat) (v : Value) (w : World) : Calls Tryd.prog 22 #[.slice a 0 cap, v] w fun e w' => ∃ b, e = .returned (.tuple #[.pointer (some ⟨b, 0, none⟩), .int .i64 0]) ∧ Rd w' (fun k => w.heap.size ≤ k ∧ k < w'.heap.size) b Sr.nil ∧ Below w.heap.size w w' := by
  go_enter Tryd.func22, Tryd.ntmps22
  go_wp2_with fail
  refine (rnew_any w).mono ?_
  rintro e w1 ⟨b, rfl, hR1, hB1⟩
  have HR1 : Hid (Rd w1 (fun k => w.heap.size ≤ k ∧ k < w1.heap.size) b Sr.nil) := hR1.mono (fun k h1 h2 => ⟨h1, h2⟩)
  have HB1 : Hid (Below w.heap.size w w1) := hB1
  clear hR1 hB1
  go_wp2_with fail
  go_loopw [0, 7, 8, 9] (fun s0 ev iv _ wr => s0 = .slice a 0 cap ∧ ev = .int .i64 0 ∧ iv = .int .i64 0 ∧ wr = w1) (fun _ _ _ _ _ => 0)
  case atStart => exact ⟨rfl, rfl, rfl, rfl⟩
  case round =>
    obtain ⟨rfl, rfl, rfl, rfl⟩ := hrel
    go_wp2_with fail
    go_ret2
    exact ⟨b, rfl, HR1.out, HB1.out⟩
theorem fed_all (a : Option Addr) (l : List UInt8) (cap : Nat) (ca : Option Addr) (cs : List UInt8) (ccap : Nat) (w : World) (ht : Tb w) (hl : l.length ≤ 1099511627776) (hb : Bts a l w) (hcap : l.length ≤ cap) (hcap2 : cap ≤ 9223372036854775807) (hcl : cs.length ≤ 9223372036854775807) (hcb : Bts ca cs w) (ho : (Sr.nil.run l).o.length ≤ 1048576) :
    Calls Tryd.prog 22 #[.slice a l.length cap, .slice ca cs.length ccap] w fun e w' => ∃ b, e = .returned (.tuple #[.pointer (some ⟨b, 0, none⟩), .int .i64 (errS (Sr.nil.run l).b)]) ∧ Rd w' (fun k => w.heap.size ≤ k ∧ k < w'.heap.size) b (Sr.nil.run l) ∧ Below w.heap.size w w' := by
  rcases hb with rfl | ⟨g, o, rfl, hg, hrow⟩
  · exact fed_nil a cap _ w
  · by_cases h0 : l = []
    · subst h0; exact fed_nil _ cap _ w
    · exact fed_any g o l cap ca cs ccap w ht (List.length_pos_iff.2 h0) hl (.inr ⟨g, o, rfl, hg, hrow⟩) hcap hcap2 hcl hcb ho
/-- The lines of what is read are few. -/
theorem rep_lines (t : List UInt8) : (repOf t).ls.length ≤ t.length + 1 := by
  have h := (rowsT_short t).2
  unfold repOf textsT
  split <;> simp <;> omega
theorem on_lines (s : Sr) (c : UInt8) (ok : s.Ok) (h : ∀ r ∈ s.o, r.ls.length ≤ 32770) : ∀ r ∈ (s.on c).o, r.ls.length ≤ 32770 := by
  unfold Sr.on
  split
  · exact h
  · split
    · exact h
    · split
      · intro r hr
        rcases List.mem_append.1 hr with hr | hr
        · exact h r hr
        · rw [List.mem_singleton.1 hr]
          have h1 := rep_lines (s.h ++ [c])
          have h2 := ok.short
          rw [List.length_append, List.length_singleton] at h1
          omega
      · exact h
theorem run_lines : ∀ (l : List UInt8) (s : Sr), s.Ok → (∀ r ∈ s.o, r.ls.length ≤ 32770) → ∀ r ∈ (s.run l).o, r.ls.length ≤ 32770
  | [], _, _, h => h
  | c :: r, s, ok, h => run_lines r (s.on c) (s.on_ok c ok) (on_lines s c ok h)
end Go.Proofs.YtbfgefgadplcjaaDoor
