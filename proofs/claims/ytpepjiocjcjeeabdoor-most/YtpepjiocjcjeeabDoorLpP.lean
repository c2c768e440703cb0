/-
  Both Parses as rows.
-/
import Derived.Test.YtpepjiocjcjeeabDoorQa16
import Derived.Test.YtpepjiocjcjeeabDoorFmP
namespace Go.Proofs.YtpepjiocjcjeeabDoor
open Go.RowKit

theorem tk_len {l : List UInt8} {ps qs : List Plc} {f t : Nat} (h : tkH l ps f t = .ok qs) (hp : ps.length ≤ 4096) : qs.length ≤ 4096 := by
  rcases tk_cases l ps f t with h1 | h1 | ⟨_, h1 | h1⟩
  · rw [h1] at h; cases h
  · rw [h1] at h; cases h
  · rcases fold_cases l ps f t with h2 | ⟨hne, h2⟩
    · rw [h1, h2] at h; cases h
    · rw [h1, h2] at h
      cases h
      rw [setLast_len]
      exact hp
  · rcases beg_cases l ps f t with ⟨p, h2⟩ | ⟨_, h4, h2⟩
    · rw [h1, h2] at h; cases h
    · rw [h1, h2] at h
      cases h
      rw [List.length_append]
      simp only [List.length_cons, List.length_nil]
      omega
theorem prs_few (l : List UInt8) : ∀ (rs : List (Nat × Nat)) (ps : List Plc) (qs : List Plc) (a : Nat), prsR l rs ps = .ok (qs, a) → ps.length ≤ 4096 → qs.length ≤ 4096
  | [], _, _, _, h, _ => by unfold prsR at h; cases h
  | (f, t) :: r, ps, qs, a, h, hp => by
    rw [prsR] at h
    by_cases h1 : f = l.length
    · rw [if_pos h1] at h; cases h; exact hp
    · rw [if_neg h1] at h
      by_cases h2 : leH (l.drop f) = true
      · rw [if_pos h2] at h; cases h; exact hp
      · rw [if_neg h2] at h
        cases h3 : tkH l ps f t with
        | error e => rw [h3] at h; cases h
        | ok ps' =>
          rw [h3] at h
          exact prs_few l r ps' qs a h (tk_len h3 hp)
theorem fsP_few (l : List UInt8) : (fsP l (prsF l)).length ≤ 4096 := by
  cases h : prsF l with
  | error e => exact Nat.zero_le _
  | ok r =>
    obtain ⟨ps, a⟩ := r
    show (ps.map (fdOf l)).length ≤ 4096
    rw [List.length_map]
    exact prs_few l _ _ _ _ h (Nat.zero_le _)
theorem fparse_row (ad : Option Addr) (l : List UInt8) (cap : Nat) (hlc : l.length ≤ cap) (hcm : cap ≤ 9223372036854775807) (hs : l.length ≤ 140737488351232) (w : World) (had : ∀ a, ad = some a → a.block < w.heap.size) (hr : Bts ad l w) (ht : Table w) :
    Calls Tryd.prog 8 #[.slice ad l.length cap] w fun e w' => ∃ b c, e = .returned (.tuple #[.slice b (fsP l (prsF l)).length c, .int .i64 (btP (prsF l) : Int), .agg #[.int .i64 ((spP (prsF l)).1 : Int), .int .i64 ((spP (prsF l)).2 : Int)]]) ∧ Below w.heap.size w w' ∧ w'.ownsRow w.heap.size 32 2 (.slice b (fsP l (prsF l)).length c) (fsP l (prsF l)).length (cellsF (fsP l (prsF l))) := by
  refine (fparse_any ad l cap hlc hcm hs w had hr ht).mono ?_
  rintro e w' ⟨v, rfl, ho, hb⟩
  obtain ⟨b, c, rfl⟩ : ∃ b c, v = .slice b (fsP l (prsF l)).length c := by
    rcases ho.2 with ⟨rfl, h0⟩ | ⟨g, cp, cur, rfl, _⟩
    · exact ⟨none, 0, by rw [h0]⟩
    · exact ⟨_, cp, rfl⟩
  exact ⟨b, c, rfl, hb, ho⟩
theorem fparse_rowG (ad : Option Addr) (l : List UInt8) (cap : Nat) (hlc : l.length ≤ cap) (hcm : cap ≤ 9223372036854775807) (hs : l.length ≤ 140737488351232) (w : World) (hr : Bts ad l w) (ht : Table w) :
    Calls Tryd.prog 8 #[.slice ad l.length cap] w fun e w' => ∃ b c, e = .returned (.tuple #[.slice b (fsP l (prsF l)).length c, .int .i64 (btP (prsF l) : Int), .agg #[.int .i64 ((spP (prsF l)).1 : Int), .int .i64 ((spP (prsF l)).2 : Int)]]) ∧ Below w.heap.size w w' ∧ w'.ownsRow w.heap.size 32 2 (.slice b (fsP l (prsF l)).length c) (fsP l (prsF l)).length (cellsF (fsP l (prsF l))) := by
  refine (fparse_gen ad l cap hlc hcm hs w hr ht).mono ?_
  rintro e w' ⟨v, rfl, ho, hb⟩
  obtain ⟨b, c, rfl⟩ : ∃ b c, v = .slice b (fsP l (prsF l)).length c := by
    rcases ho.2 with ⟨rfl, h0⟩ | ⟨g, cp, cur, rfl, _⟩
    · exact ⟨none, 0, by rw [h0]⟩
    · exact ⟨_, cp, rfl⟩
  exact ⟨b, c, rfl, hb, ho⟩
theorem uparse_row (ad : Option Addr) (l : List UInt8) (cap : Nat) (hs : l.length ≤ 140737488351232) (w : World) (hr : Bts ad l w) :
    Calls Tryd.prog 9 #[.slice ad l.length cap] w fun e w' => ∃ b c, e = .returned (.tuple #[.slice b (fsP l (prsF l)).length c, .int .i64 (btP (prsF l) : Int), .agg #[.int .i64 ((spP (prsF l)).1 : Int), .int .i64 ((spP (prsF l)).2 : Int)]]) ∧ Below w.heap.size w w' ∧ w'.ownsRow w.heap.size 32 2 (.slice b (fsP l (prsF l)).length c) (fsP l (prsF l)).length (cellsF (fsP l (prsF l))) := by
  refine (uparse_any ad l cap hs w hr).mono ?_
  rintro e w' ⟨v, rfl, ho, hb⟩
  obtain ⟨b, c, rfl⟩ : ∃ b c, v = .slice b (fsP l (prsF l)).length c := by
    rcases ho.2 with ⟨rfl, h0⟩ | ⟨g, cp, cur, rfl, _⟩
    · exact ⟨none, 0, by rw [h0]⟩
    · exact ⟨_, cp, rfl⟩
  exact ⟨b, c, rfl, hb, ho⟩
/-- "A:1\r\n\r\n". -/
def litP : List UInt8 := [65, 58, 49, 13, 10, 13, 10]
theorem lit_prs : prsF litP = .ok ([⟨0, 1, 3⟩], 7) := by
  have h0 : leH (litP.drop (rwE litP 0)) = true := by decide
  have h5 : leH (litP.drop (rwE litP 5)) = true := by decide
  have e0 : rwE litP 0 = 3 := by decide
  have e5 : rwE litP 5 = 5 := by decide
  unfold prsF
  rw [rws_on litP 0 h0, e0, rws_on litP 5 h5, e5]
  rw [prsR, if_neg (by decide), if_neg (by decide)]
  have ht : tkH litP [] 0 3 = .ok [⟨0, 1, 3⟩] := by
    unfold tkH
    rw [if_neg (by decide), if_neg (by decide), if_neg (by decide)]
    unfold begH
    dsimp only
    have hb : badN 11 (stE litP 0 3) = 1 := by decide
    rw [hb, if_neg (by decide), if_neg (by decide)]
    rfl
  rw [ht]
  dsimp only
  rw [prsR, if_neg (by decide), if_pos (by decide)]
end Go.Proofs.YtpepjiocjcjeeabDoor
