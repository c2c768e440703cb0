/-
  What Ascii tells (P8.12), in plain mathematics.
-/
import Derived.Test.YtnlgbopdbihnjaaGreatDoorDmW
namespace Go.Proofs.YtnlgbopdbihnjaaGreatDoor

theorem smB_colon_fin : ∀ b : Fin 256, (smB (UInt8.ofNat b.val) = 58 ↔ UInt8.ofNat b.val = 58) := by decide +kernel
theorem smB_colon (c : UInt8) : smB c = 58 ↔ c = 58 := by
  have := smB_colon_fin ⟨c.toNat, c.toNat_lt⟩
  simpa using this
theorem colonAt_is : ∀ {l : List UInt8} {k : Nat}, l[k]? = some 58 → (∀ c ∈ l.take k, c ≠ 58) → colonAt l = some k
  | [], _, h, _ => by simp at h
  | c :: r, 0, h, _ => by
    simp at h
    rw [colonAt, if_pos h]
  | c :: r, k + 1, h, hn => by
    rw [List.take_succ_cons] at hn
    rw [colonAt, if_neg (hn c (by simp)), colonAt_is (k := k) (by simpa using h) fun x hx => hn x (by simp [hx])]
    rfl
theorem spB_sml : ∀ l : List UInt8, spB lbB (sml l) = spB lbB l
  | [] => rfl
  | c :: r => by
    show spB lbB (smB c :: sml r) = _
    rw [spB, spB, ← (smB_facts c).1, spB_sml r]
theorem sml_append (x y : List UInt8) : sml (x ++ y) = sml x ++ sml y := by simp [sml]
theorem sml_len (x : List UInt8) : (sml x).length = x.length := by simp [sml]
theorem tagS_some {t : List UInt8} {k : Nat} (h : colonAt t = some k) : tagS t = sml (t.take k) ++ t.drop k := by
  unfold tagS
  rw [h]
theorem tagS_len (t : List UInt8) : (tagS t).length = t.length := by
  unfold tagS
  cases colonAt t with
  | none => rfl
  | some k =>
    show (sml (t.take k) ++ t.drop k).length = t.length
    rw [List.length_append, sml_len, ← List.length_append, List.take_append_drop]
theorem tagS_sml (t : List UInt8) : sml (tagS t) = sml t := by
  unfold tagS
  cases colonAt t with
  | none => rfl
  | some k =>
    show sml (sml (t.take k) ++ t.drop k) = sml t
    rw [sml_append, sml_twice, ← sml_append, List.take_append_drop]
theorem tagS_facts {t : List UInt8} {k : Nat} (h : colonAt t = some k) : (tagS t).take k = sml (t.take k) ∧ (tagS t).drop k = t.drop k ∧ colonAt (tagS t) = some k := by
  obtain ⟨h1, h2, h3⟩ := colonAt_some h
  have hl : (sml (t.take k)).length = k := by rw [sml_len, List.length_take]; omega
  have e1 : (tagS t).take k = sml (t.take k) := by
    rw [tagS_some h, List.take_append_of_le_length (by omega), List.take_of_length_le (by omega)]
  have e2 : (tagS t).drop k = t.drop k := by
    rw [tagS_some h, List.drop_append_of_le_length (by omega), List.drop_eq_nil_of_le (by omega), List.nil_append]
  refine ⟨e1, e2, colonAt_is ?_ ?_⟩
  · have : (tagS t)[k]? = ((tagS t).drop k)[0]? := by rw [List.getElem?_drop]; rfl
    rw [this, e2, List.getElem?_drop]
    exact h2
  · rw [e1]
    intro c hc
    obtain ⟨d, hd, rfl⟩ := List.mem_map.1 hc
    exact fun e => h3 d hd ((smB_colon d).1 e)
theorem tagS_twice (t : List UInt8) : tagS (tagS t) = tagS t := by
  cases h : colonAt t with
  | none =>
    have : tagS t = t := by unfold tagS; rw [h]
    rw [this, this]
  | some k =>
    obtain ⟨e1, e2, e3⟩ := tagS_facts h
    rw [tagS_some e3, e1, e2, sml_twice, ← tagS_some h]
theorem tagS_six (t : List UInt8) : sixB (tagS t) = sixB t := by
  unfold sixB
  rw [tagS_len]
  congr 2
  have : ∀ x : List UInt8, sml (x.take 5) = (sml x).take 5 := fun x => by simp [sml, List.map_take]
  rw [this, this, tagS_sml]
theorem tagS_tagged {t : List UInt8} {k : Nat} (h : colonAt t = some k) : tagged (tagS t) k = tagged t k := by
  obtain ⟨e1, e2, _⟩ := tagS_facts h
  obtain ⟨h1, _, _⟩ := colonAt_some h
  have e3 : (tagS t).drop (k + 1) = t.drop (k + 1) := by rw [← List.drop_drop, e2, List.drop_drop]
  have e4 : (k = 0 ∨ (tagS t)[k - 1]? = some 45) ↔ (k = 0 ∨ t[k - 1]? = some 45) := by
    rcases Nat.eq_zero_or_pos k with h0 | h0
    · simp [h0]
    · have a1 : (tagS t)[k - 1]? = ((tagS t).take k)[k - 1]? := by rw [List.getElem?_take, if_pos (by omega)]
      have a2 : (t.take k)[k - 1]? = t[k - 1]? := by rw [List.getElem?_take, if_pos (by omega)]
      have a3 : (sml (t.take k))[k - 1]? = (t[k - 1]?).map smB := by unfold sml; rw [List.getElem?_map, a2]
      rw [a1, e1, a3]
      cases t[k - 1]? with
      | none => simp
      | some c => simp [(smB_facts c).2.2.1]
  unfold tagged
  rw [e1, spB_sml, e3, tagS_len]
  simp only [e4]
theorem tagS_ch {t : List UInt8} (h : chTag t = 0) : chTag (tagS t) = 0 := by
  unfold chTag at *
  rw [tagS_len, tagS_six]
  cases hk : colonAt t with
  | none =>
    rw [hk] at h
    split at h
    · cases h
    · cases h
  | some k =>
    rw [(tagS_facts hk).2.2]
    rw [hk] at h
    dsimp only at *
    rw [tagS_tagged hk]
    exact h

theorem check_name {h : Ho} {wide : Bool} (hk : h.k = 1) (hc : check h wide = 0) : h.a = z16 ∧ (wd wide h.n).1 = 0 := by
  unfold check at hc
  rw [if_pos hk] at hc
  split at hc
  · exact ⟨‹_›, hc⟩
  · cases hc
theorem check_name' {n : List UInt8} {wide : Bool} (hw : (wd wide n).1 = 0) : check ⟨1, n, z16⟩ wide = 0 := by
  unfold check
  rw [if_pos rfl, if_pos rfl, hw]
theorem check_tag {h : Ho} {wide : Bool} (hk : h.k = 4) (hc : check h wide = 0) : h.a = z16 ∧ chTag h.n = 0 := by
  unfold check at hc
  rw [if_neg (by omega), if_neg (by omega), if_neg (by omega), if_pos hk] at hc
  split at hc
  · exact ⟨‹_›, hc⟩
  · cases hc
theorem check_tag' {n : List UInt8} {wide : Bool} (hw : chTag n = 0) : check ⟨4, n, z16⟩ wide = 0 := by
  unfold check
  rw [if_neg (show ¬ (4 : Int) = 1 by decide), if_neg (show ¬ (4 : Int) = 2 by decide), if_neg (show ¬ (4 : Int) = 3 by decide), if_pos rfl, if_pos rfl, hw]
theorem check_kind {h : Ho} {wide : Bool} (hc : check h wide = 0) : h.k = 1 ∨ h.k = 2 ∨ h.k = 3 ∨ h.k = 4 := by
  unfold check at hc
  by_cases h1 : h.k = 1
  · exact Or.inl h1
  by_cases h2 : h.k = 2
  · exact Or.inr (Or.inl h2)
  by_cases h3 : h.k = 3
  · exact Or.inr (Or.inr (Or.inl h3))
  by_cases h4 : h.k = 4
  · exact Or.inr (Or.inr (Or.inr h4))
  rw [if_neg h1, if_neg h2, if_neg h3, if_neg h4] at hc
  cases hc

theorem wires_err {f : List UInt8 → List UInt8} {h : Ho} (he : (ascii f h).2 ≠ 0) : (ascii f h).1 = ho0 ∧ (check h true = (ascii f h).2 ∨ (h.k = 1 ∧ check h true = 0 ∧ ((ascii f h).2 = 80 ∨ (ascii f h).2 = 81))) := by
  unfold ascii at *
  by_cases hc : check h true = 0
  · rw [if_pos hc] at he ⊢
    by_cases h1 : h.k = 1
    · rw [if_pos h1] at he ⊢
      by_cases h2 : (asciiD f h.n).2 = 0
      · rw [if_pos h2] at he
        exact absurd rfl he
      · rw [if_neg h2]
        refine ⟨rfl, Or.inr ⟨h1, hc, ?_⟩⟩
        dsimp only
        unfold asciiD at h2 ⊢
        split
        · exact Or.inl rfl
        · rename_i h3
          rw [if_neg h3] at h2
          split
          · exact Or.inr rfl
          · rename_i h4
            rw [if_neg h4] at h2
            exact absurd rfl h2
    · rw [if_neg h1] at he
      split at he
      · exact absurd rfl he
      · exact absurd rfl he
  · rw [if_neg hc]
    exact ⟨rfl, Or.inl rfl⟩
theorem wires_ok {f : List UInt8 → List UInt8} (hf : Labs f) {h : Ho} (he : (ascii f h).2 = 0) : check (ascii f h).1 false = 0 ∧ same f (ascii f h).1 h = true ∧ ascii f (ascii f h).1 = ((ascii f h).1, 0) ∧ (ascii f h).1.k = h.k ∧ (ascii f h).1.a = h.a ∧
    (h.k = 1 → ∀ c ∈ (ascii f h).1.n, c.toNat < 128 ∧ ¬ (65 ≤ c.toNat ∧ c.toNat ≤ 90)) := by
  have hc : check h true = 0 := by
    cases hx : check h true with
    | zero => rfl
    | succ m =>
      unfold ascii at he
      rw [if_neg (by omega)] at he
      exact he ▸ hx.symm ▸ rfl
  have fin : ∀ a : Ho, ascii f h = (a, 0) → check a true = 0 → a.k = h.k → ascii f a = (a, 0) → same f a h = true := fun a e1 e2 e3 e4 => by
    rw [same_iff]
    exact ⟨e3, e2, hc, Or.inl ⟨by rw [e4], he, by rw [e4, e1]⟩⟩
  rcases check_kind hc with h1 | h1 | h1 | h1
  · obtain ⟨hz, hw⟩ := check_name h1 hc
    have h2 : (asciiD f h.n).2 = 0 := by
      unfold ascii at he
      rw [if_pos hc, if_pos h1] at he
      by_cases h2 : (asciiD f h.n).2 = 0
      · exact h2
      · rw [if_neg h2] at he; exact absurd he h2
    obtain ⟨w1, w2, w3⟩ := asciiD_ok hf hw h2
    have e : ascii f h = (⟨1, (asciiD f h.n).1, z16⟩, 0) := by
      unfold ascii
      rw [if_pos hc, if_pos h1, if_pos h2, hz]
    have ct : check ⟨1, (asciiD f h.n).1, z16⟩ true = 0 := check_name' (by rw [wd_wide w1])
    have e2 : ascii f ⟨1, (asciiD f h.n).1, z16⟩ = (⟨1, (asciiD f h.n).1, z16⟩, 0) := by
      unfold ascii
      rw [if_pos ct, if_pos rfl]
      dsimp only
      rw [w2, if_pos rfl]
    have hs := fin _ e ct h1.symm e2
    rw [e]
    exact ⟨check_name' w1, hs, e2, h1.symm, hz.symm, fun _ => w3⟩
  · have e := ascii_addr f (Or.inl h1) hc
    rw [e]
    exact ⟨(check_v4 h1).2 ((check_v4 h1).1 hc), fin h e hc rfl e, e, rfl, rfl, fun h => by omega⟩
  · have e := ascii_addr f (Or.inr h1) hc
    rw [e]
    exact ⟨(check_v6 h1).2 ((check_v6 h1).1 hc), fin h e hc rfl e, e, rfl, rfl, fun h => by omega⟩
  · obtain ⟨hz, hw⟩ := check_tag h1 hc
    have e : ascii f h = (⟨4, tagS h.n, z16⟩, 0) := by
      unfold ascii
      rw [if_pos hc, if_neg (by omega), if_pos h1, hz]
    have ct : ∀ w, check ⟨4, tagS h.n, z16⟩ w = 0 := fun w => check_tag' (tagS_ch hw)
    have e2 : ascii f ⟨4, tagS h.n, z16⟩ = (⟨4, tagS h.n, z16⟩, 0) := by
      unfold ascii
      rw [if_pos (ct true), if_neg (show ¬ (4 : Int) = 1 by decide), if_pos rfl, tagS_twice]
    rw [e]
    exact ⟨ct false, fin _ e (ct true) h1.symm e2, e2, h1.symm, hz.symm, fun h => by omega⟩

end Go.Proofs.YtnlgbopdbihnjaaGreatDoor
