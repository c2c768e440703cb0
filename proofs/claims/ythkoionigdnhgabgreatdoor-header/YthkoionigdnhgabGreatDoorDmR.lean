/-
  Hosts that are read, written and read again, in plain mathematics (P8.9).
-/
import Derived.Test.YthkoionigdnhgabGreatDoorDmP
import Derived.Test.YthkoionigdnhgabGreatDoorAdQ
namespace Go.Proofs.YthkoionigdnhgabGreatDoor

theorem stB_mono {f a n : Nat} {c : UInt8} (h : stB 0 a n c = true) : stB f a n c = true := by
  unfold stB at *
  simp only [Nat.not_lt_zero, decide_false, Bool.and_false, Bool.or_false] at h
  rw [h, Bool.true_or]
theorem wdGo_mono (f : Nat) : ∀ (s : List UInt8) (a n : Nat) (h : Bool), wdGo 0 a n h s = none → wdGo f a n h s = none
  | [], _, _, _, e => e
  | c :: r, a, n, h, e => by
    rw [wdGo] at e ⊢
    by_cases h1 : c = 46
    · rw [if_pos h1] at e ⊢
      by_cases h2 : 0 < n ∧ h = false
      · rw [if_pos h2] at e ⊢
        exact wdGo_mono f r _ _ _ e
      · rw [if_neg h2] at e; cases e
    · rw [if_neg h1] at e ⊢
      by_cases h2 : n = 63 ∨ stB 0 a n c = false
      · rw [if_pos h2] at e; cases e
      · rw [if_neg h2] at e
        have h3 : stB 0 a n c = true := by
          cases hh : stB 0 a n c
          · exact absurd (Or.inr hh) h2
          · rfl
        have h4 : ¬ (n = 63 ∨ stB f a n c = false) := fun h => by
          rcases h with h | h
          · exact h2 (Or.inl h)
          · rw [stB_mono h3] at h; cases h
        rw [if_neg h4]
        exact wdGo_mono f r _ _ _ e
theorem wd_ok {wide : Bool} {s : List UInt8} (h : (wd wide s).1 = 0) : s.length ≤ 255 ∧ wdGo (if wide then badU s else 0) 0 0 false s = none ∧ wd wide s = (0, 0) := by
  unfold wd at *
  by_cases h1 : 255 < s.length
  · rw [if_pos h1] at h; cases h
  · rw [if_neg h1] at h ⊢
    generalize wdGo (if wide = true then badU s else 0) 0 0 false s = o at h ⊢
    cases o with
    | none => exact ⟨by omega, rfl, rfl⟩
    | some a => cases h
theorem wd_is {wide : Bool} {s : List UInt8} (h1 : s.length ≤ 255) (h2 : wdGo (if wide then badU s else 0) 0 0 false s = none) : wd wide s = (0, 0) := by
  unfold wd
  rw [if_neg (by omega), h2]
theorem wd_wide {wide : Bool} {s : List UInt8} (h : (wd wide s).1 = 0) : wd true s = (0, 0) := by
  cases wide with
  | true => exact (wd_ok h).2.2
  | false =>
    obtain ⟨h1, h2, _⟩ := wd_ok h
    exact wd_is h1 (wdGo_mono _ s _ _ _ h2)
theorem wd_head {wide : Bool} {s : List UInt8} (h : (wd wide s).1 = 0) : s.head? ≠ some 91 := by
  obtain ⟨_, h2, _⟩ := wd_ok h
  match s, h2 with
  | [], _ => simp
  | c :: r, h2 =>
    intro hc
    simp at hc
    subst hc
    rw [wdGo, if_neg (by decide), if_pos (Or.inr (by simp [stB, ldB, dgB]))] at h2
    cases h2
theorem u8_back (c : UInt8) (n : Nat) (h : c.toNat = n) : UInt8.ofNat n = c := by rw [← h, UInt8.ofNat_toNat]
theorem dgB_is {c : UInt8} (h : dgB c = true) : 48 ≤ c.toNat ∧ c.toNat ≤ 57 := by
  unfold dgB at h
  simp at h
  exact h
def dots (y : List Nat) : List UInt8 := y.flatMap fun n => 46 :: decD n
theorem joinL_dots : ∀ (n : Nat) (y : List Nat), joinL [46] ((n :: y).map decD) = decD n ++ dots y
  | n, [] => by simp [joinL, dots]
  | n, m :: y => by
    have := joinL_dots m y
    simp only [List.map_cons] at this ⊢
    rw [joinL, this]
    simp [dots]
theorem bracket_inner (x : List UInt8) : ((([91] ++ x ++ [93] : List UInt8)).drop 1).take (([91] ++ x ++ [93] : List UInt8).length - 2) = x := by
  simp
theorem bracket_last (x : List UInt8) : ([91] ++ x ++ [93] : List UInt8).getLast? = some 93 := by
  rw [List.getLast?_append]
  rfl
theorem colonAt_none : ∀ {l : List UInt8}, (∀ c ∈ l, c ≠ 58) → colonAt l = none
  | [], _ => rfl
  | c :: r, h => by
    rw [colonAt, if_neg (h c (by simp)), colonAt_none fun x hx => h x (by simp [hx])]
    rfl
theorem colonAt_some : ∀ {l : List UInt8} {k : Nat}, colonAt l = some k → k < l.length ∧ l[k]? = some 58 ∧ ∀ c ∈ l.take k, c ≠ 58
  | [], _, h => by cases h
  | c :: r, k, h => by
    rw [colonAt] at h
    by_cases hc : c = 58
    · rw [if_pos hc] at h
      injection h with h
      subst h hc
      exact ⟨by simp, rfl, fun x hx => by cases hx⟩
    · rw [if_neg hc] at h
      cases hr : colonAt r with
      | none => rw [hr] at h; cases h
      | some j =>
        rw [hr] at h
        simp at h
        subst h
        obtain ⟨h1, h2, h3⟩ := colonAt_some hr
        refine ⟨by simp; omega, by simpa using h2, fun x hx => ?_⟩
        rw [List.take_succ_cons] at hx
        rcases List.mem_cons.1 hx with rfl | hx
        · exact hc
        · exact h3 x hx
theorem decD_digits : ∀ n : Fin 256, ∀ c ∈ decD n.val, dgB c = true := by decide +kernel
theorem print4_mem (l : List Nat) (h : ∀ n ∈ l, n < 256) : ∀ c ∈ print4 l, dgB c = true ∨ c = 46 := by
  match l, h with
  | [], _ => intro c hc; cases hc
  | n :: y, h =>
    intro c hc
    unfold print4 at hc
    rw [joinL_dots] at hc
    rcases List.mem_append.1 hc with hc | hc
    · exact Or.inl (decD_digits ⟨n, h n (by simp)⟩ c hc)
    · unfold dots at hc
      obtain ⟨m, hm, hc⟩ := List.mem_flatMap.1 hc
      rcases List.mem_cons.1 hc with hc | hc
      · exact Or.inr hc
      · exact Or.inl (decD_digits ⟨m, h m (by simp [hm])⟩ c hc)
theorem not_six {l : List UInt8} (h : ∀ c ∈ l, dgB c = true ∨ c = 46) : sixB l = false := by
  match l, h with
  | [], _ => rfl
  | c :: r, h =>
    unfold sixB
    rw [Bool.and_eq_false_iff]
    right
    rw [decide_eq_false_iff_not, List.take_succ_cons]
    intro e
    unfold sml at e
    rw [List.map_cons] at e
    injection e with e _
    rcases h c (by simp) with hc | hc
    · obtain ⟨h1, h2⟩ := dgB_is hc
      unfold smB at e
      rw [if_neg (by omega)] at e
      rw [e] at h2
      revert h2
      decide
    · rw [hc] at e
      revert e
      decide
theorem decD_len (n : Nat) : (decD n).length ≤ 3 := by
  unfold decD
  split
  · simp
  · split <;> simp
theorem print4_len (a b c d : Nat) : (print4 [a, b, c, d]).length ≤ 15 := by
  have h1 := decD_len a
  have h2 := decD_len b
  have h3 := decD_len c
  have h4 := decD_len d
  simp [print4, joinL]
  omega

end Go.Proofs.YthkoionigdnhgabGreatDoor
/-
  P8.9 in plain mathematics: what is read may be, is written, and is read again as the same; so is a host that may be.
-/
namespace Go.Proofs.YthkoionigdnhgabGreatDoor

theorem joinL_len (sep : List UInt8) (k : Nat) (hs : sep.length = 1) : ∀ l : List (List UInt8), (∀ x ∈ l, x.length ≤ k) → (joinL sep l).length ≤ l.length * (k + 1)
  | [], _ => by simp [joinL]
  | [x], h => by
    have := h x (by simp)
    simp [joinL]
    omega
  | x :: y :: r, h => by
    have h1 := h x (by simp)
    have h2 := joinL_len sep k hs (y :: r) fun z hz => h z (by simp [hz])
    rw [joinL, List.length_append, List.length_append, hs]
    simp only [List.length_cons] at h2 ⊢
    rw [Nat.add_mul (r.length + 1) 1]
    omega
theorem print6_len (a : List Nat) (ha : a.length = 16) (hb : ∀ n ∈ a, n < 256) : (print6 a).length ≤ 82 := by
  obtain ⟨_, hl, hg⟩ := two_grps a (by rw [ha]) hb
  rw [ha] at hl
  have hx : ∀ x ∈ (grpsOf a).map hexD, x.length ≤ 4 := fun x hx => by
    obtain ⟨n, hn, rfl⟩ := List.mem_map.1 hx
    exact (hexD_ok n (hg n hn)).2.2.2
  have hml : ((grpsOf a).map hexD).length = 8 := by rw [List.length_map]; omega
  unfold print6
  generalize (grpsOf a).map hexD = L at hx hml ⊢
  split
  · have := joinL_len [58] 4 rfl L hx
    rw [hml] at this
    omega
  · have h1 := joinL_len [58] 4 rfl (L.take (zeros L).1) fun x h => hx x (List.mem_of_mem_take h)
    have h2 := joinL_len [58] 4 rfl (L.drop (zeros L).2) fun x h => hx x (List.mem_of_mem_drop h)
    rw [List.length_take] at h1
    rw [List.length_drop] at h2
    simp only [List.length_append, List.length_cons, List.length_nil]
    have : min (zeros L).1 L.length * (4 + 1) ≤ 8 * 5 := by
      rw [hml]
      omega
    have : (L.length - (zeros L).2) * (4 + 1) ≤ 8 * 5 := by
      rw [hml]
      omega
    omega
theorem lit_inner (x : List UInt8) (h : x.length ≤ 253) : lit ([91] ++ x ++ [93]) = if sixB x = true then told 6 ⟨3, [], addrOf 16 (v6 (x.drop 5))⟩ (spotOf (v6 (x.drop 5)))
    else match colonAt x with
    | some k => told 1 ⟨4, x, z16⟩ (tagged x k)
    | none => told 1 (fourH (addrOf 4 (v4 x))) (spotOf (v4 x)) := by
  unfold lit
  rw [if_neg (by simp; omega), bracket_last, if_neg (by simp), bracket_inner]
  rfl
theorem parse_br (x : List UInt8) (wide : Bool) : parse ([91] ++ x ++ [93]) wide = lit ([91] ++ x ++ [93]) := by
  unfold parse
  rw [if_pos (by simp)]

/-- A host as Go has them. -/
structure Ho.Ok (h : Ho) : Prop where
  len : h.a.length = 16
  byt : ∀ n ∈ h.a, n < 256
/-- A host that may be is written, and read as it was. -/
theorem back_host (h : Ho) (wide : Bool) (ok : h.Ok) (hc : check h wide = 0) : ∃ t, print h = (t, 0) ∧ parse t wide = (h, (0, 0)) ∧ t.length ≤ 255 ∧ check h true = 0 := by
  have len := ok.len
  have byt := ok.byt
  obtain ⟨k, n, a⟩ := h
  dsimp only at len byt
  unfold check at hc
  dsimp only at hc
  by_cases h1 : k = 1
  · subst h1
    rw [if_pos rfl] at hc
    by_cases ha : a = z16
    · rw [if_pos ha] at hc
      subst ha
      have hw := wd_wide hc
      have hck : check ⟨1, n, z16⟩ true = 0 := by unfold check; rw [if_pos rfl, if_pos rfl, hw]
      refine ⟨n, ?_, ?_, (wd_ok hc).1, hck⟩
      · unfold print
        rw [if_pos hck]
        rfl
      · unfold parse
        rw [if_neg (wd_head hc), if_pos hc]
    · rw [if_neg ha] at hc; cases hc
  · rw [if_neg h1] at hc
    by_cases h2 : k = 2
    · subst h2
      rw [if_pos rfl] at hc
      by_cases hf : (⟨2, n, a⟩ : Ho) = fourH (a.take 4)
      · have hn : n = [] := by unfold fourH at hf; injection hf
        have ha : a = a.take 4 ++ List.replicate 12 0 := by unfold fourH at hf; injection hf
        obtain ⟨w, x, y, z, hwx⟩ : ∃ w x y z, a.take 4 = [w, x, y, z] := by
          have : (a.take 4).length = 4 := by rw [List.length_take]; omega
          match a.take 4, this with
          | [w, x, y, z], _ => exact ⟨w, x, y, z, rfl⟩
        have hb : ∀ m ∈ [w, x, y, z], m < 256 := fun m hm => by rw [← hwx] at hm; exact byt m (List.mem_of_mem_take hm)
        have hck : check ⟨2, n, a⟩ true = 0 := by unfold check; rw [if_neg (show ¬ (2 : Int) = 1 by decide), if_pos rfl, if_pos hf]
        refine ⟨[91] ++ print4 (a.take 4) ++ [93], ?_, ?_, ?_, hck⟩
        · unfold print
          rw [if_pos hck]
          rfl
        · rw [hwx, parse_br, lit_inner _ (by have := print4_len w x y z; omega), not_six (print4_mem _ hb), if_neg (by decide), colonAt_none (fun c hc => ?_)]
          · have := v4_print w x y z (hb w (by simp)) (hb x (by simp)) (hb y (by simp)) (hb z (by simp))
            dsimp only
            rw [this]
            show (fourH [w, x, y, z], ((0, 0) : Nat × Nat)) = _
            rw [← hwx, ← hf]
          · rcases print4_mem _ hb c hc with h | h
            · obtain ⟨h1, h2⟩ := dgB_is h
              intro e
              rw [e] at h2
              revert h2
              decide
            · rw [h]; decide
        · rw [hwx]
          have := print4_len w x y z
          simp only [List.length_append, List.length_cons, List.length_nil]
          omega
      · rw [if_neg hf] at hc; cases hc
    · rw [if_neg h2] at hc
      by_cases h3 : k = 3
      · subst h3
        rw [if_pos rfl] at hc
        by_cases hn : n = []
        · subst hn
          have hck : check ⟨3, [], a⟩ true = 0 := rfl
          have hl := print6_len a len byt
          have e : ([91, 73, 80, 118, 54, 58] ++ print6 a ++ [93] : List UInt8) = [91] ++ ([73, 80, 118, 54, 58] ++ print6 a) ++ [93] := by simp
          refine ⟨[91, 73, 80, 118, 54, 58] ++ print6 a ++ [93], ?_, ?_, by simp; omega, hck⟩
          · unfold print
            rw [if_pos hck]
            rfl
          · rw [e, parse_br, lit_inner _ (by simp; omega), if_pos ?_]
            · rw [show ([73, 80, 118, 54, 58] ++ print6 a : List UInt8).drop 5 = print6 a from rfl, v6_print a len byt]
              rfl
            · show (decide (5 ≤ ([73, 80, 118, 54, 58] ++ print6 a : List UInt8).length) && decide (sml [73, 80, 118, 54, 58] = [105, 112, 118, 54, 58])) = true
              rw [decide_eq_true (by simp), Bool.true_and]
              decide
        · rw [if_neg hn] at hc; cases hc
      · rw [if_neg h3] at hc
        by_cases h4 : k = 4
        · subst h4
          rw [if_pos rfl] at hc
          by_cases ha : a = z16
          · subst ha
            rw [if_pos rfl] at hc
            have hck : check ⟨4, n, z16⟩ true = 0 := by unfold check; rw [if_neg (show ¬ (4 : Int) = 1 by decide), if_neg (show ¬ (4 : Int) = 2 by decide), if_neg (show ¬ (4 : Int) = 3 by decide), if_pos rfl, if_pos rfl, hc]
            unfold chTag at hc
            by_cases hl : 253 < n.length
            · rw [if_pos hl] at hc; cases hc
            · rw [if_neg hl] at hc
              cases hk : colonAt n with
              | none => rw [hk] at hc; cases hc
              | some j =>
                rw [hk] at hc
                dsimp only at hc
                by_cases h6 : sixB n = true
                · rw [if_pos h6] at hc; cases hc
                · rw [if_neg h6] at hc
                  refine ⟨[91] ++ n ++ [93], ?_, ?_, by simp; omega, hck⟩
                  · unfold print
                    rw [if_pos hck]
                    rfl
                  · rw [parse_br, lit_inner _ (by omega), if_neg h6, hk]
                    dsimp only
                    unfold told
                    rw [if_pos hc]
          · rw [if_neg ha] at hc; cases hc
        · rw [if_neg h4] at hc; cases hc
/-- Groups as they may be. -/
structure Gs.Fit (g : Gs) : Prop where
  lt : ∀ n ∈ g.l, n < 65536
  le : g.gap = none → g.l.length ≤ 8
  gp : ∀ k, g.gap = some k → k ≤ g.l.length ∧ g.l.length ≤ 6
theorem Gs.Fit.put {g : Gs} {n : Nat} (h : g.Fit) (hn : n < 65536) (hr : 0 < g.room) : (g.put n).Fit := by
  refine ⟨fun m hm => ?_, fun e => ?_, fun k e => ?_⟩
  · rcases List.mem_append.1 hm with hm | hm
    · exact h.lt m hm
    · rw [List.mem_singleton.1 hm]; exact hn
  · have e' : g.gap = none := e
    unfold Gs.room at hr
    rw [e'] at hr
    simp at hr
    simp [Gs.put]
    omega
  · have e' : g.gap = some k := e
    have := h.gp k e'
    unfold Gs.room at hr
    rw [e'] at hr
    simp at hr
    simp [Gs.put]
    omega
theorem Gs.Fit.open' {g : Gs} (h : g.Fit) (ho : g.mayOpen = true) : g.open'.Fit := by
  unfold Gs.mayOpen at ho
  simp at ho
  refine ⟨h.lt, fun e => (by cases e), fun k e => ?_⟩
  have : g.l.length = k := by injection e
  subst this
  exact ⟨Nat.le_refl _, ho.2⟩
theorem twoB_len : ∀ l : List Nat, (twoB l).length = 2 * l.length
  | [] => rfl
  | n :: r => by rw [twoB]; simp [twoB_len r]; omega
theorem twoB_lt : ∀ l : List Nat, (∀ n ∈ l, n < 65536) → ∀ n ∈ twoB l, n < 256
  | [], _, n, hn => by cases hn
  | m :: r, h, n, hn => by
    have hm := h m (by simp)
    rw [twoB] at hn
    rcases List.mem_cons.1 hn with rfl | hn
    · omega
    · rcases List.mem_cons.1 hn with rfl | hn
      · omega
      · exact twoB_lt r (fun x hx => h x (by simp [hx])) n hn
theorem Gs.Fit.addr {g : Gs} (h : g.Fit) (hf : g.gap = none → g.l.length = 8) : g.addr.length = 16 ∧ ∀ n ∈ g.addr, n < 256 := by
  unfold Gs.addr
  have key : g.all.length = 8 ∧ ∀ n ∈ g.all, n < 65536 := by
    unfold Gs.all
    cases hg : g.gap with
    | none => exact ⟨hf hg, h.lt⟩
    | some k =>
      have := h.gp k hg
      refine ⟨by simp; omega, fun n hn => ?_⟩
      simp only [List.mem_append] at hn
      rcases hn with (hn | hn) | hn
      · exact h.lt n (List.mem_of_mem_take hn)
      · rw [(List.mem_replicate.1 hn).2]; decide
      · exact h.lt n (List.mem_of_mem_drop hn)
  exact ⟨by rw [twoB_len, key.1], twoB_lt _ key.2⟩
end Go.Proofs.YthkoionigdnhgabGreatDoor
