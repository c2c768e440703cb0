/-
  Replies as rows: how they are split, and what a reader makes of them; no Go in sight.
-/
import Derived.Test.YtbfgefgadplcjaaDoorRowl
namespace Go.Proofs.YtbfgefgadplcjaaDoor

/-- A row that others follow; the last one; a reply's bytes. -/
def rwM (cd t : List UInt8) : List UInt8 := cd ++ 45 :: (t ++ [13, 10])
def rwE (cd u : List UInt8) (b : Bool) : List UInt8 := cd ++ ((if b then 32 :: u else []) ++ [13, 10])
def rpL (cd : List UInt8) (ts : List (List UInt8)) (u : List UInt8) (b : Bool) : List UInt8 := ts.flatMap (rwM cd) ++ rwE cd u b
/-- Rows with CR LF between them. -/
def jnR : List (List UInt8) → List UInt8
  | [] => []
  | [x] => x
  | x :: y :: r => x ++ 13 :: 10 :: jnR (y :: r)
theorem idx_at : ∀ (l r : List UInt8), (∀ c ∈ l, c ≠ 13) → Lib.index (l ++ 13 :: 10 :: r) [13, 10] = l.length
  | [], r, _ => by unfold Lib.index; simp
  | c :: t, r, h => by
    have h1 := h c (by simp)
    have ih := idx_at t r (fun x hx => h x (by simp [hx]))
    rw [List.cons_append]
    unfold Lib.index
    rw [if_neg (by simp [List.isPrefixOf, Ne.symm h1]), ih, if_neg (by rw [beq_iff_eq]; omega)]
    simp
theorem idx_none : ∀ (l : List UInt8), (∀ c ∈ l, c ≠ 13) → Lib.index l [13, 10] = -1
  | [], _ => rfl
  | c :: t, h => by
    have h1 := h c (by simp)
    have ih := idx_none t (fun x hx => h x (by simp [hx]))
    unfold Lib.index
    rw [if_neg (by simp [List.isPrefixOf, Ne.symm h1]), ih]
    rfl
theorem drop_at (x r : List UInt8) : (x ++ 13 :: 10 :: r).drop (x.length + 2) = r := by
  rw [show x ++ 13 :: 10 :: r = (x ++ [13, 10]) ++ r by simp, List.drop_left' (by simp)]
theorem count_jn : ∀ (L : List (List UInt8)), L ≠ [] → (∀ x ∈ L, ∀ c ∈ x, c ≠ 13) → ∀ fuel, (jnR L).length < fuel → Lib.countFrom [13, 10] fuel (jnR L) = L.length - 1
  | [], h, _, _, _ => absurd rfl h
  | [x], _, hx, fuel, hf => by
    cases fuel with
    | zero => omega
    | succ n => unfold Lib.countFrom jnR; rw [idx_none x (hx x (by simp))]; rfl
  | x :: y :: r, _, hx, fuel, hf => by
    cases fuel with
    | zero => omega
    | succ n =>
      unfold Lib.countFrom
      rw [jnR, idx_at x _ (hx x (by simp)), if_neg (by rw [beq_iff_eq]; omega)]
      rw [jnR] at hf
      simp only [List.length_append, List.length_cons] at hf
      rw [show ((x.length : Int).toNat + [(13 : UInt8), 10].length) = x.length + 2 by simp, drop_at, count_jn (y :: r) (by simp) (fun z hz => hx z (by simp [List.mem_cons.1 hz])) n (by omega)]
      simp; omega
theorem split_jnR : ∀ (L : List (List UInt8)), L ≠ [] → (∀ x ∈ L, ∀ c ∈ x, c ≠ 13) → Lib.splitK [13, 10] 0 (L.length - 1) (jnR L) = L
  | [], h, _ => absurd rfl h
  | [x], _, hx => rfl
  | x :: y :: r, _, hx => by
    have ih := split_jnR (y :: r) (by simp) (fun z hz => hx z (by simp [List.mem_cons.1 hz]))
    rw [show (x :: y :: r).length - 1 = (y :: r).length - 1 + 1 by simp]
    unfold Lib.splitK
    rw [jnR, idx_at x _ (hx x (by simp)), if_neg (by rw [beq_iff_eq]; omega), show ((x.length : Int).toNat + [(13 : UInt8), 10].length) = x.length + 2 by simp, drop_at, ih]
    simp
theorem rows_jn (L : List (List UInt8)) (h : L ≠ []) (hx : ∀ x ∈ L, ∀ c ∈ x, c ≠ 13) : rowsT (jnR L ++ [13, 10]) = L := by
  have h1 : Lib.trimSuffix (jnR L ++ [13, 10]) [13, 10] = jnR L := by
    unfold Lib.trimSuffix Lib.hasSuffix
    rw [if_pos (by rw [List.isSuffixOf_iff_suffix]; exact List.suffix_append _ _)]
    simp
  unfold rowsT Lib.split Lib.count
  rw [h1, count_jn L h hx _ (by omega)]
  exact split_jnR L h hx
theorem jnR_two (x : List UInt8) (L : List (List UInt8)) (h : L ≠ []) : jnR (x :: L) = x ++ 13 :: 10 :: jnR L := by
  cases L with
  | nil => exact absurd rfl h
  | cons y r => rfl
theorem rpL_jn (cd : List UInt8) (ts : List (List UInt8)) (u : List UInt8) (b : Bool) : rpL cd ts u b = jnR (ts.map (fun t => cd ++ 45 :: t) ++ [cd ++ (if b then 32 :: u else [])]) ++ [13, 10] := by
  unfold rpL
  induction ts with
  | nil => simp [rwE, jnR]
  | cons t ts ih =>
    rw [List.flatMap_cons, List.map_cons, List.cons_append, jnR_two _ _ (by simp), List.append_assoc, ih]
    simp [rwM]
/-- Bytes of a text have no CR. -/
theorem tx_cr : txB 13 = false ∧ txB 10 = false := by decide +kernel
theorem txt_no {t : List UInt8} (h : txtB t = true) : ∀ c ∈ t, c ≠ 13 ∧ c ≠ 10 := fun c hc => by
  have := List.all_eq_true.1 h c hc
  refine ⟨fun e => ?_, fun e => ?_⟩
  · rw [e, tx_cr.1] at this; cases this
  · rw [e, tx_cr.2] at this; cases this
/-- A code's three digits. -/
def cdOk (cd : List UInt8) : Prop := ∃ x y z, cd = [x, y, z] ∧ digB 0 x = true ∧ digB 1 y = true ∧ digB 2 z = true
theorem dig_fin0 : ∀ c : Fin 256, digB 0 (UInt8.ofNat c.val) = (decide (50 ≤ c.val) && decide (c.val ≤ 53)) := by decide +kernel
theorem dig_fin1 : ∀ c : Fin 256, digB 1 (UInt8.ofNat c.val) = (decide (48 ≤ c.val) && decide (c.val ≤ 53)) := by decide +kernel
theorem dig_fin2 : ∀ c : Fin 256, digB 2 (UInt8.ofNat c.val) = (decide (48 ≤ c.val) && decide (c.val ≤ 57)) := by decide +kernel
theorem u8_ofNat (c : UInt8) : UInt8.ofNat c.toNat = c := by simp
theorem dig0 (c : UInt8) : digB 0 c = true ↔ 50 ≤ c.toNat ∧ c.toNat ≤ 53 := by
  have := dig_fin0 ⟨c.toNat, c.toNat_lt⟩
  rw [u8_ofNat] at this
  rw [this]; simp
theorem dig1 (c : UInt8) : digB 1 c = true ↔ 48 ≤ c.toNat ∧ c.toNat ≤ 53 := by
  have := dig_fin1 ⟨c.toNat, c.toNat_lt⟩
  rw [u8_ofNat] at this
  rw [this]; simp
theorem dig2 (c : UInt8) : digB 2 c = true ↔ 48 ≤ c.toNat ∧ c.toNat ≤ 57 := by
  have := dig_fin2 ⟨c.toNat, c.toNat_lt⟩
  rw [u8_ofNat] at this
  rw [this]; simp
theorem cd_no {cd : List UInt8} (h : cdOk cd) : ∀ c ∈ cd, c ≠ 13 := by
  obtain ⟨x, y, z, rfl, hx, hy, hz⟩ := h
  intro c hc e
  subst e
  simp only [List.mem_cons, List.not_mem_nil, or_false] at hc
  rcases hc with rfl | rfl | rfl
  · exact absurd hx (by decide)
  · exact absurd hy (by decide)
  · exact absurd hz (by decide)
/-- The texts of a reply's rows. -/
theorem texts_rp {cd : List UInt8} (hc : cdOk cd) (ts : List (List UInt8)) (u : List UInt8) (b : Bool) (ht : ∀ t ∈ ts, txtB t = true) (hu : txtB u = true) : textsT (rpL cd ts u b) = ts ++ [if b then u else []] := by
  have hl : cd.length = 3 := by obtain ⟨x, y, z, rfl, _⟩ := hc; rfl
  unfold textsT
  rw [rpL_jn, rows_jn _ (by simp) ?_]
  · rw [List.map_append, List.map_map]
    congr 1
    · rw [show (fun x : List UInt8 => List.drop 4 x) ∘ (fun t => cd ++ 45 :: t) = id from funext fun t => by
        show List.drop 4 (cd ++ 45 :: t) = t
        rw [show cd ++ 45 :: t = (cd ++ [45]) ++ t by simp, List.drop_left' (by simp [hl])]]
      simp
    · cases b
      · simp [hl]
      · simp only [if_true, List.map_cons, List.map_nil]
        rw [show cd ++ 32 :: u = (cd ++ [32]) ++ u by simp, List.drop_left' (by simp [hl])]
  · intro x hx c hcx e
    subst e
    rcases List.mem_append.1 hx with hx | hx
    · obtain ⟨t, ht1, rfl⟩ := List.mem_map.1 hx
      rcases List.mem_append.1 hcx with h | h
      · exact cd_no hc _ h rfl
      · rcases List.mem_cons.1 h with h | h
        · exact absurd h (by decide)
        · exact (txt_no (ht t ht1) _ h).1 rfl
    · rw [List.mem_singleton] at hx
      subst hx
      rcases List.mem_append.1 hcx with h | h
      · exact cd_no hc _ h rfl
      · cases b
        · simp at h
        · simp only [if_true] at h
          rcases List.mem_cons.1 h with h | h
          · exact absurd h (by decide)
          · exact (txt_no hu _ h).1 rfl
theorem take_rp {cd : List UInt8} (hc : cdOk cd) (ts : List (List UInt8)) (u : List UInt8) (b : Bool) : (rpL cd ts u b).take 3 = cd := by
  obtain ⟨x, y, z, rfl, _⟩ := hc
  unfold rpL
  cases ts with
  | nil => rfl
  | cons t ts => rfl

/- The machine. -/
theorem on_go {s : Sr} {c : UInt8} (hb : s.b = false) {p' : Plc} (h : stepP s.p c = (p', 0)) : s.on c = ⟨p', s.h ++ [c], s.o, false⟩ := by
  unfold Sr.on
  rw [if_neg (by rw [hb]; decide), h, if_neg (show ¬ (0 : Nat) = 2 by decide), if_neg (show ¬ (0 : Nat) = 1 by decide)]
theorem step_tx (p : Plc) (c : UInt8) (he : p.e = false) (hn : 4 ≤ p.n) (hn2 : p.n < 510) (hc : txB c = true) : stepP p c = ({ p with n := p.n + 1 }, 0) := by
  have h13 : c ≠ 13 := fun e => by rw [e, tx_cr.1] at hc; cases hc
  unfold stepP
  rw [if_neg (by rw [he]; decide), if_neg (fun h => h13 h.1), if_pos (by unfold fitB; rw [if_neg (by omega), if_neg (by omega), hc]; simpa using hn2)]
  unfold midP
  rw [if_neg (by omega), if_neg (by omega)]
theorem run_tx : ∀ (t : List UInt8) (s : Sr), s.b = false → s.p.e = false → 4 ≤ s.p.n → s.p.n + t.length ≤ 510 → txtB t = true → s.run t = ⟨{ s.p with n := s.p.n + t.length }, s.h ++ t, s.o, false⟩
  | [], s, hb, he, h4, hn, ht => by
    rw [run_nil, List.append_nil]
    obtain ⟨p, h, o, b⟩ := s
    dsimp only at hb
    subst hb
    rfl
  | c :: t, s, hb, he, h4, hn, ht => by
    simp only [List.length_cons] at hn
    have hc : txB c = true ∧ txtB t = true := by
      unfold txtB at ht ⊢
      rw [List.all_cons, Bool.and_eq_true] at ht
      exact ht
    rw [run_cons, on_go hb (step_tx s.p c he h4 (by omega) hc.1), run_tx t ⟨{ s.p with n := s.p.n + 1 }, s.h ++ [c], s.o, false⟩ rfl he (by show 4 ≤ s.p.n + 1; omega) (by show s.p.n + 1 + t.length ≤ 510; omega) hc.2]
    dsimp only
    rw [List.append_assoc, List.length_cons, show s.p.n + 1 + t.length = s.p.n + (t.length + 1) by omega]
    rfl
theorem dig_no13 {k : Nat} {c : UInt8} (h : digB k c = true) : c ≠ 13 := fun e => by
  subst e
  unfold digB loB at h
  split at h <;> simp at h
/-- The three digits of a row. -/
theorem run_cd {x y z : UInt8} {r : Nat} {x0 y0 z0 : UInt8} (h o) (hx : digB 0 x = true) (hy : digB 1 y = true) (hz : digB 2 z = true) (hr : 0 < r → x = x0 ∧ y = y0 ∧ z = z0) :
    Sr.run ⟨⟨r, x0, y0, z0, 0, false, false⟩, h, o, false⟩ [x, y, z] = ⟨⟨r, x, y, z, 3, false, false⟩, h ++ [x, y, z], o, false⟩ := by
  have s1 : stepP ⟨r, x0, y0, z0, 0, false, false⟩ x = (⟨r, x, y0, z0, 1, false, false⟩, 0) := by
    unfold stepP
    rw [if_neg (by simp), if_neg (fun e => dig_no13 hx e.1), if_pos (by
      unfold fitB
      rw [if_pos (by simp)]
      by_cases h0 : 0 < r
      · rw [if_pos h0, (hr h0).1]; simp [Plc.cd]
      · rw [if_neg h0]; exact hx)]
    rfl
  have s2 : stepP ⟨r, x, y0, z0, 1, false, false⟩ y = (⟨r, x, y, z0, 2, false, false⟩, 0) := by
    unfold stepP
    rw [if_neg (by simp), if_neg (fun e => dig_no13 hy e.1), if_pos (by
      unfold fitB
      rw [if_pos (by simp)]
      by_cases h0 : 0 < r
      · rw [if_pos h0, (hr h0).2.1]; simp [Plc.cd]
      · rw [if_neg h0]; exact hy)]
    rfl
  have s3 : stepP ⟨r, x, y, z0, 2, false, false⟩ z = (⟨r, x, y, z, 3, false, false⟩, 0) := by
    unfold stepP
    rw [if_neg (by simp), if_neg (fun e => dig_no13 hz e.1), if_pos (by
      unfold fitB
      rw [if_pos (by simp)]
      by_cases h0 : 0 < r
      · rw [if_pos h0, (hr h0).2.2]; simp [Plc.cd]
      · rw [if_neg h0]; exact hz)]
    rfl
  rw [run_cons, on_go rfl s1, run_cons, on_go rfl s2, run_cons, on_go rfl s3, run_nil]
  simp
/-- A row that others follow. -/
theorem run_rwM {x y z : UInt8} {r : Nat} {x0 y0 z0 : UInt8} (h o) (hx : digB 0 x = true) (hy : digB 1 y = true) (hz : digB 2 z = true) (hr : 0 < r → x = x0 ∧ y = y0 ∧ z = z0) (hr2 : r + 1 < 64) (t : List UInt8) (ht : txtB t = true) (hl : t.length ≤ 506) :
    Sr.run ⟨⟨r, x0, y0, z0, 0, false, false⟩, h, o, false⟩ (rwM [x, y, z] t) = ⟨⟨r + 1, x, y, z, 0, false, false⟩, h ++ rwM [x, y, z] t, o, false⟩ := by
  have s1 : stepP ⟨r, x, y, z, 3, false, false⟩ 45 = (⟨r, x, y, z, 4, true, false⟩, 0) := by
    unfold stepP
    rw [if_neg (by simp), if_neg (fun e => absurd e.1 (by decide)), if_pos (by unfold fitB; rw [if_neg (by simp), if_pos rfl]; simpa using hr2)]
    rfl
  have s2 : ∀ n, 4 ≤ n → stepP ⟨r, x, y, z, n, true, false⟩ 13 = (⟨r, x, y, z, n, true, true⟩, 0) := fun n hn => by
    unfold stepP
    rw [if_neg (by simp), if_pos ⟨rfl, by show 3 ≤ n; omega⟩]
  have s3 : ∀ n, stepP ⟨r, x, y, z, n, true, true⟩ 10 = (⟨r + 1, x, y, z, 0, false, false⟩, 0) := fun n => rfl
  unfold rwM
  rw [run_append, run_cd h o hx hy hz hr, run_cons, on_go rfl s1, run_append, run_tx t _ rfl rfl (Nat.le_refl 4) (by show 4 + t.length ≤ 510; omega) ht, run_cons, on_go rfl (s2 _ (by show 4 ≤ 4 + t.length; omega)), run_cons, on_go rfl (s3 _), run_nil]
  simp
/-- The last row. -/
theorem run_rwE {x y z : UInt8} {r : Nat} {x0 y0 z0 : UInt8} (h o) (hx : digB 0 x = true) (hy : digB 1 y = true) (hz : digB 2 z = true) (hr : 0 < r → x = x0 ∧ y = y0 ∧ z = z0) (u : List UInt8) (b : Bool) (ht : txtB u = true) (hl : u.length ≤ 506) :
    Sr.run ⟨⟨r, x0, y0, z0, 0, false, false⟩, h, o, false⟩ (rwE [x, y, z] u b) = ⟨Plc.nil, [], o ++ [repOf (h ++ rwE [x, y, z] u b)], false⟩ := by
  have s1 : stepP ⟨r, x, y, z, 3, false, false⟩ 32 = (⟨r, x, y, z, 4, false, false⟩, 0) := by
    unfold stepP
    rw [if_neg (by simp), if_neg (fun e => absurd e.1 (by decide)), if_pos (by unfold fitB; rw [if_neg (by simp), if_pos rfl]; rfl)]
    rfl
  have s2 : ∀ n, 3 ≤ n → stepP ⟨r, x, y, z, n, false, false⟩ 13 = (⟨r, x, y, z, n, false, true⟩, 0) := fun n hn => by
    unfold stepP
    rw [if_neg (by simp), if_pos ⟨rfl, hn⟩]
  have s3 : ∀ n, stepP ⟨r, x, y, z, n, false, true⟩ 10 = (Plc.nil, 1) := fun n => rfl
  have s4 : ∀ n k, Sr.on ⟨⟨r, x, y, z, n, false, true⟩, k, o, false⟩ 10 = ⟨Plc.nil, [], o ++ [repOf (k ++ [10])], false⟩ := fun n k => by
    unfold Sr.on
    rw [if_neg (by simp), s3 n, if_neg (by simp), if_pos rfl]
  unfold rwE
  cases b with
  | false =>
    rw [run_append, run_cd h o hx hy hz hr]
    simp only [Bool.false_eq_true, if_false, List.nil_append]
    rw [run_cons, on_go rfl (s2 _ (by decide)), run_cons, s4, run_nil]
    simp
  | true =>
    rw [run_append, run_cd h o hx hy hz hr]
    simp only [if_true, List.cons_append]
    rw [run_cons, on_go rfl s1, run_append, run_tx u _ rfl rfl (Nat.le_refl 4) (by show 4 + u.length ≤ 510; omega) ht, run_cons, on_go rfl (s2 _ (by show 3 ≤ 4 + u.length; omega)), run_cons, s4, run_nil]
    simp
theorem run_rows {x y z : UInt8} (hx : digB 0 x = true) (hy : digB 1 y = true) (hz : digB 2 z = true) : ∀ (ts : List (List UInt8)) (r : Nat) (x0 y0 z0 : UInt8) (h : List UInt8) (o : List Ry), (0 < r → x = x0 ∧ y = y0 ∧ z = z0) → r + ts.length < 64 → (∀ t ∈ ts, txtB t = true ∧ t.length ≤ 506) →
    ∃ x1 y1 z1, Sr.run ⟨⟨r, x0, y0, z0, 0, false, false⟩, h, o, false⟩ (ts.flatMap (rwM [x, y, z])) = ⟨⟨r + ts.length, x1, y1, z1, 0, false, false⟩, h ++ ts.flatMap (rwM [x, y, z]), o, false⟩ ∧ (0 < r + ts.length → x = x1 ∧ y = y1 ∧ z = z1)
  | [], r, x0, y0, z0, h, o, hr, hl, ht => ⟨x0, y0, z0, by simp [run_nil], hr⟩
  | t :: ts, r, x0, y0, z0, h, o, hr, hl, ht => by
    simp only [List.length_cons] at hl
    obtain ⟨x1, y1, z1, h1, h2⟩ := run_rows hx hy hz ts (r + 1) x y z (h ++ rwM [x, y, z] t) o (fun _ => ⟨rfl, rfl, rfl⟩) (by omega) (fun t' h' => ht t' (by simp [h']))
    refine ⟨x1, y1, z1, ?_, fun h0 => h2 (by omega)⟩
    rw [List.flatMap_cons, run_append, run_rwM h o hx hy hz hr (by omega) t (ht t (by simp)).1 (ht t (by simp)).2, h1, List.length_cons, List.append_assoc, show r + 1 + ts.length = r + (ts.length + 1) by omega]
/-- A reply's bytes, read. -/
theorem run_rp {cd : List UInt8} (hc : cdOk cd) (ts : List (List UInt8)) (u : List UInt8) (b : Bool) (hl : ts.length < 64) (ht : ∀ t ∈ ts, txtB t = true ∧ t.length ≤ 506) (hu : txtB u = true) (hul : u.length ≤ 506) (o : List Ry) :
    Sr.run ⟨Plc.nil, [], o, false⟩ (rpL cd ts u b) = ⟨Plc.nil, [], o ++ [repOf (rpL cd ts u b)], false⟩ := by
  obtain ⟨x, y, z, rfl, hx, hy, hz⟩ := hc
  obtain ⟨x1, y1, z1, h1, h2⟩ := run_rows hx hy hz ts 0 0 0 0 [] o (fun h => absurd h (by decide)) (by omega) ht
  unfold rpL
  rw [run_append, show Plc.nil = ⟨0, 0, 0, 0, 0, false, false⟩ from rfl, h1, run_rwE _ _ hx hy hz h2 u b hu hul, List.nil_append]
  rfl
end Go.Proofs.YtbfgefgadplcjaaDoor
