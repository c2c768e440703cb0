/-
  The document's row of words, taken greedily: the plain part.
-/
import Derived.Test.YtdgepnfgjgbkoaaDoorBkP
import Derived.Test.YtdgepnfgjgbkoaaDoorUtfE
import Derived.Test.YtdgepnfgjgbkoaaDoorGrown
import Derived.Test.YtdgepnfgjgbkoaaDoorChk2
namespace Go.Proofs.YtdgepnfgjgbkoaaDoor

theorem wrd_len12 (q : Bool) (b : List UInt8) : (wrd q b).length = 12 + (txW q b).length := by
  unfold wrd
  simp only [List.length_append, List.length_cons, List.length_nil]
  omega
/-- A word is short enough where its bytes have room. -/
theorem fit_room (q : Bool) (b : List UInt8) : (wrd q b).length ≤ 75 ↔ coW q b ≤ roW q := by
  rw [wrd_len12]
  unfold txW coW roW
  cases q
  · simp only [Bool.false_eq_true, if_false]
    rw [e64L_len]
    omega
  · simp only [if_true]
    omega
/-- How many runes more a word takes. -/
def tkN (q : Bool) : List UInt8 → List Int → Nat
  | _, [] => 0
  | B, r :: rs => if (wrd q (B ++ Lib.encodeRune r)).length ≤ 75 then tkN q (B ++ Lib.encodeRune r) rs + 1 else 0
theorem tkN_cons (q : Bool) (B : List UInt8) (r : Int) (rs : List Int) : tkN q B (r :: rs) = if (wrd q (B ++ Lib.encodeRune r)).length ≤ 75 then tkN q (B ++ Lib.encodeRune r) rs + 1 else 0 := rfl
theorem encL_cons (r : Int) (rs : List Int) : encL (r :: rs) = Lib.encodeRune r ++ encL rs := by simp [encL]
theorem encL_app (a b : List Int) : encL (a ++ b) = encL a ++ encL b := by simp [encL]
theorem wrS_tk (q : Bool) : ∀ (rs : List Int) (B : List UInt8), B ≠ [] → wrS q B rs = wrd q (B ++ encL (rs.take (tkN q B rs))) :: wrS q [] (rs.drop (tkN q B rs))
  | [], B, h => by
    rw [wrS, if_neg h, tkN]
    simp [encL, wrS]
  | r :: rs, B, h => by
    have hf := fit_room q (B ++ Lib.encodeRune r)
    rw [coW_app] at hf
    rw [wrS, tkN_cons]
    by_cases hc : roW q < coW q B + coW q (Lib.encodeRune r)
    · rw [if_pos hc, if_neg (fun h => by have := hf.1 h; omega)]
      have h0 := coW_rune q r
      rw [List.take_zero, List.drop_zero, wrS, if_neg (by rw [coW_nil]; omega)]
      simp [encL]
    · rw [if_neg hc, if_pos (hf.2 (by omega)), wrS_tk q rs _ (by simp [h]), List.take_succ_cons, List.drop_succ_cons, encL_cons, List.append_assoc]
/-- The first word of a row of runes. -/
theorem wrS_first (q : Bool) (l : List Int) (h : l ≠ []) : wrS q [] l = wrd q (encL (l.take (tkN q [] l))) :: wrS q [] (l.drop (tkN q [] l)) ∧ 1 ≤ tkN q [] l := by
  match l, h with
  | r :: rs, _ =>
    have h0 := coW_rune q r
    have hf := fit_room q ([] ++ Lib.encodeRune r)
    rw [coW_app, coW_nil] at hf
    have hp := (encR_len r).1
    rw [wrS, if_neg (by rw [coW_nil]; omega), tkN_cons, if_pos (hf.2 (by omega))]
    refine ⟨?_, by omega⟩
    rw [wrS_tk q rs _ (by intro e; rw [List.nil_append] at e; rw [e] at hp; simp at hp), List.take_succ_cons, List.drop_succ_cons, encL_cons, List.nil_append]
theorem tkN_le (q : Bool) : ∀ (rs : List Int) (B : List UInt8), tkN q B rs ≤ rs.length
  | [], _ => Nat.le_refl _
  | r :: rs, B => by
    rw [tkN_cons]
    have := tkN_le q rs (B ++ Lib.encodeRune r)
    split
    · simp only [List.length_cons]; omega
    · omega
/-- A step of the document's loop. -/
theorem tkN_step (q : Bool) (l : List Int) (k : Nat) (hk : k < l.length) : tkN q (encL (l.take k)) (l.drop k) = if (wrd q (encL (l.take k) ++ Lib.encodeRune l[k])).length ≤ 75 then tkN q (encL (l.take (k + 1))) (l.drop (k + 1)) + 1 else 0 := by
  have h1 : encL [l[k]] = Lib.encodeRune l[k] := by simp [encL]
  rw [List.drop_eq_getElem_cons hk, tkN_cons, List.take_succ_eq_append_getElem hk, encL_app, h1]
theorem encL_len (l : List Int) : (encL l).length ≤ 4 * l.length := by
  induction l with
  | nil => simp [encL]
  | cons r t ih =>
    rw [encL_cons, List.length_append, List.length_cons]
    have := (encR_len r).2
    omega
theorem jn_cons (w : List UInt8) (L : List (List UInt8)) : jnW (w :: L) = if L = [] then w else w ++ 32 :: jnW L := by
  cases L with
  | nil => rfl
  | cons x t => rfl
theorem jn_nil (q : Bool) (l : List Int) : jnW (wrS q [] l) = [] ↔ wrS q [] l = [] := by
  refine ⟨fun h => ?_, fun h => by rw [h]; rfl⟩
  by_cases hb : bsS q [] l = []
  · rw [wrS_bs, hb]; rfl
  · have := jn_pos (L := (bsS q [] l).map (wrd q)) (by simpa using hb) (fun x hx => by obtain ⟨b, _, rfl⟩ := List.mem_map.1 hx; exact wrd_pos q b)
    rw [← wrS_bs, h] at this
    simp at this
theorem bs_cntW (q : Bool) : ∀ (rs : List Int) (b : List UInt8), (bsS q b rs).length ≤ rs.length + 1
  | [], b => by unfold bsS; split <;> simp
  | r :: rs, b => by
    unfold bsS
    split
    · have := bs_cntW q rs (Lib.encodeRune r); simp only [List.length_cons]; omega
    · have := bs_cntW q rs (b ++ Lib.encodeRune r); simp only [List.length_cons]; omega
theorem jn_wlen (q : Bool) (l : List Int) (hr : ∀ r ∈ l, isR r) : (jnW (wrS q [] l)).length ≤ 76 * (l.length + 1) := by
  have h1 := bs_cntW q l []
  have h3 := jn_len ((bsS q [] l).map (wrd q)) (fun x hx => by
    obtain ⟨b, hb, rfl⟩ := List.mem_map.1 hx
    exact wrd_len q b (bs_good q l [] hr (fun _ h => by cases h) (by show coW q [] ≤ _; rw [coW_nil]; exact Nat.zero_le _) b hb).2)
  rw [wrS_bs]
  rw [List.length_map] at h3
  omega
/-- A row: its first word, and the others behind a blank. -/
theorem jn_first (q : Bool) (l : List Int) (h : l ≠ []) : jnW (wrS q [] l) = wrd q (encL (l.take (tkN q [] l))) ++ (if jnW (wrS q [] (l.drop (tkN q [] l))) = [] then [] else 32 :: jnW (wrS q [] (l.drop (tkN q [] l)))) := by
  rw [(wrS_first q l h).1, jn_cons]
  by_cases hL : wrS q [] (l.drop (tkN q [] l)) = []
  · rw [if_pos hL, if_pos ((jn_nil q _).2 hL), List.append_nil]
  · rw [if_neg hL, if_neg (fun e => hL ((jn_nil q _).1 e))]
end Go.Proofs.YtdgepnfgjgbkoaaDoor
/-
  The document's reading of a rune: the rune whose bytes these are.
-/
namespace Go.Proofs.YtdgepnfgjgbkoaaDoor

/-- What the first byte of n has at its top. -/
def leadN (n : Nat) : Int := if n = 2 then 192 else if n = 3 then 224 else if n = 4 then 240 else 0
def addX (x : Int) (c : UInt8) : Int := 64 * x + (c.toNat : Int) - 128
/-- The number that bytes make. -/
def mkX : List UInt8 → Int
  | [] => 0
  | c :: t => t.foldl addX ((c.toNat : Int) - leadN (t.length + 1))
/-- Are bytes those of a rune? -/
def okX (b : List UInt8) : Prop := isR (mkX b) ∧ Lib.encodeRune (mkX b) = b
instance (b : List UInt8) : Decidable (okX b) := by unfold okX; infer_instance
theorem mkX_enc (r : Int) (h : isR r) : mkX (Lib.encodeRune r) = r := by
  obtain ⟨h0, h1, h2⟩ := h
  unfold Lib.encodeRune
  by_cases c1 : r ≤ 127
  · rw [Lib.encodeRuneZ_one h0 c1]
    simp only [List.map_cons, List.map_nil, mkX, List.foldl_nil, List.length_nil, leadN, u8_of r h0 (by omega)]
    simp
    omega
  by_cases c2 : r ≤ 2047
  · rw [Lib.encodeRuneZ_two (by omega) c2]
    have a1 := u8_of (192 + r / 64) (by omega) (by omega)
    have a2 := u8_of (128 + r % 64) (by omega) (by omega)
    simp only [List.map_cons, List.map_nil, mkX, List.foldl_cons, List.foldl_nil, List.length_cons, List.length_nil, addX, a1, a2, leadN]
    simp
    omega
  by_cases c3 : r ≤ 65535
  · rw [Lib.encodeRuneZ_three (by omega)]
    have a1 := u8_of (224 + r / 4096) (by omega) (by omega)
    have a2 := u8_of (128 + r / 64 % 64) (by omega) (by omega)
    have a3 := u8_of (128 + r % 64) (by omega) (by omega)
    simp only [List.map_cons, List.map_nil, mkX, List.foldl_cons, List.foldl_nil, List.length_cons, List.length_nil, addX, a1, a2, a3, leadN]
    simp
    omega
  · rw [Lib.encodeRuneZ_four (by omega) (by omega)]
    have a1 := u8_of (240 + r / 262144) (by omega) (by omega)
    have a2 := u8_of (128 + r / 4096 % 64) (by omega) (by omega)
    have a3 := u8_of (128 + r / 64 % 64) (by omega) (by omega)
    have a4 := u8_of (128 + r % 64) (by omega) (by omega)
    simp only [List.map_cons, List.map_nil, mkX, List.foldl_cons, List.foldl_nil, List.length_cons, List.length_nil, addX, a1, a2, a3, a4, leadN]
    simp
    omega
theorem okX_one {l : List UInt8} {n : Nat} (hn : n ≤ l.length) (h : okX (l.take n)) : oneN l = some (mkX (l.take n), n) := by
  obtain ⟨h1, h2⟩ := h
  have := oneN_enc (mkX (l.take n)) h1 (l.drop n)
  rw [h2, List.take_append_drop, List.length_take, Nat.min_eq_left hn] at this
  exact this
theorem one_okX {l : List UInt8} {r : Int} {n : Nat} (h : oneN l = some (r, n)) : n ≤ l.length ∧ 1 ≤ n ∧ n ≤ 4 ∧ okX (l.take n) ∧ mkX (l.take n) = r := by
  obtain ⟨h1, h2, h3⟩ := oneN_is h
  obtain ⟨h4, h5, _⟩ := oneN_run l r n h
  have e : l.take n = Lib.encodeRune r := by
    conv => lhs; rw [h3]
    rw [h2, List.take_left]
  have h6 := (Lib.runeCells_le r).2
  rw [Lib.runeCells_length] at h6
  have h7 := mkX_enc r h1
  refine ⟨h4, h5, by omega, ⟨?_, ?_⟩, by rw [e, h7]⟩
  · rw [e, h7]; exact h1
  · rw [e, h7]
theorem mkX_range (b : List UInt8) (h : b.length ≤ 4) : -100000000 ≤ mkX b ∧ mkX b ≤ 100000000 := by
  match b, h with
  | [], _ => simp [mkX]
  | [a], _ => have := a.toNat_lt; simp [mkX, leadN]; omega
  | [a, b], _ => have := a.toNat_lt; have := b.toNat_lt; simp [mkX, leadN, addX]; omega
  | [a, b, c], _ => have := a.toNat_lt; have := b.toNat_lt; have := c.toNat_lt; simp [mkX, leadN, addX]; omega
  | [a, b, c, d], _ => have := a.toNat_lt; have := b.toNat_lt; have := c.toNat_lt; have := d.toNat_lt; simp [mkX, leadN, addX]; omega
end Go.Proofs.YtdgepnfgjgbkoaaDoor
/-
  The document's Is, Write, lead and made.
-/
namespace Go.Proofs.YtdgepnfgjgbkoaaDoor
open Go.RowKit

set_option maxHeartbeats 1000000 in
set_option maxRecDepth 100000 in
theorem dis_any (r : Int) (w : World) : Calls Tryd.prog 92 #[.int .i64 r] w fun e w' => e = .returned (.bool (decide (isR r))) ∧ w' = w := by
  by_cases h1 : 0 ≤ r
  · by_cases h2 : r ≤ 1114111
    · by_cases h3 : r < 55296
      · have HR : Hid (decide (isR r) = true) := decide_eq_true ⟨h1, h2, .inl h3⟩
        go_enter Tryd.func92, Tryd.ntmps92
        go_wp2
        go_ret
        exact ⟨ret_b HR.out.symm, rfl⟩
      · by_cases h4 : 57343 < r
        · have HR : Hid (decide (isR r) = true) := decide_eq_true ⟨h1, h2, .inr h4⟩
          go_enter Tryd.func92, Tryd.ntmps92
          go_wp2
          go_ret
          exact ⟨ret_b HR.out.symm, rfl⟩
        · have HR : Hid (decide (isR r) = false) := decide_eq_false (by unfold isR; omega)
          go_enter Tryd.func92, Tryd.ntmps92
          go_wp2
          go_ret
          exact ⟨ret_b (by rw [HR.out]), rfl⟩
    · have HR : Hid (decide (isR r) = false) := decide_eq_false (by unfold isR; omega)
      go_enter Tryd.func92, Tryd.ntmps92
      go_wp2
      go_ret
      exact ⟨ret_b (by rw [HR.out]), rfl⟩
  · have HR : Hid (decide (isR r) = false) := decide_eq_false (by unfold isR; omega)
    go_enter Tryd.func92, Tryd.ntmps92
    go_wp2
    go_ret
    exact ⟨ret_b (by rw [HR.out]), rfl⟩

theorem u8c (x : Int) (h0 : 0 ≤ x) (h1 : x < 256) : x = ((x.toNat.toUInt8).toNat : Int) := by rw [u8_of x h0 h1]; omega

set_option maxHeartbeats 1000000 in
set_option maxRecDepth 100000 in
theorem dwr_any (r : Int) (h : isR r) (w : World) : Calls Tryd.prog 53 #[.int .i32 r] w fun e w' => e = .returned (.slice (some ⟨w.heap.size, 0, none⟩) (Lib.encodeRune r).length (Lib.encodeRune r).length) ∧ w' = w.alloc (.cells (rowV (Lib.encodeRune r)) 5) := by
  obtain ⟨h0, h1, h2⟩ := h
  unfold Lib.encodeRune
  by_cases c1 : r < 128
  · rw [Lib.encodeRuneZ_one h0 (by omega)]
    have e1 := u8c r h0 (by omega)
    have w1 : IntKind.u8.wrap r = r := by rw [IntKind.wrap_u8]; omega
    have HE : Hid (rowV ([r].map fun x => x.toNat.toUInt8) = #[.int .u8 r]) := by show _ = _; simp [rowV, cellsB]; omega
    have HLN : Hid (([r].map fun x => x.toNat.toUInt8).length = 1) := rfl
    generalize ([r].map fun x => x.toNat.toUInt8) = E at HE HLN ⊢
    clear e1
    go_enter Tryd.func53, Tryd.ntmps53
    go_wp2
    go_ret
    exact ⟨by rw [HLN.out]; rfl, by rw [HE.out]⟩
  by_cases c2 : r < 2048
  · rw [Lib.encodeRuneZ_two (by omega) (by omega)]
    have t1 : r.tdiv 64 = r / 64 := Int.tdiv_eq_ediv_of_nonneg h0
    have t2 : r.tmod 64 = r % 64 := Int.tmod_eq_emod_of_nonneg h0
    have w1 : IntKind.u8.wrap (192 + r / 64) = 192 + r / 64 := by rw [IntKind.wrap_u8]; omega
    have w2 : IntKind.u8.wrap (128 + r % 64) = 128 + r % 64 := by rw [IntKind.wrap_u8]; omega
    have HE : Hid (rowV ([192 + r / 64, 128 + r % 64].map fun x => x.toNat.toUInt8) = #[.int .u8 (192 + r / 64), .int .u8 (128 + r % 64)]) := by show _ = _; simp [rowV, cellsB]; omega
    have HLN : Hid (([192 + r / 64, 128 + r % 64].map fun x => x.toNat.toUInt8).length = 2) := rfl
    generalize ([192 + r / 64, 128 + r % 64].map fun x => x.toNat.toUInt8) = E at HE HLN ⊢
    go_enter Tryd.func53, Tryd.ntmps53
    go_wp2
    go_ret
    exact ⟨by rw [HLN.out]; rfl, by rw [HE.out]⟩
  by_cases c3 : r < 65536
  · rw [Lib.encodeRuneZ_three (by omega)]
    have t1 : r.tdiv 64 = r / 64 := Int.tdiv_eq_ediv_of_nonneg h0
    have t2 : r.tmod 64 = r % 64 := Int.tmod_eq_emod_of_nonneg h0
    have t3 : r.tdiv 4096 = r / 4096 := Int.tdiv_eq_ediv_of_nonneg h0
    have t4 : (r / 64).tmod 64 = r / 64 % 64 := Int.tmod_eq_emod_of_nonneg (by omega)
    have w1 : IntKind.u8.wrap (224 + r / 4096) = 224 + r / 4096 := by rw [IntKind.wrap_u8]; omega
    have w2 : IntKind.u8.wrap (128 + r / 64 % 64) = 128 + r / 64 % 64 := by rw [IntKind.wrap_u8]; omega
    have w3 : IntKind.u8.wrap (128 + r % 64) = 128 + r % 64 := by rw [IntKind.wrap_u8]; omega
    have HE : Hid (rowV ([224 + r / 4096, 128 + r / 64 % 64, 128 + r % 64].map fun x => x.toNat.toUInt8) = #[.int .u8 (224 + r / 4096), .int .u8 (128 + r / 64 % 64), .int .u8 (128 + r % 64)]) := by show _ = _; simp [rowV, cellsB]; omega
    have HLN : Hid (([224 + r / 4096, 128 + r / 64 % 64, 128 + r % 64].map fun x => x.toNat.toUInt8).length = 3) := rfl
    generalize ([224 + r / 4096, 128 + r / 64 % 64, 128 + r % 64].map fun x => x.toNat.toUInt8) = E at HE HLN ⊢
    go_enter Tryd.func53, Tryd.ntmps53
    go_wp2
    go_ret
    exact ⟨by rw [HLN.out]; rfl, by rw [HE.out]⟩
  · rw [Lib.encodeRuneZ_four (by omega) (by omega)]
    have t1 : r.tdiv 64 = r / 64 := Int.tdiv_eq_ediv_of_nonneg h0
    have t2 : r.tmod 64 = r % 64 := Int.tmod_eq_emod_of_nonneg h0
    have t3 : r.tdiv 4096 = r / 4096 := Int.tdiv_eq_ediv_of_nonneg h0
    have t4 : (r / 64).tmod 64 = r / 64 % 64 := Int.tmod_eq_emod_of_nonneg (by omega)
    have t5 : r.tdiv 262144 = r / 262144 := Int.tdiv_eq_ediv_of_nonneg h0
    have t6 : (r / 4096).tmod 64 = r / 4096 % 64 := Int.tmod_eq_emod_of_nonneg (by omega)
    have w1 : IntKind.u8.wrap (240 + r / 262144) = 240 + r / 262144 := by rw [IntKind.wrap_u8]; omega
    have w2 : IntKind.u8.wrap (128 + r / 4096 % 64) = 128 + r / 4096 % 64 := by rw [IntKind.wrap_u8]; omega
    have w3 : IntKind.u8.wrap (128 + r / 64 % 64) = 128 + r / 64 % 64 := by rw [IntKind.wrap_u8]; omega
    have w4 : IntKind.u8.wrap (128 + r % 64) = 128 + r % 64 := by rw [IntKind.wrap_u8]; omega
    have HE : Hid (rowV ([240 + r / 262144, 128 + r / 4096 % 64, 128 + r / 64 % 64, 128 + r % 64].map fun x => x.toNat.toUInt8) = #[.int .u8 (240 + r / 262144), .int .u8 (128 + r / 4096 % 64), .int .u8 (128 + r / 64 % 64), .int .u8 (128 + r % 64)]) := by show _ = _; simp [rowV, cellsB]; omega
    have HLN : Hid (([240 + r / 262144, 128 + r / 4096 % 64, 128 + r / 64 % 64, 128 + r % 64].map fun x => x.toNat.toUInt8).length = 4) := rfl
    generalize ([240 + r / 262144, 128 + r / 4096 % 64, 128 + r / 64 % 64, 128 + r % 64].map fun x => x.toNat.toUInt8) = E at HE HLN ⊢
    go_enter Tryd.func53, Tryd.ntmps53
    go_wp2
    go_ret
    exact ⟨by rw [HLN.out]; rfl, by rw [HE.out]⟩

set_option maxHeartbeats 1000000 in
set_option maxRecDepth 100000 in
theorem dlead_any (n : Nat) (hn : n ≤ 4) (w : World) : Calls Tryd.prog 91 #[.int .i64 n] w fun e w' => e = .returned (.int .i64 (leadN n)) ∧ w' = w.alloc (.cells #[.int .i64 0, .int .i64 0, .int .i64 192, .int .i64 224, .int .i64 240] 3) := by
  match n, hn with
  | 0, _ => go_enter Tryd.func91, Tryd.ntmps91; go_wp2; go_ret; exact ⟨rfl, rfl⟩
  | 1, _ => go_enter Tryd.func91, Tryd.ntmps91; go_wp2; go_ret; exact ⟨rfl, rfl⟩
  | 2, _ => go_enter Tryd.func91, Tryd.ntmps91; go_wp2; go_ret; exact ⟨rfl, rfl⟩
  | 3, _ => go_enter Tryd.func91, Tryd.ntmps91; go_wp2; go_ret; exact ⟨rfl, rfl⟩
  | 4, _ => go_enter Tryd.func91, Tryd.ntmps91; go_wp2; go_ret; exact ⟨rfl, rfl⟩
end Go.Proofs.YtdgepnfgjgbkoaaDoor
/-
  The document's Encode.
-/
namespace Go.Proofs.YtdgepnfgjgbkoaaDoor
open Go.RowKit

theorem bts_new (w : World) (l : List UInt8) : Bts (some ⟨w.heap.size, 0, none⟩) l (w.alloc (.cells (rowV l) 5)) := by
  refine .inr ⟨w.heap.size, 0, rfl, by simp, fun j hj => ?_⟩
  rw [Nat.zero_add, (Lies.new w (rowV l) 5).cell j, rowV_at l j hj]
end Go.Proofs.YtdgepnfgjgbkoaaDoor
