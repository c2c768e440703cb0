/-
  Punycode read backwards, as a recursion over the bytes: what both sides reckon.
-/
import Derived.Test.YtnlgbopdbihnjaaGreatDoorROrdP
import Derived.Test.YtnlgbopdbihnjaaGreatDoorDmP
import Derived.Test.YtnlgbopdbihnjaaGreatDoorREnc
namespace Go.Proofs.YtnlgbopdbihnjaaGreatDoor

/-- What a byte says as a digit. -/
def wth (b : UInt8) : Option Nat :=
  if 48 ≤ b.toNat ∧ b.toNat ≤ 57 then some (b.toNat - 48 + 26)
  else if 97 ≤ b.toNat ∧ b.toNat ≤ 122 then some (b.toNat - 97)
  else if 65 ≤ b.toNat ∧ b.toNat ≤ 90 then some (b.toNat - 65)
  else none
theorem wth_lt {b : UInt8} {v : Nat} (h : wth b = some v) : v < 36 := by
  unfold wth at h
  split at h
  · injection h with h; omega
  · split at h
    · injection h with h; omega
    · split at h
      · injection h with h; omega
      · cases h
/-- A step is read: an error and its place, or the step and the place behind it. -/
def rdS (bias : Nat) : List UInt8 → Nat → Nat → Nat → Nat → (Nat × Nat) ⊕ (Nat × Nat)
  | [], _, at', _, _ => .inl (51, at')
  | b :: t, i, at', sum, wt => match wth b with
    | none => .inl (51, at')
    | some v =>
      if 2147483647 < sum + v * wt then .inl (52, at')
      else if v < bnd i bias then .inr (sum + v * wt, at' + 1)
      else rdS bias t (i + 1) (at' + 1) (sum + v * wt) (wt * (36 - bnd i bias))
theorem rdS_some {bias : Nat} : ∀ {l : List UInt8} {i at' sum wt s b : Nat}, rdS bias l i at' sum wt = .inr (s, b) → at' < b ∧ b ≤ at' + l.length ∧ s ≤ 2147483647
  | [], _, _, _, _, _, _, h => by simp [rdS] at h
  | c :: t, i, at', sum, wt, s, b, h => by
    unfold rdS at h
    split at h
    · cases h
    · rename_i v hv
      split at h
      · cases h
      · split at h
        · injection h with h
          injection h with h1 h2
          simp only [List.length_cons]
          omega
        · have := rdS_some h
          simp only [List.length_cons]
          omega
/-- The last mark ahead of a place; below 0: none. -/
def lastI (l : List UInt8) : Nat → Int
  | 0 => -1
  | k + 1 => if l[k]? = some 45 then k else lastI l k
theorem lastI_lt (l : List UInt8) : ∀ k, lastI l k < k ∧ -1 ≤ lastI l k
  | 0 => by simp [lastI]
  | k + 1 => by
    have := lastI_lt l k
    unfold lastI
    split <;> omega
/-- How many bytes stand ahead of the mark, and where the digits begin. -/
def mrkN (l : List UInt8) : Nat := if 0 < lastI l l.length then (lastI l l.length).toNat else 0
def mrkS (l : List UInt8) : Nat := if 0 < lastI l l.length then (lastI l l.length).toNat + 1 else 0
theorem mrkN_le (l : List UInt8) : mrkN l ≤ l.length := by
  have := lastI_lt l l.length
  unfold mrkN
  split <;> omega
theorem mrkS_le (l : List UInt8) : mrkS l ≤ l.length := by
  have := lastI_lt l l.length
  unfold mrkS
  split <;> omega
/-- The wide runes and their places, from a place on. -/
def unL (l : List UInt8) : Nat → Nat → Int → Nat → Nat → Nat → Bool → (Nat × Nat) ⊕ List (Int × Nat)
  | 0, _, _, _, _, _, _ => .inr []
  | fuel + 1, at', n, i, h, bias, first =>
    if l.length ≤ at' then .inr []
    else match rdS bias (l.drop at') 0 at' 0 1 with
      | .inl e => .inl e
      | .inr (s, b) =>
        if isR (n + ((i + s) / (h + 1) : Nat)) then
          match unL l fuel b (n + ((i + s) / (h + 1) : Nat)) ((i + s) % (h + 1) + 1) (h + 1) (biasB s (h + 1) first) false with
          | .inl e => .inl e
          | .inr ps => .inr ((n + ((i + s) / (h + 1) : Nat), (i + s) % (h + 1)) :: ps)
        else .inl (50, b - 1)
/-- The first byte that is not below 128. -/
def hiN : List UInt8 → Nat
  | [] => 0
  | b :: t => if b.toNat < 128 then hiN t + 1 else 0
theorem hiN_le (l : List UInt8) : hiN l ≤ l.length := by
  induction l with
  | nil => exact Nat.le_refl _
  | cons b t ih => simp only [hiN]; split <;> simp <;> omega
/-- Wide runes are put to their places, one behind the other. -/
def insAll (base : List Int) (ps : List (Int × Nat)) : List Int := ps.foldl (fun L x => L.insertIdx x.2 x.1) base
/-- Each place is within the list as it is by then. -/
def PsOk (h : Nat) : List (Int × Nat) → Prop
  | [] => True
  | x :: t => x.2 ≤ h ∧ 128 ≤ x.1 ∧ x.1 ≤ 1114111 ∧ PsOk (h + 1) t
def lowR (l : List UInt8) : List Int := l.map fun b => (b.toNat : Int)
/-- What Unpuny tells. -/
def unpD (l : List UInt8) : (Nat × Nat) ⊕ List (Int × Nat) := unL l l.length (mrkS l) 128 0 (mrkN l) 72 true
def unpT (l : List UInt8) : List Int := if hiN (l.take (mrkN l)) < mrkN l then [] else match unpD l with
  | .inl _ => []
  | .inr ps => insAll (lowR (l.take (mrkN l))) ps
def unpE (l : List UInt8) : Nat × Nat := if hiN (l.take (mrkN l)) < mrkN l then (51, hiN (l.take (mrkN l))) else match unpD l with
  | .inl e => e
  | .inr _ => (0, 0)
theorem unL_ok (l : List UInt8) : ∀ (fuel at' : Nat) (n : Int) (i h bias : Nat) (first : Bool) (ps : List (Int × Nat)), 128 ≤ n → unL l fuel at' n i h bias first = .inr ps → PsOk h ps ∧ ps.length ≤ l.length - at'
  | 0, at', n, i, h, bias, first, ps, hn, e => by
    simp only [unL] at e
    injection e with e
    subst e
    exact ⟨trivial, by simp⟩
  | fuel + 1, at', n, i, h, bias, first, ps, hn, e => by
    unfold unL at e
    split at e
    · injection e with e
      subst e
      exact ⟨trivial, by simp⟩
    · rename_i hlt
      split at e
      · cases e
      · rename_i s b hr
        split at e
        · rename_i hR
          split at e
          · cases e
          · rename_i ps' hu
            injection e with e
            subst e
            have h1 := rdS_some hr
            have hD : (0 : Int) ≤ (((i + s) / (h + 1) : Nat) : Int) := Int.natCast_nonneg _
            have hM := Nat.mod_lt (i + s) (show 0 < h + 1 by omega)
            generalize (i + s) / (h + 1) = D at *
            generalize (i + s) % (h + 1) = M at *
            obtain ⟨h2, h3⟩ := unL_ok l fuel b _ _ _ _ _ _ (by omega) hu
            rw [List.length_drop] at h1
            refine ⟨⟨?_, by simp only; omega, hR.2.1, h2⟩, ?_⟩
            · simp only
              omega
            · simp only [List.length_cons]
              omega
        · cases e
end Go.Proofs.YtnlgbopdbihnjaaGreatDoor
/-
  The program's counter of Punycode: the bias, the bounds and the digits of a step.
-/
namespace Go.Proofs.YtnlgbopdbihnjaaGreatDoor
open Go.RowKit

set_option maxHeartbeats 1000000 in
set_option maxRecDepth 100000 in
theorem bound_any (i bias : Nat) (hi : i ≤ 4294967296) (hb : bias ≤ 8589934592) (w : World) :
    Calls Tryz.prog 168 #[.int .i64 i, .int .i64 bias] w fun e w' => e = .returned (.int .i64 (bnd i bias)) ∧ w' = w := by
  have HB : Hid ((bnd i bias : Int) = min (max (36 * ((i : Int) + 1) - bias) 1) 26) := by
    show _ = _
    unfold bnd
    omega
  have hw : IntKind.i64.wrap (36 * ((i : Int) + 1) - bias) = 36 * ((i : Int) + 1) - bias := by rw [IntKind.wrap_i64]; omega
  go_enter Tryz.func168, Tryz.ntmps168
  go_wp2
  go_ret
  refine ⟨ret_i64 ?_, rfl⟩
  rw [HB.out]

set_option maxHeartbeats 1000000 in
set_option maxRecDepth 100000 in
theorem biasb_any (s h : Nat) (first : Bool) (hs : s ≤ 2147483647) (h0 : 0 < h) (hh : h ≤ 4294967296) (w : World) :
    Calls Tryz.prog 170 #[.int .i64 s, .int .i64 h, .bool first] w fun e w' => e = .returned (.int .i64 (biasB s h first)) ∧ w' = w := by
  have q2 : (s : Int).tdiv 2 = ((s / 2 : Nat) : Int) := by rw [Int.tdiv_eq_ediv_of_nonneg (by omega)]; omega
  have q7 : (s : Int).tdiv 700 = ((s / 700 : Nat) : Int) := by rw [Int.tdiv_eq_ediv_of_nonneg (by omega)]; omega
  have HB : Hid (biasB s h first = biasL ((if first then s / 700 else s / 2) + (if first then s / 700 else s / 2) / h) 0) := rfl
  generalize hB : biasB s h first = B at HB ⊢
  clear hB
  cases first
  · simp only [Bool.false_eq_true, if_false] at HB
    have hd2 : s / 2 ≤ 2147483647 := by omega
    generalize s / 2 = d at HB q2 hd2
    have qh : (d : Int).tdiv h = ((d / h : Nat) : Int) := by rw [Int.tdiv_eq_ediv_of_nonneg (by omega), Int.natCast_ediv]
    have hdh := Nat.div_le_self d h
    generalize d / h = dh at HB qh hdh
    go_enter Tryz.func170, Tryz.ntmps170
    go_wp2
    go_loop [7, 8] (fun dv kv => ∃ x k : Nat, dv = .int .i64 x ∧ kv = .int .i64 k ∧ x ≤ 4294967296 ∧ k + 36 * x ≤ 154618822656 ∧ Hid (B = biasL x k)) (fun dv _ => (intOf dv).toNat)
    case atStart => exact ⟨d + dh, 0, by go_num, rfl, by omega, by omega, HB⟩
    case round =>
      obtain ⟨x, k, rfl, rfl, hx, hk, HX⟩ := hrel
      by_cases hl : 455 < x
      · have q35 : (x : Int).tdiv 35 = ((x / 35 : Nat) : Int) := by rw [Int.tdiv_eq_ediv_of_nonneg (by omega)]; omega
        have HX2 : Hid (B = biasL (x / 35) (k + 36)) := by show _ = _; rw [HX.out, biasL_go hl]
        have hx35 : x / 35 < x := by omega
        have hk35 : k + 36 + 36 * (x / 35) ≤ 154618822656 := by omega
        generalize x / 35 = y at q35 HX2 hx35 hk35
        go_wp2
        go_round
        case rel => exact ⟨y, k + 36, by first | rfl | go_num, by go_num, by omega, hk35, HX2⟩
        case measure => simp [intOf]; omega
      · have qe : (36 * (x : Int)).tdiv ((x : Int) + 38) = ((36 * x / (x + 38) : Nat) : Int) := by rw [Int.tdiv_eq_ediv_of_nonneg (by omega), Int.natCast_ediv]; push_cast; rfl
        have HX2 : Hid (B = k + 36 * x / (x + 38)) := by show _ = _; rw [HX.out, biasL_end hl]
        have hle : 36 * x / (x + 38) ≤ 36 * x := Nat.div_le_self _ _
        generalize 36 * x / (x + 38) = y at qe HX2 hle
        go_wp2
        go_ret
        exact ⟨ret_i64 (by rw [HX2.out]; push_cast; rfl), rfl⟩
  · simp only [if_true] at HB
    have hd2 : s / 700 ≤ 2147483647 := by omega
    generalize s / 700 = d at HB q7 hd2
    have qh : (d : Int).tdiv h = ((d / h : Nat) : Int) := by rw [Int.tdiv_eq_ediv_of_nonneg (by omega), Int.natCast_ediv]
    have hdh := Nat.div_le_self d h
    generalize d / h = dh at HB qh hdh
    have hs2 : s / 2 ≤ 2147483647 := by omega
    generalize s / 2 = d2 at q2 hs2
    go_enter Tryz.func170, Tryz.ntmps170
    go_wp2
    go_loop [7, 8] (fun dv kv => ∃ x k : Nat, dv = .int .i64 x ∧ kv = .int .i64 k ∧ x ≤ 4294967296 ∧ k + 36 * x ≤ 154618822656 ∧ Hid (B = biasL x k)) (fun dv _ => (intOf dv).toNat)
    case atStart => exact ⟨d + dh, 0, by go_num, rfl, by omega, by omega, HB⟩
    case round =>
      obtain ⟨x, k, rfl, rfl, hx, hk, HX⟩ := hrel
      by_cases hl : 455 < x
      · have q35 : (x : Int).tdiv 35 = ((x / 35 : Nat) : Int) := by rw [Int.tdiv_eq_ediv_of_nonneg (by omega)]; omega
        have HX2 : Hid (B = biasL (x / 35) (k + 36)) := by show _ = _; rw [HX.out, biasL_go hl]
        have hx35 : x / 35 < x := by omega
        have hk35 : k + 36 + 36 * (x / 35) ≤ 154618822656 := by omega
        generalize x / 35 = y at q35 HX2 hx35 hk35
        go_wp2
        go_round
        case rel => exact ⟨y, k + 36, by first | rfl | go_num, by go_num, by omega, hk35, HX2⟩
        case measure => simp [intOf]; omega
      · have qe : (36 * (x : Int)).tdiv ((x : Int) + 38) = ((36 * x / (x + 38) : Nat) : Int) := by rw [Int.tdiv_eq_ediv_of_nonneg (by omega), Int.natCast_ediv]; push_cast; rfl
        have HX2 : Hid (B = k + 36 * x / (x + 38)) := by show _ = _; rw [HX.out, biasL_end hl]
        have hle : 36 * x / (x + 38) ≤ 36 * x := Nat.div_le_self _ _
        generalize 36 * x / (x + 38) = y at qe HX2 hle
        go_wp2
        go_ret
        exact ⟨ret_i64 (by rw [HX2.out]; push_cast; rfl), rfl⟩

theorem But.drew' {g : Nat} {w w' : World} (h : But g w w') : But g w w'.drew := ⟨h.os, h.tape, h.output, h.size, h.block⟩
/-- A counter in memory. -/
def CtAt (w : World) (g : Nat) (n i h bias : Int) (gone : Bool) : Prop := Lies w g #[.int .i32 n, .int .i64 i, .int .i64 h, .int .i64 bias, .bool gone] 164
set_option maxHeartbeats 1000000 in
set_option maxRecDepth 100000 in
theorem cstep_any (g : Nat) (n i h bias : Int) (gone : Bool) (r p : Int) (w : World) (hc : CtAt w g n i h bias gone) (hr : 0 ≤ r ∧ r ≤ 1114111) (hn : 0 ≤ n ∧ n ≤ 1114111) (hh : 0 ≤ h ∧ h ≤ 4294967296) (hp : 0 ≤ p ∧ p ≤ 4294967296) (hi : 0 ≤ i ∧ i ≤ 4294967296) :
    Calls Tryz.prog 138 #[.pointer (some ⟨g, 0, none⟩), .int .i32 r, .int .i64 p] w fun e w' => e = .returned (.int .i64 ((r - n) * (h + 1) + p - i)) ∧ w' = w.drew := by
  have c0 := Lies.cell hc 0
  have c1 := Lies.cell hc 1
  have c2 := Lies.cell hc 2
  simp at c0 c1 c2
  have hlt := Lies.lt hc
  have m1 : (r - n) * (h + 1) ≤ 1114111 * (h + 1) := Int.mul_le_mul_of_nonneg_right (by omega) (by omega)
  have m2 : (-1114111) * (h + 1) ≤ (r - n) * (h + 1) := Int.mul_le_mul_of_nonneg_right (by omega) (by omega)
  have w0 : IntKind.i64.wrap ((r - n) * (h + 1)) = (r - n) * (h + 1) := by rw [IntKind.wrap_i64]; omega
  have w1 : IntKind.i64.wrap ((r - n) * (h + 1) + p) = (r - n) * (h + 1) + p := by rw [IntKind.wrap_i64]; omega
  have w2 : IntKind.i64.wrap ((r - n) * (h + 1) + p - i) = (r - n) * (h + 1) + p - i := by rw [IntKind.wrap_i64]; omega
  clear hc m1 m2
  go_enter Tryz.func138, Tryz.ntmps138
  go_wp2_with fail
  go_region
  go_wp2
  go_ret
  exact ⟨rfl, rfl⟩

set_option maxHeartbeats 2000000 in
set_option maxRecDepth 100000 in
/-- The counter goes on behind a step. -/
theorem cnext_any (g : Nat) (n i : Int) (h s p : Nat) (bias : Int) (gone : Bool) (r : Int) (w : World) (hc : CtAt w g n i h bias gone) (hh : h ≤ 4294967295) (hs : s ≤ 2147483647) (hp : p ≤ 4294967296) :
    Calls Tryz.prog 140 #[.pointer (some ⟨g, 0, none⟩), .int .i64 s, .int .i32 r, .int .i64 p] w fun e w' => e = .returned (.tuple #[]) ∧ But g w w' ∧ CtAt w' g r ((p + 1 : Nat) : Int) ((h + 1 : Nat) : Int) (biasB s (h + 1) (!gone) : Nat) true := by
  have c0 := Lies.cell hc 0
  have c1 := Lies.cell hc 1
  have c2 := Lies.cell hc 2
  have c3 := Lies.cell hc 3
  have c4 := Lies.cell hc 4
  simp at c0 c1 c2 c3 c4
  have f0 := Lies.frozen hc 0
  have f1 := Lies.frozen hc 1
  have f2 := Lies.frozen hc 2
  have f3 := Lies.frozen hc 3
  have f4 := Lies.frozen hc 4
  have hlt := Lies.lt hc
  have HC : Hid (CtAt w g n i h bias gone) := hc
  have HB : Hid (∀ wx, Calls Tryz.prog 170 #[.int .i64 s, .int .i64 ((h : Int) + 1), .bool (!gone)] wx fun e w' => e = .returned (.int .i64 (biasB s (h + 1) (!gone) : Nat)) ∧ w' = wx) := fun wx => by
    have := biasb_any s (h + 1) (!gone) hs (by omega) (by omega) wx
    push_cast at this
    exact this
  generalize biasB s (h + 1) (!gone) = B at HB ⊢
  have HBT : Hid (But g w (((((w.setCell ⟨g, 0, none⟩ (.int .i32 r)).setCell ⟨g, 1, none⟩ (.int .i64 ((p : Int) + 1))).setCell ⟨g, 2, none⟩ (.int .i64 ((h : Int) + 1))).setCell ⟨g, 3, none⟩ (.int .i64 B)).drew.setCell ⟨g, 4, none⟩ (.bool true))) := ((((((But.refl g w).set 0 _).set 1 _).set 2 _).set 3 _).drew').set 4 _
  have HCT : Hid (CtAt (((((w.setCell ⟨g, 0, none⟩ (.int .i32 r)).setCell ⟨g, 1, none⟩ (.int .i64 ((p : Int) + 1))).setCell ⟨g, 2, none⟩ (.int .i64 ((h : Int) + 1))).setCell ⟨g, 3, none⟩ (.int .i64 B)).drew.setCell ⟨g, 4, none⟩ (.bool true)) g r ((p + 1 : Nat) : Int) ((h + 1 : Nat) : Int) B true) := by
    have := Lies.set (Lies.drew (Lies.set (Lies.set (Lies.set (Lies.set hc 0 (.int .i32 r)) 1 (.int .i64 ((p : Int) + 1))) 2 (.int .i64 ((h : Int) + 1))) 3 (.int .i64 B))) 4 (.bool true)
    simp only [List.setIfInBounds_toArray, List.set_cons_zero, List.set_cons_succ] at this
    show Lies _ _ _ _
    rw [show (((p + 1 : Nat)) : Int) = (p : Int) + 1 from by push_cast; rfl, show (((h + 1 : Nat)) : Int) = (h : Int) + 1 from by push_cast; rfl]
    exact this
  clear hc
  go_enter Tryz.func140, Tryz.ntmps140
  go_wp2_with fail
  go_region_with (go_at_call 170; refine (HB.out _).mono ?_; rintro e w' ⟨rfl, rfl⟩)
  all_goals go_wp2
  all_goals go_end0
  all_goals exact ⟨rfl, HBT.out, HCT.out⟩

set_option maxHeartbeats 1000000 in
set_option maxRecDepth 100000 in
theorem cnt_any (h : Nat) (w : World) :
    Calls Tryz.prog 134 #[.int .i64 h] w fun e w' => e = .returned (.agg #[.int .i32 128, .int .i64 0, .int .i64 h, .int .i64 72, .bool false]) ∧ Below w.heap.size w w' := by
  go_enter Tryz.func134, Tryz.ntmps134
  go_wp2
  (try simp only [Exit.inBlock, Exit.then])
  refine bodyPost_ret (v := .agg #[.int .i32 128, .int .i64 0, .int .i64 h, .int .i64 72, .bool false]) (by simp [results, Tryz.results134, go_sem]) rfl ⟨rfl, (Below.refl _ _).alloc (Nat.le_refl _) _⟩

set_option maxHeartbeats 1000000 in
set_option maxRecDepth 100000 in
theorem digof_any (v : Nat) (hv : v < 36) (w : World) :
    Calls Tryz.prog 169 #[.int .u8 v] w fun e w' => e = .returned (.int .u8 ((dgt v).toNat : Int)) ∧ w' = w := by
  by_cases h : v < 26
  · have HD : Hid (((dgt v).toNat : Int) = 97 + v) := by
      show _ = _
      unfold dgt
      rw [if_pos h, UInt8.toNat_ofNat']
      omega
    go_enter Tryz.func169, Tryz.ntmps169
    go_wp2
    go_ret
    exact ⟨by rw [HD.out]; rfl, rfl⟩
  · have HD : Hid (((dgt v).toNat : Int) = 48 + v - 26) := by
      show _ = _
      unfold dgt
      rw [if_neg h, UInt8.toNat_ofNat']
      omega
    go_enter Tryz.func169, Tryz.ntmps169
    go_wp2
    go_ret
    exact ⟨by rw [HD.out]; rfl, rfl⟩

end Go.Proofs.YtnlgbopdbihnjaaGreatDoor
