/-
  The contract of the document's Unhex.
-/
import Derived.Test.YtenfopabdegmhaaDoorRDigit4
import Derived.Test.YtenfopabdegmhaaDoorRBad4
import Derived.Deep.RegionHeld3
import Derived.Deep.AppendLies
namespace Go.Proofs.YtenfopabdegmhaaDoor
open Go.RowKit

theorem rdigit_nat (x : Nat) (w : World) (hx : x < 256) (hb : isB 4 (x : Int) = true) :
    Calls Tryd.prog 49 #[.int .u8 (x : Int)] w fun e w' => e = .returned (.int .i64 (hexV x : Int)) ∧ Below w.heap.size w w' := by
  have e : (UInt8.ofNat x).toNat = x := by simp; omega
  have := rdigit_any (UInt8.ofNat x) w (by rw [e]; exact hb)
  rw [e] at this
  exact this

theorem below_owns {w w' : World} {base e size n : Nat} {v : Value} {xs : List Value} (h : w.ownsRow base e size v n xs) (hb : Below w.heap.size w w') : w'.ownsRow base e size v n xs := by
  have hg : w.grownBy w' none := ⟨hb.os, hb.tape, hb.output, hb.size, fun k hk _ => hb.block k hk⟩
  refine h.kept hg ?_
  cases v.ownBlock with
  | none => exact .inl rfl
  | some g => exact .inr (by simp)

set_option maxRecDepth 100000 in
set_option maxHeartbeats 1000000 in
theorem runhex_bad (s : ByteArray) (w : World) (hs : s.size ≤ maxLen) (hok : ¬ hexOk s.data.toList) :
    Calls Tryd.prog 30 #[.string s] w fun e w' => e = .returned (.tuple #[.slice none 0 0, .agg #[.int .i64 10, .int .i64 (badN 4 s.data.toList)]]) ∧ Below w.heap.size w w' := by
  have hl : s.data.toList.length = s.size := by rw [Array.length_toList]; rfl
  unfold hexOk at hok
  rw [hl] at hok
  have hb := badN_le 4 s.data.toList
  rw [hl] at hb
  have ms := hs
  unfold maxLen at ms
  obtain ⟨n, hn⟩ : ∃ n : Nat, n = badN 4 s.data.toList := ⟨_, rfl⟩
  have hn' : badN 4 s.data.toList = n := hn.symm
  rw [← hn] at hok hb
  clear hn hl
  by_cases h1 : n < s.size
  · go_enter Tryd.func30, Tryd.ntmps30
    go_wp2_with fail
    refine (rbad_four s _ hs).mono ?_
    rintro e w' ⟨rfl, rfl⟩
    go_wp2
    refine bodyPost_ret (v := .tuple #[.slice none 0 0, .agg #[.int .i64 10, .int .i64 (n : Int)]]) (by simp [results, Tryd.results30, go_sem]) rfl ⟨by rw [hn'], ?_⟩
    exact (Below.refl _ _).alloc (Nat.le_refl _) _
  · have h2 : ((n : Int) % 2 == 1) = true := by simp; omega
    go_enter Tryd.func30, Tryd.ntmps30
    go_wp2_with fail
    refine (rbad_four s _ hs).mono ?_
    rintro e w' ⟨rfl, rfl⟩
    go_wp2
    refine bodyPost_ret (v := .tuple #[.slice none 0 0, .agg #[.int .i64 10, .int .i64 (n : Int)]]) (by simp [results, Tryd.results30, go_sem]) rfl ⟨by rw [hn'], ?_⟩
    exact (Below.refl _ _).alloc (Nat.le_refl _) _

theorem owns_base {w : World} {base base' e size n : Nat} {v : Value} {xs : List Value} (h : w.ownsRow base e size v n xs) (hb : base' ≤ base) : w.ownsRow base' e size v n xs := by
  obtain ⟨h1, h2⟩ := h
  refine ⟨h1, ?_⟩
  rcases h2 with h2 | ⟨g, cap, cur, hv, hg, r⟩
  · exact .inl h2
  · exact .inr ⟨g, cap, cur, hv, by omega, r⟩

theorem grown_setC (w : World) (a : Addr) (u : Value) : w.grownBy (w.setCell a u) (some a.block) :=
  ⟨rfl, rfl, rfl, by simp [World.setCell], fun k _ hne => Below.heap_setCell w a u k (fun e => hne (by rw [e]))⟩
theorem base_two {a : Nat} {wr w1 w2 : World} (o : Obj) (h0 : a ≤ wr.heap.size) (h1 : Below wr.heap.size wr.drew w1) (h2 : Below w1.heap.size w1 w2) : a ≤ (w2.alloc o).heap.size := by
  have s1 : wr.heap.size ≤ w1.heap.size := h1.size
  have s2 := h2.size
  simp
  omega
theorem owns_two {wr w1 w2 : World} {base e size n : Nat} {v : Value} {xs : List Value} (o : Obj) (h : wr.ownsRow base e size v n xs) (h1 : Below wr.heap.size wr.drew w1) (h2 : Below w1.heap.size w1 w2) : (w2.alloc o).ownsRow base e size v n xs :=
  (below_owns (below_owns (w := wr.drew) h.drew h1) h2).alloc o

theorem byte_at' (s : ByteArray) (i j : Nat) (h : i = j) (hi : i < s.size) (hj : j < s.size) : (s[i]'hi).toNat = (s[j]'hj).toNat := by
  subst h
  rfl

theorem take_un (l : List UInt8) (k : Nat) (h : k < (unL l).length) : (unL l).take (k + 1) = (unL l).take k ++ [(unL l)[k]] := by
  rw [List.take_succ_eq_append_getElem h]

set_option maxRecDepth 100000 in
set_option maxHeartbeats 4000000 in
theorem runhex_okn (s : ByteArray) (n : Nat) (hn : s.size = 2 * n) (w : World) (hs : s.size ≤ 140737488351232) (hok : hexOk s.data.toList) :
    Calls Tryd.prog 30 #[.string s] w fun e w' => ∃ v, e = .returned (.tuple #[v, .agg #[.int .i64 0, .int .i64 0]]) ∧ w'.ownsRow w.heap.size 5 1 v (unL s.data.toList).length (cellsB (unL s.data.toList)) ∧ Below w.heap.size w w' := by
  have hl : s.data.toList.length = s.size := by rw [Array.length_toList]; rfl
  obtain ⟨h1, h2⟩ := hok
  have HA : Hid (∀ k, (h : k < s.size) → isB 4 (s[k].toNat : Int) = true) := fun k h => hexOk_at s.data.toList h1 k (by omega)
  have HU : Hid ((unL s.data.toList).length = n) := by show _ = _; rw [unL_length, hl]; omega
  rw [hl] at h1
  have ms : s.size ≤ maxLen := by unfold maxLen; omega
  have h1' : ((badN 4 s.data.toList : Nat) : Int) = ((2 * n : Nat) : Int) := by omega
  have hz : ((2 * (n : Int)) % 2 == 1) = false := by simp
  have hn1 : n ≤ 70368744175616 := by omega
  have HN : Hid (s.size = 2 * n) := hn
  have hns : ((s.size : Nat) : Int) = 2 * (n : Int) := by omega
  obtain ⟨i0, hi, hz0, hz1, hz2⟩ := info_parts info5
  clear hl h1 hn h2
  go_enter Tryd.func30, Tryd.ntmps30
  go_wp2_with fail
  refine (rbad_four s _ ms).mono ?_
  rintro e w' ⟨rfl, rfl⟩
  go_wp2
  have HS0 : Hid ((w.alloc (.cells #[.int .i64 0, .int .i64 0] 29)).heap[w.heap.size]? = some (.cells #[.int .i64 0, .int .i64 0] 29 (0, 0))) := heap_alloc_new w _
  have HB0 : Hid (Below w.heap.size w (w.alloc (.cells #[.int .i64 0, .int .i64 0] 29))) := (Below.refl _ _).alloc (Nat.le_refl _) _
  go_loopw [5, 6] (fun v i wr => ∃ k : Nat, k ≤ n ∧ i = .int .i64 (2 * (k : Int)) ∧ Hid (wr.ownsRow (w.heap.size + 1) 5 1 v ((unL s.data.toList).take k).length (cellsB ((unL s.data.toList).take k))) ∧ Hid (Below w.heap.size w wr) ∧ Hid (wr.heap[w.heap.size]? = some (.cells #[.int .i64 0, .int .i64 0] 29 (0, 0)))) (fun _ i _ => 2 * n - (intOf i).toNat)
  case atStart => exact ⟨0, Nat.zero_le _, rfl, World.ownsRow_nil _ _ _ _, HB0, HS0⟩
  case round =>
    obtain ⟨k, hk, rfl, HO, HB, HS⟩ := hrel
    by_cases hlt : k < n
    · have hn2 := HN.out
      have i1 : 2 * k < s.size := by omega
      have i2 : 2 * k + 1 < s.size := by omega
      have x1 := HA.out (2 * k) i1
      have y1 := HA.out (2 * k + 1) i2
      have vx := hexV_lt _ x1
      have vy := hexV_lt _ y1
      have x256 := s[2 * k].toNat_lt
      have y256 := s[2 * k + 1].toNat_lt
      have hua : (unL s.data.toList)[k]'(by rw [HU.out]; exact hlt) = UInt8.ofNat (hexV s[2 * k].toNat * 16 + hexV s[2 * k + 1].toNat) := unL_at s.data.toList k (by simpa using i2) _
      have HTK := take_un s.data.toList k (by rw [HU.out]; exact hlt)
      rw [hua] at HTK
      obtain ⟨x, hx⟩ : ∃ x : Nat, x = s[2 * k].toNat := ⟨_, rfl⟩
      obtain ⟨y, hy⟩ : ∃ y : Nat, y = s[2 * k + 1].toNat := ⟨_, rfl⟩
      rw [← hx] at x1 vx x256 HTK
      rw [← hy] at y1 vy y256 HTK
      have j1 : (2 * (k : Int)).toNat < s.size := by omega
      have j2 : (2 * (k : Int) + 1).toNat < s.size := by omega
      have hx' : (s[(2 * (k : Int)).toNat]'j1).toNat = x := by rw [hx]; exact byte_at' s _ _ (by omega) _ _
      have hy' : (s[(2 * (k : Int) + 1).toNat]'j2).toNat = y := by rw [hy]; exact byte_at' s _ _ (by omega) _ _
      clear hx hy hua
      have HTK' : Hid _ := HTK
      clear HTK
      obtain ⟨z, hzz⟩ : ∃ z : Nat, z = hexV x * 16 + hexV y := ⟨_, rfl⟩
      have hz256 : z < 256 := by omega
      have HZ : Hid (z = hexV x * 16 + hexV y) := hzz
      have hzi : 16 * (hexV x : Int) + (hexV y : Int) = (z : Int) := by omega
      clear hzz
      have x48 : x < 256 := x256
      have y48 : y < 256 := y256
      clear x256 y256
      have b1 : (0 : Int) ≤ 2 * (k : Int) := by omega
      have b2 : 2 * (k : Int) < 2 * (n : Int) := by omega
      have b3 : (0 : Int) ≤ 2 * (k : Int) + 1 := by omega
      have b4 : 2 * (k : Int) + 1 < 2 * (n : Int) := by omega
      have q2 : IntKind.i64.wrap (2 * (k : Int) + 1) = 2 * (k : Int) + 1 := by rw [IntKind.wrap_i64]; omega
      have q3 : IntKind.i64.wrap (16 * (hexV x : Int)) = 16 * (hexV x : Int) := by rw [IntKind.wrap_i64]; omega
      have q4 : IntKind.i64.wrap (z : Int) = (z : Int) := by rw [IntKind.wrap_i64]; omega
      have q5 : IntKind.u8.wrap (z : Int) = (z : Int) := by rw [IntKind.wrap_u8]; omega
      have hlen : ((unL s.data.toList).take k).length ≤ k := List.length_take_le _ _
      clear hn2 i1 i2 vx vy
      go_wp2_with fail
      have hown0 := HO.out
      have hwr : w.heap.size + 1 ≤ wr.heap.size := by
        rcases Nat.lt_or_ge w.heap.size wr.heap.size with h' | h'
        · exact h'
        · have := HS.out
          rw [Array.getElem?_eq_none h'] at this
          cases this
      have tok : True := trivial
      go_region_held3 (fun w' => True) (trivial)
        (first
          | (go_at_call 49; have _t := tok; refine (rdigit_nat _ _ (by omega) (by assumption)).mono ?_; rintro e w1 ⟨rfl, hb1⟩; clear tok)
          | (go_at_call 49; refine (rdigit_nat _ _ (by omega) (by assumption)).mono ?_; rintro e w2 ⟨rfl, hb2⟩)
          | (refine step_append_lies _ (by rfl) _ _ _ (by rfl) (w.heap.size + 1) 5 i0 _ 1 1 Tryd.underlying22 hi hz0 hz1 hz2 rfl (by omega) u5 _ _ (by rfl) (owns_two _ hown0 hb1 hb2) ⟨w2.heap.size, 0, none⟩ 1 1 [.int .u8 (z : Int)] (by rfl) (by rfl) (World.news_of_block (cs := #[.int .u8 (z : Int)]) (t := 5) (fr := (0, 0)) (heap_alloc_new w2 _)) (by simp [Value.oneCell']) (by omega) (by unfold maxLen; omega) (by omega) (base_two _ hwr hb1 hb2) (w2.heap.size + 1) (by simp) ?_; intro gg cap w3 hown3 hgrow hat hlt3))
      all_goals
        have hb02 : Below wr.heap.size wr w2 := ⟨hb2.os.trans hb1.os, hb2.tape.trans hb1.tape, hb2.output.trans hb1.output, Nat.le_trans hb1.size hb2.size, fun q hq => (hb2.block q (Nat.lt_of_lt_of_le hq hb1.size)).trans (hb1.block q hq)⟩
        have R : Hid (w3.ownsRow (w.heap.size + 1) 5 1 (.slice (some ⟨gg, 0, none⟩) (((unL s.data.toList).take k).length + 1) cap) ((unL s.data.toList).take (k + 1)).length (cellsB ((unL s.data.toList).take (k + 1)))) := by
          show w3.ownsRow _ _ _ _ _ _
          rw [HTK'.out, List.length_append, cellsB_append]
          have e : (UInt8.ofNat (hexV x * 16 + hexV y)).toNat = z := by rw [HZ.out]; simp; have := HZ.out; omega
          have e2 : cellsB [UInt8.ofNat (hexV x * 16 + hexV y)] = [.int .u8 (z : Int)] := by
            show [Value.int .u8 (((UInt8.ofNat (hexV x * 16 + hexV y)).toNat : Nat) : Int)] = _
            rw [e]
          rw [e2]
          exact hown3
        have HB1 : Hid (Below w.heap.size w w2) := HB.out.trans (hb02.mono HB.out.size)
        have HB3 : Hid (Below w.heap.size w w3) := (HB1.out.alloc HB1.out.size _).grown hgrow (by have := HB1.out.size; simp; omega) (fun q hq => Nat.le_trans (Nat.le_succ _) (hown0.lt q hq).1)
        have HS3 : Hid (w3.heap[w.heap.size]? = some (.cells #[.int .i64 0, .int .i64 0] 29 (0, 0))) := by
          show _ = _
          have hs2 : w2.heap[w.heap.size]? = some (.cells #[.int .i64 0, .int .i64 0] 29 (0, 0)) := (hb02.block w.heap.size hwr).trans HS.out
          have hlt2 : w.heap.size < w2.heap.size := Nat.lt_of_lt_of_le hwr hb02.size
          rw [hgrow.block w.heap.size (by simp; omega) (fun e => by have := (hown0.lt w.heap.size e.symm).1; omega)]
          exact (Below.heap_alloc w2 _ w.heap.size hlt2).trans hs2
        clear hown0 hown3 hgrow hat hlt3 hb1 hb2 hb02 HO HB HS HB1 HTK'
        go_wp2
        go_roundw
        case rel => exact ⟨k + 1, by omega, by go_num, by rw [← List.length_take]; exact R, HB3, HS3⟩
        case measure => simp [intOf]; omega
    · obtain rfl : k = n := by omega
      have hown := HO.out
      rw [List.take_of_length_le (by rw [HU.out]; exact Nat.le_refl _)] at hown
      have c0 : wr.cell? ⟨w.heap.size, 0, none⟩ = some (.int .i64 0) := by simp [World.cell?, HS.out]
      have c1 : wr.cell? ⟨w.heap.size, 1, none⟩ = some (.int .i64 0) := by simp [World.cell?, HS.out]
      have f0 : wr.frozen? ⟨w.heap.size, 0, none⟩ = false := by simp [World.frozen?, HS.out]
      have f1 : wr.frozen? ⟨w.heap.size, 1, none⟩ = false := by simp [World.frozen?, HS.out]
      have HOW : Hid (wr.ownsRow (w.heap.size + 1) 5 1 u5 (unL s.data.toList).length (cellsB (unL s.data.toList))) := hown
      clear hown HO
      go_wp2
      refine bodyPost_ret (v := .tuple #[u5, .agg #[.int .i64 0, .int .i64 0]]) (by simp [results, Tryd.results30, go_sem, c0, c1]) rfl ⟨u5, rfl, ?_, ?_⟩
      · have hne : u5.ownBlock ≠ some w.heap.size := fun e => by have := (HOW.out.lt w.heap.size e).1; omega
        have o1 := HOW.out.kept (grown_setC wr ⟨w.heap.size, 0, none⟩ (.int .i64 0)) (.inr hne)
        have o2 := o1.kept (grown_setC _ ⟨w.heap.size, 1, none⟩ (.int .i64 0)) (.inr hne)
        exact owns_base o2 (Nat.le_succ _)
      · exact (HB.out.setCell (p := ⟨w.heap.size, 0, none⟩) (Nat.le_refl _) _).setCell (p := ⟨w.heap.size, 1, none⟩) (Nat.le_refl _) _
end Go.Proofs.YtenfopabdegmhaaDoor
