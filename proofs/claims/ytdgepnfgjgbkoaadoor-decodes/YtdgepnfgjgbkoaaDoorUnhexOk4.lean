/-
  The contract of octet.Unhex of a text that it takes.
-/
import Derived.Test.YtdgepnfgjgbkoaaDoorUnhex4
namespace Go.Proofs.YtdgepnfgjgbkoaaDoor
open Go.RowKit

/-- The bytes that are read so far, noughts behind them. -/
def fillL (l : List UInt8) (k : Nat) : List UInt8 := l.take k ++ List.replicate (l.length - k) 0
theorem fillL_length (l : List UInt8) (k : Nat) (h : k ≤ l.length) : (fillL l k).length = l.length := by
  simp [fillL]; omega
theorem fillL_set (l : List UInt8) (k : Nat) (h : k < l.length) : (fillL l k).set k l[k] = fillL l (k + 1) := by
  unfold fillL
  have e : l.length - k = (l.length - (k + 1)) + 1 := by omega
  rw [e, List.replicate_succ, List.set_append_right _ _ (by simp; omega)]
  have e2 : k - (l.take k).length = 0 := by simp; omega
  rw [e2, List.set_cons_zero, List.take_succ_eq_append_getElem h, List.append_assoc]
  rfl
theorem cellsB_set (l : List UInt8) (k : Nat) (x : UInt8) : (cellsB l).set k (.int .u8 (x.toNat : Int)) = cellsB (l.set k x) := by
  simp [cellsB, List.map_set]

theorem fillL_zero (l : List UInt8) : fillL l 0 = List.replicate l.length 0 := by simp [fillL]
theorem fillL_all (l : List UInt8) (k : Nat) (h : k = l.length) : fillL l k = l := by subst h; simp [fillL]
theorem grown_setCell (w : World) (a : Addr) (u : Value) : w.grownBy (w.setCell a u) (some a.block) :=
  ⟨rfl, rfl, rfl, by simp [World.setCell], fun k _ hne => Below.heap_setCell w a u k (fun e => hne (by rw [e]))⟩
theorem byte_at (s : ByteArray) (i j : Nat) (h : i = j) (hi : i < s.size) (hj : j < s.size) : (s[i]'hi).toNat = (s[j]'hj).toNat := by
  subst h
  rfl

theorem or16 : ∀ a : Fin 16, ∀ b : Fin 16, bits .or .u8 (IntKind.u8.wrap ((a.val : Int) * 16)) (b.val : Int) = (a.val : Int) * 16 + (b.val : Int) := by decide +kernel

set_option maxRecDepth 100000 in
set_option maxHeartbeats 4000000 in
theorem unhex_okn (s : ByteArray) (n : Nat) (hn : s.size = 2 * n) (w : World) (ht : Table w) (hs : s.size ≤ 281474976710656) (hok : hexOk s.data.toList) :
    Calls Tryd.prog 85 #[.string s] w fun e w' => ∃ g, e = .returned (.tuple #[.slice (some ⟨g, 0, none⟩) n n, .agg #[.int .i64 0, .int .i64 0]]) ∧ w.heap.size ≤ g ∧
      w'.ownsRow w.heap.size 5 1 (.slice (some ⟨g, 0, none⟩) n n) n (cellsB (unL s.data.toList)) ∧ Below w.heap.size w w' := by
  have hl : s.data.toList.length = s.size := by rw [Array.length_toList]; rfl
  obtain ⟨h1, h2⟩ := hok
  have HA : Hid (∀ k, (h : k < s.size) → isB 4 (s[k].toNat : Int) = true) := fun k h => hexOk_at s.data.toList h1 k (by omega)
  have HU : Hid ((unL s.data.toList).length = n) := by show _ = _; rw [unL_length, hl]; omega
  rw [hl] at h1 h2
  have ms : s.size ≤ maxLen := by unfold maxLen; omega
  have HT : Hid (Table w) := ht
  have hz : ((s.size : Int) % 2 != 0) = false := by simp; omega
  obtain ⟨i0, hi, hz0, hz1, hz2⟩ := info_parts info5
  have HN : Hid (s.size = 2 * n) := hn
  have hnn : ((s.size : Int) / 2) = (n : Int) := by omega
  have hn1 : n ≤ 140737488355328 := by omega
  clear ht hl hn h2
  have h1' : ((badN 4 s.data.toList : Nat) : Int) = (s.size : Int) := by omega
  go_enter Tryd.func85, Tryd.ntmps85
  go_wp2_with fail
  refine (bad_anyT 4 s _ (HT.out.keep ((Below.refl _ _).alloc (Nat.le_refl _) _)) ms).mono ?_
  rintro e w' ⟨rfl, rfl⟩
  clear h1
  go_wp2_with (at_make; refine wpList_make_full _ rfl _ _ 38 rfl w.heap.size 5 i0 (.int .u8 0) 1 Tryd.underlying38 hi hz0 hz1 .i64 .i64 _ _ n rfl rfl (by omega) (by omega) (by rw [hz2]; omega) (by unfold maxLen; omega) (by simp) ?_)
  intro w1 hown hgrow
  rw [made_zero] at hown
  have HO : Hid (w1.ownsRow w.heap.size 5 1 (.slice (some ⟨w.heap.size + 1, 0, none⟩) n n) n (cellsB (fillL (unL s.data.toList) 0))) := by
    show w1.ownsRow _ _ _ _ _ _
    rw [fillL_zero, HU.out]
    simpa using hown
  have HB : Hid (Below w.heap.size w w1) := ((Below.refl _ _).alloc (Nat.le_refl _) _).grown hgrow (by simp) (fun k h => by cases h)
  have HS : Hid (w1.heap[w.heap.size]? = some (.cells #[.int .i64 0, .int .i64 0] 25 (0, 0))) := by
    show _ = _
    rw [hgrow.block w.heap.size (by simp) (by simp)]
    exact heap_alloc_new w _
  clear hown hgrow
  go_wp2
  go_loopw [27] (fun i wr => ∃ k : Nat, k ≤ n ∧ i = .int .i64 k ∧ Hid (wr.ownsRow w.heap.size 5 1 (.slice (some ⟨w.heap.size + 1, 0, none⟩) n n) n (cellsB (fillL (unL s.data.toList) k))) ∧ Hid (Below w.heap.size w wr) ∧ Hid (wr.heap[w.heap.size]? = some (.cells #[.int .i64 0, .int .i64 0] 25 (0, 0)))) (fun i _ => n - (intOf i).toNat)
  case atStart => exact ⟨0, Nat.zero_le _, rfl, HO, HB, HS⟩
  case round =>
    obtain ⟨k, hk, rfl, HO, HB, HS⟩ := hrel
    by_cases hlt : k < n
    · have hn2 := HN.out
      have i1 : 2 * k < s.size := by omega
      have i2 : 2 * k + 1 < s.size := by omega
      have x1 := hex_iff _ (HA.out (2 * k) i1)
      have y1 := hex_iff _ (HA.out (2 * k + 1) i2)
      have vx := hexV_lt _ (HA.out (2 * k) i1)
      have vy := hexV_lt _ (HA.out (2 * k + 1) i2)
      have hua : (unL s.data.toList)[k]'(by rw [HU.out]; exact hlt) = UInt8.ofNat (hexV s[2 * k].toNat * 16 + hexV s[2 * k + 1].toNat) := unL_at s.data.toList k (by simpa using i2) _
      obtain ⟨x, hx⟩ : ∃ x : Nat, x = s[2 * k].toNat := ⟨_, rfl⟩
      obtain ⟨y, hy⟩ : ∃ y : Nat, y = s[2 * k + 1].toNat := ⟨_, rfl⟩
      rw [← hx] at x1 vx hua
      rw [← hy] at y1 vy hua
      have j1 : (2 * (k : Int)).toNat < s.size := by omega
      have j2 : (2 * (k : Int) + 1).toNat < s.size := by omega
      have hx' : (s[(2 * (k : Int)).toNat]'j1).toNat = x := by rw [hx]; exact byte_at s _ _ (by omega) _ _
      have hy' : (s[(2 * (k : Int) + 1).toNat]'j2).toNat = y := by rw [hy]; exact byte_at s _ _ (by omega) _ _
      clear hx hy
      have x48 : 48 ≤ x := by omega
      have x102 : x ≤ 102 := by omega
      have y48 : 48 ≤ y := by omega
      have y102 : y ≤ 102 := by omega
      clear x1 y1
      have ho := or16 ⟨hexV x, vx⟩ ⟨hexV y, vy⟩
      simp only at ho
      have b1 : (0 : Int) ≤ (k : Int) := by omega
      have b2 : (k : Int) < (n : Int) := by omega
      have q1 : IntKind.i64.wrap (2 * (k : Int)) = 2 * (k : Int) := by rw [IntKind.wrap_i64]; omega
      have q2 : IntKind.i64.wrap (2 * (k : Int) + 1) = 2 * (k : Int) + 1 := by rw [IntKind.wrap_i64]; omega
      have b0 : (0 : Int) ≤ 2 * (k : Int) := by omega
      have b5 : (0 : Int) ≤ 2 * (k : Int) + 1 := by omega
      have b3 : (2 : Int) * (k : Int) < (s.size : Int) := by omega
      have b4 : (2 : Int) * (k : Int) + 1 < (s.size : Int) := by omega
      have hlen : (fillL (unL s.data.toList) k).length = n := by rw [fillL_length _ _ (by rw [HU.out]; exact hk), HU.out]
      have hcell : ∃ v, wr.cell? ⟨w.heap.size + 1, k, none⟩ = some v := by
        have := HO.out.cellAt k (by omega)
        rw [this]
        exact ⟨_, List.getElem?_eq_getElem (by rw [cellsB_length, hlen]; exact hlt)⟩
      obtain ⟨v0, hc0⟩ := hcell
      have hf0 : wr.frozen? ⟨w.heap.size + 1, k, none⟩ = false := HO.out.frozenAt k
      have hval : ((unL s.data.toList)[k]'(by rw [HU.out]; exact hlt)).toNat = hexV x * 16 + hexV y := by
        rw [hua]
        simp
        omega
      have st := HO.out.stored k (.int .u8 ((hexV x : Int) * 16 + (hexV y : Int)))
      have R : Hid ((wr.setCell ⟨w.heap.size + 1, k, none⟩ (.int .u8 ((hexV x : Int) * 16 + (hexV y : Int)))).drew.ownsRow w.heap.size 5 1 (.slice (some ⟨w.heap.size + 1, 0, none⟩) n n) n (cellsB (fillL (unL s.data.toList) (k + 1)))) := by
        have h1 := st.1
        have e : Value.int .u8 ((hexV x : Int) * 16 + (hexV y : Int)) = .int .u8 ((((unL s.data.toList)[k]'(by rw [HU.out]; exact hlt)).toNat : Nat) : Int) := by
          rw [hval]
          congr 1
        rw [e, cellsB_set, fillL_set] at h1
        rw [e]
        exact h1
      have HB3 : Hid (Below w.heap.size w (wr.setCell ⟨w.heap.size + 1, k, none⟩ (.int .u8 ((hexV x : Int) * 16 + (hexV y : Int)))).drew) := (HB.out.setCell (p := ⟨w.heap.size + 1, k, none⟩) (by simp) _).drew
      have HS3 : Hid ((wr.setCell ⟨w.heap.size + 1, k, none⟩ (.int .u8 ((hexV x : Int) * 16 + (hexV y : Int)))).drew.heap[w.heap.size]? = some (.cells #[.int .i64 0, .int .i64 0] 25 (0, 0))) := by
        show _ = _
        rw [← HS.out]
        exact Below.heap_setCell wr ⟨w.heap.size + 1, k, none⟩ _ w.heap.size (by simp)
      clear hval st hua vx vy hn2 HO HB HS
      go_wp2_with fail
      go_region_held3 (fun w' => True) (trivial)
        (first | (go_at_call 103; refine (hexv_any _ _ (by omega) (by omega)).mono ?_; rintro e w' ⟨rfl, rfl⟩))
      all_goals
        go_wp2
        go_roundw
        case rel => exact ⟨k + 1, by omega, by go_num, R, HB3, HS3⟩
        case measure => simp [intOf]; omega
    · obtain rfl : k = n := by omega
      have hown := HO.out
      rw [fillL_all _ _ HU.out.symm] at hown
      have c0 : wr.cell? ⟨w.heap.size, 0, none⟩ = some (.int .i64 0) := by simp [World.cell?, HS.out]
      have c1 : wr.cell? ⟨w.heap.size, 1, none⟩ = some (.int .i64 0) := by simp [World.cell?, HS.out]
      have f0 : wr.frozen? ⟨w.heap.size, 0, none⟩ = false := by simp [World.frozen?, HS.out]
      have f1 : wr.frozen? ⟨w.heap.size, 1, none⟩ = false := by simp [World.frozen?, HS.out]
      have HOW : Hid (wr.ownsRow w.heap.size 5 1 (.slice (some ⟨w.heap.size + 1, 0, none⟩) k k) k (cellsB (unL s.data.toList))) := hown
      clear hown HO
      go_wp2
      refine bodyPost_ret (v := .tuple #[.slice (some ⟨w.heap.size + 1, 0, none⟩) k k, .agg #[.int .i64 0, .int .i64 0]]) (by simp [results, Tryd.results85, go_sem, c0, c1]) rfl ⟨w.heap.size + 1, rfl, by omega, ?_, ?_⟩
      · have o1 := HOW.out.kept (grown_setCell wr ⟨w.heap.size, 0, none⟩ (.int .i64 0)) (.inr (by simp [Value.ownBlock]))
        exact o1.kept (grown_setCell _ ⟨w.heap.size, 1, none⟩ (.int .i64 0)) (.inr (by simp [Value.ownBlock]))
      · exact (HB.out.setCell (p := ⟨w.heap.size, 0, none⟩) (Nat.le_refl _) _).setCell (p := ⟨w.heap.size, 1, none⟩) (Nat.le_refl _) _
end Go.Proofs.YtdgepnfgjgbkoaaDoor
