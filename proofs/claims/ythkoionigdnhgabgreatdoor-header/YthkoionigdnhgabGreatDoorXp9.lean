/-
  The program's writtenRoute.
-/
import Derived.Test.YthkoionigdnhgabGreatDoorXo9
import Derived.Deep.OwnRows
namespace Go.Proofs.YthkoionigdnhgabGreatDoor
open Go.RowKit

/-- A route's names, written. -/
def atN (h : Ho) : List UInt8 := 64 :: h.n
def nmsR (r : List Ho) : List UInt8 := if r = [] then [] else joinL [44] (r.map atN) ++ [58]
theorem nms_wr : ∀ r : List Ho, (∀ h ∈ r, wrH h = h.n) → nmsR r = wrR r
  | [], _ => rfl
  | [h], hh => by
    unfold nmsR
    rw [if_neg (by simp), wrR, hh h (by simp)]
    simp [joinL, atN]
  | h :: g :: r, hh => by
    have ih := nms_wr (g :: r) (fun x hx => hh x (List.mem_cons_of_mem _ hx))
    unfold nmsR at ih ⊢
    rw [if_neg (by simp)] at ih ⊢
    rw [wrR, ← ih, hh h (by simp)]
    simp [joinL, atN]
theorem join_len (b : Nat) : ∀ L : List (List UInt8), (∀ x ∈ L, x.length ≤ b) → (joinL [44] L).length ≤ (b + 1) * L.length
  | [], _ => by simp [joinL]
  | [x], h => by
    have := h x (by simp)
    simp [joinL]
    omega
  | x :: y :: L, h => by
    have h1 := h x (by simp)
    have ih := join_len b (y :: L) (fun z hz => h z (List.mem_cons_of_mem _ hz))
    have e : (joinL [44] (x :: y :: L)).length = x.length + 1 + (joinL [44] (y :: L)).length := by simp [joinL]; omega
    rw [e, List.length_cons, Nat.mul_succ]
    omega
theorem infoStr : (Tryz.prog.info? 9).map (fun i => (i.zero, i.size, i.bytes)) = some (some (.string ⟨#[]⟩), 1, 16) := by kernel_rfl
theorem made_strs (n : Nat) : madeCells #[.string ⟨#[]⟩] n = strsV (List.replicate n []) := by
  unfold strsV
  apply Array.ext_getElem?
  intro i
  by_cases h : i < n
  · simp [madeCells, h, Nat.mod_one]
  · rw [Array.getElem?_eq_none (by simp [madeCells]; omega), Array.getElem?_eq_none (by simp; omega)]
/-- Texts, of which some are laid. -/
theorem strs_put {wr : World} {g n : Nat} {L : List (List UInt8)} (h : Lies wr g (strsV (L ++ List.replicate (n - L.length) [])) 9) (hl : L.length < n) (x : List UInt8) : Lies (wr.setCell ⟨g, L.length, none⟩ (.string (txt x))) g (strsV ((L ++ [x]) ++ List.replicate (n - (L ++ [x]).length) [])) 9 := by
  have := h.set L.length (.string ⟨x.toArray⟩)
  rw [strsV_set] at this
  have e : (L ++ List.replicate (n - L.length) []).set L.length x = L ++ [x] ++ List.replicate (n - (L ++ [x]).length) [] := by
    rw [List.set_append_right _ _ (Nat.le_refl _), Nat.sub_self, show n - L.length = n - (L ++ [x]).length + 1 from by simp; omega, List.replicate_succ, List.set_cons_zero]
    simp
  rw [e] at this
  exact this
theorem strs_cell {wr : World} {g n : Nat} {L : List (List UInt8)} (h : Lies wr g (strsV (L ++ List.replicate (n - L.length) [])) 9) (hl : L.length < n) : ∃ v, wr.cell? ⟨g, L.length, none⟩ = some (.string v) :=
  ⟨_, (h.cell L.length).trans (strsV_at _ _ (by simp; omega))⟩

set_option maxHeartbeats 8000000 in
set_option maxRecDepth 100000 in
theorem wroute_any (sp : Option Addr) (c : Nat) (r : List Ho) (w : World) (hr : RtM w sp r) (h16 : r.length ≤ 1000) (okr : ∀ x ∈ r, x.a.length = 16 ∧ x.n.length ≤ 1000) :
    Calls Tryz.prog 89 #[.slice sp r.length c] w fun e w' => e = .returned (.string (txt (nmsR r))) ∧ Below w.heap.size w w' := by
  by_cases h0 : r = []
  · subst h0
    go_enter Tryz.func89, Tryz.ntmps89
    go_wp2_with fail
    go_ret
    exact ⟨rfl, Below.refl _ _⟩
  · have HN0 : Hid (nmsR r = joinL [44] (r.map atN) ++ [58]) := if_neg h0
    have hpos : 0 < r.length := List.length_pos_iff.2 h0
    obtain ⟨g0, o, hsp, hg0, hmem⟩ : ∃ g o, sp = some ⟨g, o, none⟩ ∧ g < w.heap.size ∧ ∀ j (hj : j < r.length), w.rangeAt g (o + j * 18) (hostC r[j]).toList := by
      rcases hr with h | h
      · exact absurd h h0
      · exact h
    subst hsp
    have HMM : Hid (∀ j (hj : j < r.length), w.rangeAt g0 (o + j * 18) (hostC r[j]).toList) := hmem
    have HOK : Hid (∀ x ∈ r, x.a.length = 16 ∧ x.n.length ≤ 1000) := okr
    obtain ⟨n, hn⟩ : ∃ n, n = r.length := ⟨_, rfl⟩
    have HNN : Hid (n = r.length) := hn
    rw [← hn] at h16 hpos ⊢
    have hz : ((n : Int) == 0) = false := by rw [beq_eq_false_iff_ne]; omega
    have hmk : ∀ W : World, (Instr.makeSlice 59 (.int .i64 (n : Int)) (.int .i64 (n : Int))).run Tryz.prog W = .ok (.slice (some ⟨W.heap.size, 0, none⟩) n n) (W.alloc (.cells (strsV (List.replicate n [])) 9)) := fun W => by
      have := run_make_row' (P := Tryz.prog) 59 9 (.string ⟨#[]⟩) 16 Tryz.underlying59 infoStr rfl .i64 .i64 n (by omega) (by omega) W
      rw [made_strs] at this
      exact this
    have HL0 : Hid (Lies (w.alloc (.cells (strsV (List.replicate n [])) 9)) w.heap.size (strsV ([] ++ List.replicate (n - ([] : List (List UInt8)).length) [])) 9) := Lies.new w _ _
    have HB0 : Hid (Below w.heap.size w (w.alloc (.cells (strsV (List.replicate n [])) 9))) := (Below.refl _ w).alloc (Nat.le_refl _) _
    clear hn h0 hr okr hmem
    go_enter Tryz.func89, Tryz.ntmps89
    go_upto_region 4 with fail
    generalize w.alloc (.cells (strsV (List.replicate n [])) 9) = w1 at HL0 HB0 ⊢
    clear hmk
    go_wp2_with fail
    go_loopw [14] (fun ci wr => ∃ i : Nat, i ≤ n ∧ ci = .int .i64 i ∧ Hid (Lies wr w.heap.size (strsV ((r.take i).map atN ++ List.replicate (n - ((r.take i).map atN).length) [])) 9) ∧ Hid (Below w.heap.size w wr)) (fun ci _ => n - (intOf ci).toNat)
    case atStart => exact ⟨0, Nat.zero_le _, rfl, HL0, HB0⟩
    case round =>
      obtain ⟨i, hi, rfl, HL, HB⟩ := hrel
      clear HL0 HB0
      by_cases hlt : i < n
      · have hlt' : (i : Int) < (n : Int) := by omega
        have hir : i < r.length := by rw [← HNN.out]; exact hlt
        obtain ⟨hx16, hxn⟩ := HOK.out r[i] (List.getElem_mem hir)
        obtain ⟨C, hC⟩ : ∃ C, C = hostC r[i] := ⟨_, rfl⟩
        have hCz : C.size = 18 := by rw [hC]; exact hostC_size _ hx16
        have hCo : C.all (·.oneCell') = true := by rw [hC]; exact hostC_one _
        obtain ⟨M, hM⟩ : ∃ M, M = txt r[i].n := ⟨_, rfl⟩
        have hMz : M.size ≤ 1000 := by rw [hM, txt_size]; exact hxn
        have HC1 : Hid (C[1]? = some (.string M)) := by show _ = _; rw [hC, hM]; rfl
        have HMC : Hid (wr.rangeAt g0 (o + i * 18) C.toList) := fun j v hv => by
          rw [HB.out.cell (p := ⟨g0, o + i * 18 + j, none⟩) hg0]
          rw [hC] at hv
          exact HMM.out i hir j v hv
        have hlen : ((r.take i).map atN).length = i := by rw [List.length_map, List.length_take]; omega
        have HLN : Hid (((r.take i).map atN).length = i) := hlen
        obtain ⟨vi, hvi⟩ := strs_cell HL.out (by rw [hlen]; exact hlt)
        have hfi := HL.out.frozen ((r.take i).map atN).length
        rw [hlen] at hvi hfi
        have hwr : w.heap.size < wr.heap.size := HL.out.lt
        have HZ : Hid (Lies (wr.alloc (.cells #[.int .i64 0, .string ⟨#[]⟩, .int .u8 0, .int .u8 0, .int .u8 0, .int .u8 0, .int .u8 0, .int .u8 0, .int .u8 0, .int .u8 0, .int .u8 0, .int .u8 0, .int .u8 0, .int .u8 0, .int .u8 0, .int .u8 0, .int .u8 0, .int .u8 0] 27)) wr.heap.size #[.int .i64 0, .string ⟨#[]⟩, .int .u8 0, .int .u8 0, .int .u8 0, .int .u8 0, .int .u8 0, .int .u8 0, .int .u8 0, .int .u8 0, .int .u8 0, .int .u8 0, .int .u8 0, .int .u8 0, .int .u8 0, .int .u8 0, .int .u8 0, .int .u8 0] 27) := Lies.new wr _ _
        have HV : Hid (Lies ((wr.alloc (.cells #[.int .i64 0, .string ⟨#[]⟩, .int .u8 0, .int .u8 0, .int .u8 0, .int .u8 0, .int .u8 0, .int .u8 0, .int .u8 0, .int .u8 0, .int .u8 0, .int .u8 0, .int .u8 0, .int .u8 0, .int .u8 0, .int .u8 0, .int .u8 0, .int .u8 0] 27)).setRow wr.heap.size C) wr.heap.size C 27) := HZ.out.row C
        have HK : Hid (Below wr.heap.size wr ((wr.alloc (.cells #[.int .i64 0, .string ⟨#[]⟩, .int .u8 0, .int .u8 0, .int .u8 0, .int .u8 0, .int .u8 0, .int .u8 0, .int .u8 0, .int .u8 0, .int .u8 0, .int .u8 0, .int .u8 0, .int .u8 0, .int .u8 0, .int .u8 0, .int .u8 0, .int .u8 0] 27)).setRow wr.heap.size C)) := below_row ((Below.refl _ wr).alloc (Nat.le_refl _) _) (Nat.le_refl _) C
        have HIM : Hid (txt (atN r[i]) = ⟨#[64]⟩ ++ M) := by
          show _ = _
          rw [hM, show (⟨#[64]⟩ : ByteArray) = txt [64] from rfl, txt_cat]
          rfl
        clear hC hM hx16 hxn hlen
        go_upto_region 7 with (first | (refine wpList_load_mid rfl 27 _ rfl g0 (o + i * 18) rfl C.toList _ HMC.out Tryz.underlying27 rfl (by rw [Array.length_toList, hCz]; exact infoHo) ?_) | (refine wpList_store_row rfl 27 _ _ rfl wr.heap.size rfl #[.int .i64 0, .string ⟨#[]⟩, .int .u8 0, .int .u8 0, .int .u8 0, .int .u8 0, .int .u8 0, .int .u8 0, .int .u8 0, .int .u8 0, .int .u8 0, .int .u8 0, .int .u8 0, .int .u8 0, .int .u8 0, .int .u8 0, .int .u8 0, .int .u8 0] C rfl 27 HZ.out (by rw [hCz]; exact infoHo) (by rw [hCz]; rfl) hCo rfl ?_))
        have HL2 : Hid (Lies ((wr.alloc (.cells #[.int .i64 0, .string ⟨#[]⟩, .int .u8 0, .int .u8 0, .int .u8 0, .int .u8 0, .int .u8 0, .int .u8 0, .int .u8 0, .int .u8 0, .int .u8 0, .int .u8 0, .int .u8 0, .int .u8 0, .int .u8 0, .int .u8 0, .int .u8 0, .int .u8 0] 27)).setRow wr.heap.size C) w.heap.size (strsV ((r.take i).map atN ++ List.replicate (n - ((r.take i).map atN).length) [])) 9) := HL.out.below HK.out HL.out.lt
        have HB2 : Hid (Below w.heap.size w ((wr.alloc (.cells #[.int .i64 0, .string ⟨#[]⟩, .int .u8 0, .int .u8 0, .int .u8 0, .int .u8 0, .int .u8 0, .int .u8 0, .int .u8 0, .int .u8 0, .int .u8 0, .int .u8 0, .int .u8 0, .int .u8 0, .int .u8 0, .int .u8 0, .int .u8 0, .int .u8 0] 27)).setRow wr.heap.size C)) := HB.out.trans (HK.out.mono HB.out.size)
        have c1 : ((wr.alloc (.cells #[.int .i64 0, .string ⟨#[]⟩, .int .u8 0, .int .u8 0, .int .u8 0, .int .u8 0, .int .u8 0, .int .u8 0, .int .u8 0, .int .u8 0, .int .u8 0, .int .u8 0, .int .u8 0, .int .u8 0, .int .u8 0, .int .u8 0, .int .u8 0, .int .u8 0] 27)).setRow wr.heap.size C).cell? ⟨wr.heap.size, 1, none⟩ = some (.string M) := (HV.out.cell 1).trans HC1.out
        have ci : ((wr.alloc (.cells #[.int .i64 0, .string ⟨#[]⟩, .int .u8 0, .int .u8 0, .int .u8 0, .int .u8 0, .int .u8 0, .int .u8 0, .int .u8 0, .int .u8 0, .int .u8 0, .int .u8 0, .int .u8 0, .int .u8 0, .int .u8 0, .int .u8 0, .int .u8 0, .int .u8 0] 27)).setRow wr.heap.size C).cell? ⟨w.heap.size, i, none⟩ = some (.string vi) := (HK.out.cell (p := ⟨w.heap.size, i, none⟩) hwr).trans hvi
        have fi : ((wr.alloc (.cells #[.int .i64 0, .string ⟨#[]⟩, .int .u8 0, .int .u8 0, .int .u8 0, .int .u8 0, .int .u8 0, .int .u8 0, .int .u8 0, .int .u8 0, .int .u8 0, .int .u8 0, .int .u8 0, .int .u8 0, .int .u8 0, .int .u8 0, .int .u8 0, .int .u8 0] 27)).setRow wr.heap.size C).frozen? ⟨w.heap.size, i, none⟩ = false := by
          have := HL2.out.frozen i
          exact this
        clear HZ HV HK HL hvi hfi HMC
        generalize (wr.alloc (.cells #[.int .i64 0, .string ⟨#[]⟩, .int .u8 0, .int .u8 0, .int .u8 0, .int .u8 0, .int .u8 0, .int .u8 0, .int .u8 0, .int .u8 0, .int .u8 0, .int .u8 0, .int .u8 0, .int .u8 0, .int .u8 0, .int .u8 0, .int .u8 0, .int .u8 0] 27)).setRow wr.heap.size C = w3 at HL2 HB2 c1 ci fi ⊢
        have HL3 : Hid (Lies (w3.setCell ⟨w.heap.size, i, none⟩ (.string (⟨#[64]⟩ ++ M))) w.heap.size (strsV ((r.take (i + 1)).map atN ++ List.replicate (n - ((r.take (i + 1)).map atN).length) [])) 9) := by
          have := strs_put HL2.out (by rw [HLN.out]; exact hlt) (atN r[i])
          rw [HLN.out, HIM.out] at this
          rw [List.take_succ_eq_append_getElem hir, List.map_append]
          exact this
        have HB3 : Hid (Below w.heap.size w (w3.setCell ⟨w.heap.size, i, none⟩ (.string (⟨#[64]⟩ ++ M)))) := HB2.out.setCell (p := ⟨w.heap.size, i, none⟩) (Nat.le_refl _) _
        clear HL2 HB2
        go_wp2_with fail
        go_roundw
        case rel => exact ⟨i + 1, hlt, by go_num, HL3, HB3⟩
        case measure => simp [intOf]; omega
      · have hlt' : ¬ (i : Int) < (n : Int) := by omega
        have hin : i = r.length := by rw [← HNN.out]; omega
        have HL2 : Hid (Lies wr w.heap.size (strsV (r.map atN)) 9) := by
          have := HL.out
          rw [hin, List.take_length, List.length_map, ← HNN.out, Nat.sub_self] at this
          show Lies _ _ _ _
          simpa using this
        have hjl : (joinL [44] (r.map atN)).length ≤ 1002 * r.length := by
          have := join_len 1001 (r.map atN) (fun x hx => by
            rw [List.mem_map] at hx
            obtain ⟨y, hy, rfl⟩ := hx
            have := (HOK.out y hy).2
            simp only [atN, List.length_cons]
            omega)
          rw [List.length_map] at this
          exact this
        have hjn : (joinL [44] (r.map atN)).length ≤ 1002000 := by
          have h1 : r.length ≤ 1000 := by rw [← HNN.out]; exact h16
          have h2 : 1002 * r.length ≤ 1002 * 1000 := Nat.mul_le_mul_left _ h1
          omega
        have HJ : Hid (Calls Tryz.prog 129 #[.slice (some ⟨w.heap.size, 0, none⟩) n n, .string ⟨#[44]⟩] wr fun e w' => e = .returned (.string (txt (joinL [44] (r.map atN)))) ∧ Below wr.heap.size wr w') := by
          have := join_some HL2.out 0 n n ⟨#[44]⟩ (by rw [List.length_map, ← HNN.out]; omega) (Nat.le_refl _) (by
            rw [List.drop_zero, List.take_of_length_le (by rw [List.length_map, ← HNN.out]; exact Nat.le_refl _)]
            exact Nat.le_trans hjn (by omega)) (by rw [List.length_map, ← HNN.out]; omega)
          rw [List.drop_zero, List.take_of_length_le (by rw [List.length_map, ← HNN.out]; exact Nat.le_refl _)] at this
          exact this
        obtain ⟨J, hJ⟩ : ∃ J, J = txt (joinL [44] (r.map atN)) := ⟨_, rfl⟩
        have hJz : J.size ≤ 1002000 := by rw [hJ, txt_size]; exact hjn
        have HR : Hid (txt (nmsR r) = J ++ ⟨#[58]⟩) := by
          show _ = _
          rw [HN0.out, hJ, show (⟨#[58]⟩ : ByteArray) = txt [58] from rfl, txt_cat]
        rw [← hJ] at HJ
        clear hJ hjl hjn hin HL HL2 HN0
        go_wp2_with fail
        refine HJ.out.mono ?_
        rintro e w2 ⟨rfl, hb2⟩
        go_wp2_with fail
        go_ret
        exact ⟨by rw [HR.out]; rfl, HB.out.trans (hb2.mono HB.out.size)⟩
end Go.Proofs.YthkoionigdnhgabGreatDoor
