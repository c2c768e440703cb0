/-
  The program's wrongRoute.
-/
import Derived.Test.YthkoionigdnhgabGreatDoorXx9
import Derived.Test.YthkoionigdnhgabGreatDoorXr9
import Derived.Defers
import Derived.Recover
namespace Go.Proofs.YthkoionigdnhgabGreatDoor
open Go.RowKit

/-- What is wrong with a route. -/
def ckT (r : List Ho) (wide : Bool) : Nat := if 16 < r.length ∨ r.all (fun h => decide (h.k = 1)) = false then 92 else ckR r wide
theorem ckT_far {r : List Ho} {wide : Bool} (h : 16 < r.length) : ckT r wide = 92 := if_pos (Or.inl h)
theorem ckT_kind {r : List Ho} {wide : Bool} {i : Nat} (hi : i < r.length) (h : r[i].k ≠ 1) : ckT r wide = 92 := if_pos (Or.inr (by
  rw [← Bool.not_eq_true]
  intro ha
  exact h (of_decide_eq_true (List.all_eq_true.1 ha _ (List.getElem_mem hi)))))
theorem ckT_ok {r : List Ho} {wide : Bool} (h : r.length ≤ 16) (hk : ∀ j (hj : j < r.length), r[j].k = 1) : ckT r wide = ckR r wide := if_neg (by
  rintro (h' | h')
  · omega
  · have : r.all (fun h => decide (h.k = 1)) = true := by
      rw [List.all_eq_true]
      intro x hx
      obtain ⟨j, hj, rfl⟩ := List.getElem_of_mem hx
      exact decide_eq_true (hk j hj)
    rw [this] at h'
    cases h')
theorem ckR_drop (r : List Ho) (wide : Bool) (i : Nat) (hi : i < r.length) : ckR (r.drop i) wide = if check r[i] wide = 0 then ckR (r.drop (i + 1)) wide else check r[i] wide := by
  rw [List.drop_eq_getElem_cons hi, ckR]

set_option maxHeartbeats 8000000 in
set_option maxRecDepth 100000 in
theorem wrr_any (sp : Option Addr) (c : Nat) (r : List Ho) (w : World) (hr : RtM w sp r) (hT : Td w) (hm : r.length ≤ maxLen) (okr : ∀ x ∈ r, x.a.length = 16 ∧ x.n.length ≤ 140737488355328) (wide : Bool) :
    Calls Tryz.prog 78 #[.slice sp r.length c, .bool wide] w fun e w' => e = .returned (.int .i64 (ckT r wide : Nat)) ∧ Below w.heap.size w w' := by
  unfold maxLen at hm
  by_cases h16 : 16 < r.length
  · have HE : Hid (ckT r wide = 92) := ckT_far h16
    have h16' : (16 : Int) < (r.length : Int) := by omega
    go_enter Tryz.func78, Tryz.ntmps78
    go_wp2_with fail
    go_ret
    exact ⟨by rw [HE.out]; rfl, Below.refl _ _⟩
  · by_cases h0 : r = []
    · subst h0
      go_enter Tryz.func78, Tryz.ntmps78
      go_wp2_with fail
      go_loop [15] (fun ci => ci = .int .i64 0) (fun _ => 0)
      case atStart => rfl
      case round =>
        subst hrel
        go_wp2_with fail
        go_loop [25] (fun ci => ci = .int .i64 0) (fun _ => 0)
        case atStart => rfl
        case round =>
          subst hrel
          go_wp2_with fail
          go_ret
          exact ⟨rfl, Below.refl _ _⟩
    · have hpos : 0 < r.length := List.length_pos_iff.2 h0
      obtain ⟨g0, o, hsp, hg0, hmem⟩ : ∃ g o, sp = some ⟨g, o, none⟩ ∧ g < w.heap.size ∧ ∀ j (hj : j < r.length), w.rangeAt g (o + j * 18) (hostC r[j]).toList := by
        rcases hr with h | h
        · exact absurd h h0
        · exact h
      subst hsp
      have HMM : Hid (∀ j (hj : j < r.length), w.rangeAt g0 (o + j * 18) (hostC r[j]).toList) := hmem
      have HOK : Hid (∀ x ∈ r, x.a.length = 16 ∧ x.n.length ≤ 140737488355328) := okr
      have HCK : Hid (∀ (x : Ho) (wx : World), x ∈ r → Below w.heap.size w wx → Calls Tryz.prog 46 #[.agg (hostC x), .bool wide] wx fun e w' => e = .returned (.int .i64 (check x wide : Nat)) ∧ Below wx.heap.size wx w') := fun x wx hx hb => chk_any x (okr x hx).1 wide wx (hT.below hb).tb (okr x hx).2
      obtain ⟨n, hn⟩ : ∃ n, n = r.length := ⟨_, rfl⟩
      have HNN : Hid (n = r.length) := hn
      rw [← hn] at h16 hpos hm ⊢
      have h16' : ¬ (16 : Int) < (n : Int) := by omega
      clear hn h0 hr okr hmem hT
      go_enter Tryz.func78, Tryz.ntmps78
      go_wp2_with fail
      go_loopw [15] (fun ci wr => ∃ i : Nat, i ≤ n ∧ ci = .int .i64 i ∧ Hid (Below w.heap.size w wr) ∧ Hid (∀ j (hj : j < r.length), j < i → r[j].k = 1)) (fun ci _ => n - (intOf ci).toNat)
      case atStart => exact ⟨0, Nat.zero_le _, rfl, Below.refl _ _, fun j _ hj => absurd hj (Nat.not_lt_zero _)⟩
      case round =>
       obtain ⟨i, hi, rfl, HB, HI⟩ := hrel
       by_cases hlt : i < n
       · have hlt' : (i : Int) < (n : Int) := by omega
         have hir : i < r.length := by rw [← HNN.out]; exact hlt
         obtain ⟨hx16, hxn⟩ := HOK.out r[i] (List.getElem_mem hir)
         obtain ⟨C, hC⟩ : ∃ C, C = hostC r[i] := ⟨_, rfl⟩
         have hCz : C.size = 18 := by rw [hC]; exact hostC_size _ hx16
         have hCo : C.all (·.oneCell') = true := by rw [hC]; exact hostC_one _
         have HMC : Hid (wr.rangeAt g0 (o + i * 18) C.toList) := fun j v hv => by
           rw [HB.out.cell (p := ⟨g0, o + i * 18 + j, none⟩) hg0]
           rw [hC] at hv
           exact HMM.out i hir j v hv
         have hwr : w.heap.size ≤ wr.heap.size := HB.out.size
         have HZ : Hid (Lies (wr.alloc (.cells #[.int .i64 0, .string ⟨#[]⟩, .int .u8 0, .int .u8 0, .int .u8 0, .int .u8 0, .int .u8 0, .int .u8 0, .int .u8 0, .int .u8 0, .int .u8 0, .int .u8 0, .int .u8 0, .int .u8 0, .int .u8 0, .int .u8 0, .int .u8 0, .int .u8 0] 27)) wr.heap.size #[.int .i64 0, .string ⟨#[]⟩, .int .u8 0, .int .u8 0, .int .u8 0, .int .u8 0, .int .u8 0, .int .u8 0, .int .u8 0, .int .u8 0, .int .u8 0, .int .u8 0, .int .u8 0, .int .u8 0, .int .u8 0, .int .u8 0, .int .u8 0, .int .u8 0] 27) := Lies.new wr _ _
         have HV : Hid (Lies ((wr.alloc (.cells #[.int .i64 0, .string ⟨#[]⟩, .int .u8 0, .int .u8 0, .int .u8 0, .int .u8 0, .int .u8 0, .int .u8 0, .int .u8 0, .int .u8 0, .int .u8 0, .int .u8 0, .int .u8 0, .int .u8 0, .int .u8 0, .int .u8 0, .int .u8 0, .int .u8 0] 27)).setRow wr.heap.size C) wr.heap.size C 27) := HZ.out.row C
         have HB2 : Hid (Below w.heap.size w ((wr.alloc (.cells #[.int .i64 0, .string ⟨#[]⟩, .int .u8 0, .int .u8 0, .int .u8 0, .int .u8 0, .int .u8 0, .int .u8 0, .int .u8 0, .int .u8 0, .int .u8 0, .int .u8 0, .int .u8 0, .int .u8 0, .int .u8 0, .int .u8 0, .int .u8 0, .int .u8 0] 27)).setRow wr.heap.size C)) := HB.out.trans ((below_row ((Below.refl _ wr).alloc (Nat.le_refl _) _) (Nat.le_refl _) _).mono hwr)
         obtain ⟨k, hk⟩ : ∃ k, k = r[i].k := ⟨_, rfl⟩
         have c0 : ((wr.alloc (.cells #[.int .i64 0, .string ⟨#[]⟩, .int .u8 0, .int .u8 0, .int .u8 0, .int .u8 0, .int .u8 0, .int .u8 0, .int .u8 0, .int .u8 0, .int .u8 0, .int .u8 0, .int .u8 0, .int .u8 0, .int .u8 0, .int .u8 0, .int .u8 0, .int .u8 0] 27)).setRow wr.heap.size C).cell? ⟨wr.heap.size, 0, none⟩ = some (.int .i64 k) := by
           refine (HV.out.cell 0).trans ?_
           rw [hC, hk]
           rfl
         have HKK : Hid (k = r[i].k) := hk
         clear hC hk hx16 hxn HCK
         go_upto_region 6 with (first | (refine wpList_load_mid rfl 27 _ rfl g0 (o + i * 18) rfl C.toList _ HMC.out Tryz.underlying27 rfl (by rw [Array.length_toList, hCz]; exact infoHo) ?_) | (refine wpList_store_row rfl 27 _ _ rfl wr.heap.size rfl #[.int .i64 0, .string ⟨#[]⟩, .int .u8 0, .int .u8 0, .int .u8 0, .int .u8 0, .int .u8 0, .int .u8 0, .int .u8 0, .int .u8 0, .int .u8 0, .int .u8 0, .int .u8 0, .int .u8 0, .int .u8 0, .int .u8 0, .int .u8 0, .int .u8 0] C rfl 27 HZ.out (by rw [hCz]; exact infoHo) (by rw [hCz]; rfl) hCo rfl ?_))
         clear HMC HZ HV
         generalize (wr.alloc (.cells #[.int .i64 0, .string ⟨#[]⟩, .int .u8 0, .int .u8 0, .int .u8 0, .int .u8 0, .int .u8 0, .int .u8 0, .int .u8 0, .int .u8 0, .int .u8 0, .int .u8 0, .int .u8 0, .int .u8 0, .int .u8 0, .int .u8 0, .int .u8 0, .int .u8 0] 27)).setRow wr.heap.size C = w2 at HB2 c0 ⊢
         by_cases hk1 : k = 1
         · have HN : Hid (∀ j (hj : j < r.length), j < i + 1 → r[j].k = 1) := fun j hj hji => by
             rcases Nat.lt_succ_iff_lt_or_eq.1 hji with h' | rfl
             · exact HI.out j hj h'
             · rw [← HKK.out, hk1]
           subst hk1
           clear HKK HI
           go_wp2_with fail
           go_roundw
           case rel => exact ⟨i + 1, hlt, by go_num, HB2, HN⟩
           case measure => simp [intOf]; omega
         · have HE : Hid (ckT r wide = 92) := ckT_kind hir (by rw [← HKK.out]; exact hk1)
           clear HKK HI
           go_wp2_with fail
           go_ret
           exact ⟨by rw [HE.out]; rfl, HB2.out⟩
       · have hlt' : ¬ (i : Int) < (n : Int) := by omega
         have HE0 : Hid (ckT r wide = ckR r wide) := ckT_ok (by rw [← HNN.out]; omega) (fun j hj => HI.out j hj (by have := HNN.out; omega))
         clear HI
         go_wp2_with fail
         have HB0 := HB
         clear HB
         go_loopw [25] (fun ci wr => ∃ i : Nat, i ≤ n ∧ ci = .int .i64 i ∧ Hid (Below w.heap.size w wr) ∧ Hid (ckR r wide = ckR (r.drop i) wide)) (fun ci _ => n - (intOf ci).toNat)
         case atStart => exact ⟨0, Nat.zero_le _, rfl, HB0, rfl⟩
         case round =>
          clear HB0 hlt hlt' hi
          obtain ⟨i, hi, rfl, HB, HI⟩ := hrel
          by_cases hlt : i < n
          · have hlt' : (i : Int) < (n : Int) := by omega
            have hir : i < r.length := by rw [← HNN.out]; exact hlt
            obtain ⟨hx16, hxn⟩ := HOK.out r[i] (List.getElem_mem hir)
            obtain ⟨C, hC⟩ : ∃ C, C = hostC r[i] := ⟨_, rfl⟩
            have hCz : C.size = 18 := by rw [hC]; exact hostC_size _ hx16
            have hCo : C.all (·.oneCell') = true := by rw [hC]; exact hostC_one _
            have HMC : Hid (wr.rangeAt g0 (o + i * 18) C.toList) := fun j v hv => by
              rw [HB.out.cell (p := ⟨g0, o + i * 18 + j, none⟩) hg0]
              rw [hC] at hv
              exact HMM.out i hir j v hv
            have hwr : w.heap.size ≤ wr.heap.size := HB.out.size
            have HZ : Hid (Lies (wr.alloc (.cells #[.int .i64 0, .string ⟨#[]⟩, .int .u8 0, .int .u8 0, .int .u8 0, .int .u8 0, .int .u8 0, .int .u8 0, .int .u8 0, .int .u8 0, .int .u8 0, .int .u8 0, .int .u8 0, .int .u8 0, .int .u8 0, .int .u8 0, .int .u8 0, .int .u8 0] 27)) wr.heap.size #[.int .i64 0, .string ⟨#[]⟩, .int .u8 0, .int .u8 0, .int .u8 0, .int .u8 0, .int .u8 0, .int .u8 0, .int .u8 0, .int .u8 0, .int .u8 0, .int .u8 0, .int .u8 0, .int .u8 0, .int .u8 0, .int .u8 0, .int .u8 0, .int .u8 0] 27) := Lies.new wr _ _
            have HV : Hid (Lies ((wr.alloc (.cells #[.int .i64 0, .string ⟨#[]⟩, .int .u8 0, .int .u8 0, .int .u8 0, .int .u8 0, .int .u8 0, .int .u8 0, .int .u8 0, .int .u8 0, .int .u8 0, .int .u8 0, .int .u8 0, .int .u8 0, .int .u8 0, .int .u8 0, .int .u8 0, .int .u8 0] 27)).setRow wr.heap.size C) wr.heap.size C 27) := HZ.out.row C
            have HB2 : Hid (Below w.heap.size w ((wr.alloc (.cells #[.int .i64 0, .string ⟨#[]⟩, .int .u8 0, .int .u8 0, .int .u8 0, .int .u8 0, .int .u8 0, .int .u8 0, .int .u8 0, .int .u8 0, .int .u8 0, .int .u8 0, .int .u8 0, .int .u8 0, .int .u8 0, .int .u8 0, .int .u8 0, .int .u8 0] 27)).setRow wr.heap.size C)) := HB.out.trans ((below_row ((Below.refl _ wr).alloc (Nat.le_refl _) _) (Nat.le_refl _) _).mono hwr)
            have HD : Hid (ckR (r.drop i) wide = if check r[i] wide = 0 then ckR (r.drop (i + 1)) wide else check r[i] wide) := ckR_drop r wide i hir
            have HX : Hid (∀ wx, Below w.heap.size w wx → Calls Tryz.prog 46 #[.agg C, .bool wide] wx fun e w' => e = .returned (.int .i64 (check r[i] wide : Nat)) ∧ Below wx.heap.size wx w') := fun wx hb => by
              rw [hC]
              exact HCK.out _ wx (List.getElem_mem hir) hb
            generalize check r[i] wide = m at HD HX
            clear hC hx16 hxn
            go_upto_region 12 with (first | (refine wpList_load_mid rfl 27 _ rfl g0 (o + i * 18) rfl C.toList _ HMC.out Tryz.underlying27 rfl (by rw [Array.length_toList, hCz]; exact infoHo) ?_) | (refine wpList_store_row rfl 27 _ _ rfl wr.heap.size rfl #[.int .i64 0, .string ⟨#[]⟩, .int .u8 0, .int .u8 0, .int .u8 0, .int .u8 0, .int .u8 0, .int .u8 0, .int .u8 0, .int .u8 0, .int .u8 0, .int .u8 0, .int .u8 0, .int .u8 0, .int .u8 0, .int .u8 0, .int .u8 0, .int .u8 0] C rfl 27 HZ.out (by rw [hCz]; exact infoHo) (by rw [hCz]; rfl) hCo rfl ?_))
            clear HMC HZ
            generalize (wr.alloc (.cells #[.int .i64 0, .string ⟨#[]⟩, .int .u8 0, .int .u8 0, .int .u8 0, .int .u8 0, .int .u8 0, .int .u8 0, .int .u8 0, .int .u8 0, .int .u8 0, .int .u8 0, .int .u8 0, .int .u8 0, .int .u8 0, .int .u8 0, .int .u8 0, .int .u8 0] 27)).setRow wr.heap.size C = w2 at HB2 HV ⊢
            go_wp2_with (refine wpList_load_row9 (by rfl) 27 _ rfl wr.heap.size rfl C 27 _ HV.out Tryz.underlying27 rfl (by rw [hCz]; exact infoHo) ?_)
            refine (HX.out _ HB2.out).mono ?_
            rintro e w3 ⟨rfl, hb3⟩
            have HB3 : Hid (Below w.heap.size w w3) := HB2.out.trans (hb3.mono HB2.out.size)
            clear hb3 HB2 HX HV
            by_cases hm0 : m = 0
            · have HN : Hid (ckR r wide = ckR (r.drop (i + 1)) wide) := by
                show _ = _
                rw [HI.out, HD.out, if_pos hm0]
              subst hm0
              clear HD HI
              go_wp2_with fail
              go_roundw
              case rel => exact ⟨i + 1, hlt, by go_num, HB3, HN⟩
              case measure => simp [intOf]; omega
            · have hm0' : ¬ (m : Int) = 0 := by omega
              have HN : Hid (ckT r wide = m) := by
                show _ = _
                rw [HE0.out, HI.out, HD.out, if_neg hm0]
              clear HD HI
              go_wp2_with fail
              go_ret
              exact ⟨by rw [HN.out]; rfl, HB3.out⟩
          · have hlt' : ¬ (i : Int) < (n : Int) := by omega
            have HN : Hid (ckT r wide = 0) := by
              show _ = _
              rw [HE0.out, HI.out, List.drop_of_length_le (by rw [← HNN.out]; omega)]
              rfl
            clear HI
            go_wp2_with fail
            go_ret
            exact ⟨by rw [HN.out]; rfl, HB.out⟩
end Go.Proofs.YthkoionigdnhgabGreatDoor
/-
  Mailboxes compared; the contract of head.
-/
namespace Go.Proofs.YthkoionigdnhgabGreatDoor
open Go.RowKit

theorem infoHE : ∃ i, Tryz.prog.info? 27 = some i ∧ i.size = 18 := by
  have h5 : (Tryz.prog.info? 27).map (·.size) = some 18 := by kernel_rfl
  cases hq : Tryz.prog.info? 27 with
  | none => simp [hq] at h5
  | some i => exact ⟨i, rfl, by simpa [hq] using h5⟩
theorem part_loc (l : List UInt8) (h : Ho) (w : World) : (part 9 (boxC l h) 0).run Tryz.prog w = .ok (.string (txt l)) w := by
  simp [part, isAgg, run_underlying Tryz.underlying9, boxC_0]
theorem part_hst (l : List UInt8) (h : Ho) (ha : h.a.length = 16) (w : World) : (part 27 (boxC l h) 1).run Tryz.prog w = .ok (hostV h) w := by
  obtain ⟨i, hi, hs⟩ := infoHE
  have hz := hostC_size h ha
  have e : (boxC l h).extract 1 19 = hostC h := by
    apply Array.ext'
    unfold boxC
    rw [Array.toList_extract]
    simp
    rw [List.take_of_length_le (by simp [hz])]
  have hz' : (boxC l h).size = 19 := by unfold boxC; rw [Array.size_append, hz]; rfl
  simp [part, isAgg, run_underlying Tryz.underlying27, sizeOf, typeInfo, hi, hs, e, hz', hostV]
set_option maxRecDepth 100000 in
theorem eqBox (d : Nat) (l m : List UInt8) (x y : Ho) (hx : x.a.length = 16) (hy : y.a.length = 16) (w : World) : (Op.equalIn (d + 4) 30 (.agg (boxC l x)) (.agg (boxC m y))).run Tryz.prog w = .ok (decide (l = m) && decide (x = y)) w := by
  have hf : Tryz.prog.underlying 30 = some (.struct (Tryz.prog.fieldsOf 30)) := by simp [Program.fieldsOf, Tryz.underlying30]
  rw [run_equalIn_struct w (d + 3) 30 _ _ hf (by kernel_rfl)]
  simp only [Program.fieldsOf, Tryz.underlying30]
  simp only [Op.eqFields, Sem.run_bind, Sem.run_ite, part_loc, part_hst l x hx, part_hst m y hy, Result.andThen_ok, run_equalIn_string (P := Tryz.prog) w (d + 2) 9 _ _ Tryz.underlying9, eqHost d x y hx hy, txt, list_beq]
  by_cases h1 : l = m <;> by_cases h2 : x = y <;> simp [h1, h2]
theorem pthC_one9 (k : Int) (sl : Value) (l : List UInt8) (h : Ho) (hs : sl.oneCell' = true) : (pthC k sl l h).all (·.oneCell') = true := by
  rw [pth_box, Array.all_append, boxC_one]
  simp [Value.oneCell']
  exact hs
theorem pthC_024 (k : Int) (sl : Value) (l : List UInt8) (h : Ho) : (pthC k sl l h)[0]? = some (.int .i64 k) ∧ (pthC k sl l h)[1]? = some sl ∧ (pthC k sl l h)[2]? = some (.string (txt l)) ∧ (pthC k sl l h)[3]? = some (.int .i64 h.k) ∧ (pthC k sl l h)[4]? = some (.string (txt h.n)) := by
  unfold pthC hostC txt
  simp
end Go.Proofs.YthkoionigdnhgabGreatDoor
