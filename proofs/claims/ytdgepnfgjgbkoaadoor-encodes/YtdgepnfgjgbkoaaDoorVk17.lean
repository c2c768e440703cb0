/-
  The document's row of words.
-/
import Derived.Test.YtdgepnfgjgbkoaaDoorVj2
import Derived.Test.YtdgepnfgjgbkoaaDoorREnc
import Derived.Test.YtdgepnfgjgbkoaaDoorRDec
import Derived.Deep.CutRange
namespace Go.Proofs.YtdgepnfgjgbkoaaDoor
open Go.RowKit

/-- Runes in memory. -/
def Rns (a : Option Addr) (l : List Int) (w : World) : Prop := l = [] ∨ ∃ g o, a = some ⟨g, o, none⟩ ∧ g < w.heap.size ∧ ∀ j, (h : j < l.length) → w.cell? ⟨g, o + j, none⟩ = some (.int .i32 l[j])
theorem Rns.below {a : Option Addr} {l : List Int} {w w' : World} (h : Rns a l w) (hb : Below w.heap.size w w') : Rns a l w' := by
  rcases h with h | ⟨g, o, e, hg, hr⟩
  · exact .inl h
  · exact .inr ⟨g, o, e, Nat.lt_of_lt_of_le hg hb.size, fun j hj => (hb.cell (p := ⟨g, o + j, none⟩) hg).trans (hr j hj)⟩
theorem Rns.cell {a : Option Addr} {l : List Int} {w : World} (h : Rns a l w) (k : Nat) (hk : k < l.length) : ∃ g o, a = some ⟨g, o, none⟩ ∧ g < w.heap.size ∧ w.cell? ⟨g, o + k, none⟩ = some (.int .i32 l[k]) := by
  rcases h with rfl | ⟨g, o, e, hg, hr⟩
  · simp at hk
  · exact ⟨g, o, e, hg, hr k hk⟩
def slR (a : Option Addr) (k cap : Nat) : Option Addr := if cap = k then a else a.map (·.add k)
theorem Rns.cut {a : Option Addr} {l : List Int} {w : World} (h : Rns a l w) (p cap : Nat) (hc : l.length ≤ cap) : Rns (slR a p cap) (l.drop p) w := by
  unfold slR
  split
  · refine .inl (List.drop_eq_nil_of_le (by omega))
  · rcases h with rfl | ⟨g, o, rfl, hg, hr⟩
    · exact .inl (by simp)
    · refine .inr ⟨g, o + p, by simp [Addr.add], hg, fun j hj => ?_⟩
      rw [List.length_drop] at hj
      have := hr (p + j) (by omega)
      rw [Nat.add_assoc, this, List.getElem_drop]
set_option maxRecDepth 100000 in
theorem infoR32 : (Tryd.prog.info? 21).map (fun i => (i.zero, i.size, i.bytes)) = some (some (.int .i32 0), 1, 4) := by kernel_rfl
set_option maxRecDepth 100000 in
theorem run_slR (a : Option Addr) (n cap p : Nat) (h1 : p ≤ n) (w : World) : (Instr.sliceAt 50 (.slice a n cap) (some (.int .i64 (p : Int))) none none).run Tryd.prog w = .ok (.slice (slR a p cap) (n - p) (cap - p)) w := by
  have hu : Tryd.prog.underlying 50 = some (.slice (Tryd.prog.elem 50)) := Tryd.underlying50
  have hs : (sizeOf (Tryd.prog.elem 50)).run Tryd.prog w = .ok 1 w := by
    obtain ⟨i0, hi0, hz0, hz1, hz2⟩ := info_parts infoR32
    have : (sizeOf 21).run Tryd.prog w = .ok 1 w := by go_simp
    exact this
  rw [run_sliceAt_slice (h := hu), run_slice_l (ht := hu) (h0 := by omega) (h1 := by omega), hs]
  simp [Result.andThen, sliced, slR]
/-- A row beside another one that grows. -/
theorem bts_grown {a : Option Addr} {l : List UInt8} {w w' : World} {k : Option Nat} (h : Bts a l w) (hg : w.grownBy w' k) (hne : ∀ ad, a = some ad → some ad.block ≠ k) : Bts a l w' := by
  rcases h with h | ⟨g, o, e, hg1, hr⟩
  · exact .inl h
  · refine .inr ⟨g, o, e, Nat.lt_of_lt_of_le hg1 hg.size, fun j hj => ?_⟩
    rw [← hr j hj]
    exact World.cell?_of_block (w := w) (hg.block g hg1 (hne _ e))
/-- Bytes behind bytes, as one operation. -/
theorem wp_append_bytes {o : Oper} {a : Act} {w : World} {K : Act → World → Prop} {Q : Exit → Act → World → Prop} (s x : Operand)
    (ho : o.op = .call { callee := .builtin .append, args := #[s, x], argTypes := #[38, 38] }) (base : Nat) (v : Value) (n : Nat) (xs : List UInt8) (hs : a.eval s = v) (hown : w.ownsRow base 5 1 v n (cellsB xs))
    (sp : Option Addr) (l : List UInt8) (m c : Nat) (hx : a.eval x = .slice sp m c) (hm : m = l.length) (hb : Bts sp l w) (hnc : sp = none → c = 0) (hbytes : n + m ≤ 140737488355328) (hbase : base ≤ w.heap.size)
    (h : ∀ v' w', w'.ownsRow base 5 1 v' (n + m) (cellsB (xs ++ l)) → w.grownBy w' v.ownBlock → K (a.put o.dst v') w') : o.wp Tryd.prog a w K Q := by
  obtain ⟨i0, hi, hz0, hz1, hz2⟩ := info_parts info5
  subst hm
  cases sp with
  | none =>
    obtain rfl := bts_none hb
    obtain rfl := hnc rfl
    have hrun := run_append_owned_none (P := Tryd.prog) (w := w) base 38 o.type 5 i0 1 Tryd.underlying38 hi v n _ hown
    have hK := h v w (by simpa using hown) (World.grownBy.refl w _)
    rw [List.length_nil] at hx
    unfold Oper.wp
    simp [execOp, ho, resolve, invoke, builtin, hs, hx, hrun, Result.andThen]
    exact hK
  | some ad =>
    refine wp_append_own _ s x 38 ho base 5 i0 (.int .u8 0) 1 1 Tryd.underlying38 hi hz0 hz1 hz2 rfl (by decide) v n _ hs hown ad l.length c (cellsB l) hx (by rw [cellsB_length]; omega) (bts_news hb) (cellsB_one l) (by unfold maxLen; omega) (by omega) hbase ?_
    intro v' w' hown' hgrow _
    exact h v' w' (by rw [cellsB_append]; exact hown') hgrow
theorem txW_lenV (q : Bool) (b : List UInt8) : (txW q b).length ≤ 3 * b.length + 4 := by
  unfold txW
  cases q
  · simp only [Bool.false_eq_true, if_false]
    rw [e64L_len]
    omega
  · simp only [if_true]
    have : ∀ l : List UInt8, (qL l).length ≤ 3 * l.length := fun l => by
      induction l with
      | nil => simp [qL]
      | cons c t ih =>
        have h1 : qL (c :: t) = qB c ++ qL t := by simp [qL]
        have h2 := (qB_le c).1
        rw [h1, List.length_append, List.length_cons]
        omega
    have := this b
    omega
theorem ba_nil (Z : ByteArray) : Z ++ (⟨#[]⟩ : ByteArray) = Z := ba_ext (by rw [ba_app]; simp)
theorem len_wrd (q : Bool) (b : List UInt8) : b.length ≤ (wrd q b).length := by
  rw [wrd_len12]
  unfold txW
  cases q
  · simp only [Bool.false_eq_true, if_false]
    rw [e64L_len]
    omega
  · simp only [if_true]
    have : ∀ l : List UInt8, l.length ≤ (qL l).length := fun l => by
      induction l with
      | nil => simp [qL]
      | cons c t ih =>
        have h1 : qL (c :: t) = qB c ++ qL t := by simp [qL]
        have h2 := (qB_le c).2
        rw [h1, List.length_append, List.length_cons]
        omega
    have := this b
    omega
set_option maxRecDepth 100000 in
set_option maxHeartbeats 8000000 in
theorem vwritten_any (q : Bool) : ∀ (m : Nat) (l : List Int), l.length ≤ m → (∀ r ∈ l, isR r) → ∀ (a : Option Addr) (cap n : Nat) (w : World), n = l.length → n ≤ cap → Rns a l w → l.length ≤ 1048576 →
    Calls Tryd.prog 26 #[.slice a n cap, .bool q] w fun e w' => e = .returned (.string (bS (jnW (wrS q [] l)))) ∧ Below w.heap.size w w' := by
  intro m
  induction m with
  | zero =>
    intro l hl hr a cap n w hn hc hb hz
    obtain rfl : l = [] := List.eq_nil_of_length_eq_zero (by omega)
    obtain rfl : n = 0 := hn
    go_enter Tryd.func26, Tryd.ntmps26
    go_wp2
    go_ret
    exact ⟨by simp [wrS, jnW, bS], Below.refl _ _⟩
  | succ m ih =>
    intro l hl hr a cap n w hn hc hb hz
    by_cases h0 : n = 0
    · obtain rfl : l = [] := List.eq_nil_of_length_eq_zero (by omega)
      subst h0
      clear hn hl hz hr ih
      go_enter Tryd.func26, Tryd.ntmps26
      go_wp2
      go_ret
      exact ⟨by simp [wrS, jnW, bS], Below.refl _ _⟩
    · have hne : l ≠ [] := fun e => h0 (by rw [hn, e]; rfl)
      have HL : Hid (Rns a l w) := hb
      have HN : Hid (n = l.length) := hn
      have HR : Hid (∀ r ∈ l, isR r) := hr
      have HFI := wrS_first q l hne
      have HJ : Hid (jnW (wrS q [] l) = wrd q (encL (l.take (tkN q [] l))) ++ (if jnW (wrS q [] (l.drop (tkN q [] l))) = [] then [] else 32 :: jnW (wrS q [] (l.drop (tkN q [] l))))) := jn_first q l hne
      have HT1 : 1 ≤ tkN q [] l := HFI.2
      have HTL := tkN_le q l []
      have HWR : Hid (∀ (r : Int), isR r → ∀ wx, Calls Tryd.prog 53 #[.int .i32 r] wx fun e w' => e = .returned (.slice (some ⟨wx.heap.size, 0, none⟩) (Lib.encodeRune r).length (Lib.encodeRune r).length) ∧ w' = wx.alloc (.cells (rowV (Lib.encodeRune r)) 5)) := fun r h wx => dwr_any r h wx
      have hn2 : n ≤ 1048576 := by omega
      have hn0 : ((n : Int) == 0) = false := by simp [h0]
      clear HFI hb hn hr hne
      go_enter Tryd.func26, Tryd.ntmps26
      go_wp2_with fail
      go_loopw [5, 6] (fun kv v wr => ∃ k : Nat, k ≤ n ∧ kv = .int .i64 k ∧ (encL (l.take k)).length ≤ 75 ∧ Hid (tkN q [] l = k + tkN q (encL (l.take k)) (l.drop k)) ∧ Hid (wr.ownsRow w.heap.size 5 1 v (encL (l.take k)).length (cellsB (encL (l.take k)))) ∧ Hid (Below w.heap.size w wr)) (fun kv _ _ => n - (intOf kv).toNat)
      case atStart => exact ⟨0, Nat.zero_le _, rfl, by simp [encL], by show _ = _; simp [encL], own_nil _ _, Below.refl _ _⟩
      case round =>
        obtain ⟨k, hk, rfl, hle, HT, HO, HB⟩ := hrel
        by_cases hlt : k < n
        · have hkl : k < l.length := by rw [← HN.out]; exact hlt
          obtain ⟨g, o, rfl, hg, hc⟩ := HL.out.cell k hkl
          have HST := tkN_step q l k hkl
          obtain ⟨r, hrr⟩ : ∃ r, r = l[k] := ⟨_, rfl⟩
          have hir : isR r := by rw [hrr]; exact HR.out _ (List.getElem_mem hkl)
          have hsu : encL (l.take (k + 1)) = encL (l.take k) ++ Lib.encodeRune r := by rw [List.take_succ_eq_append_getElem hkl, encL_app, ← hrr]; simp [encL]
          rw [← hrr] at hc HST
          have hc2 : wr.cell? ⟨g, o + k, none⟩ = some (.int .i32 r) := (HB.out.cell (p := ⟨g, o + k, none⟩) hg).trans hc
          have hel := (encR_len r).2
          have HC := HWR.out r hir
          have HST2 : Hid (tkN q (encL (l.take k)) (l.drop k) = if (wrd q (encL (l.take k) ++ Lib.encodeRune r)).length ≤ 75 then tkN q (encL (l.take (k + 1))) (l.drop (k + 1)) + 1 else 0) := HST
          have HSU : Hid (encL (l.take (k + 1)) = encL (l.take k) ++ Lib.encodeRune r) := hsu
          have HCC : Hid (∀ wx, Calls Tryd.prog 53 #[.int .i32 r] wx fun e w' => e = .returned (.slice (some ⟨wx.heap.size, 0, none⟩) (Lib.encodeRune r).length (Lib.encodeRune r).length) ∧ w' = wx.alloc (.cells (rowV (Lib.encodeRune r)) 5)) := HC
          have HW52 : Hid (∀ a cap n wx, n = (encL (l.take k) ++ Lib.encodeRune r).length → Bts a (encL (l.take k) ++ Lib.encodeRune r) wx → Calls Tryd.prog 52 #[.slice a n cap, .bool q] wx fun e w' => e = .returned (.string (bS (wrd q (encL (l.take k) ++ Lib.encodeRune r)))) ∧ Below wx.heap.size wx w') := fun a cap n wx h1 h2 => vword_any q a _ cap n wx h1 h2 (by rw [List.length_append]; omega)
          have hki : (k : Int) < (n : Int) := by omega
          clear hc hrr hsu HST HC
          generalize hDD : encL (l.take k) = D at *
          have HDD : Hid (encL (l.take k) = D) := hDD
          clear hDD
          generalize Lib.encodeRune r = R at *
          have hzr : w.heap.size ≤ wr.heap.size := HB.out.size
          obtain ⟨a2, cp2, rfl, hb2, hl2, hn2', hc2', ha2⟩ := own_bts HO.out
          have HB2 : Hid (Bts a2 D wr) := hb2
          have HCF : Hid (∀ wx, Below wr.heap.size wr wx → wx.cell? ⟨g, o + k, none⟩ = some (.int .i32 r)) := fun wx hb => (hb.cell (p := ⟨g, o + k, none⟩) (Nat.lt_of_lt_of_le hg hzr)).trans hc2
          have HN2 : Hid (a2 = none → cp2 = 0) := hn2'
          clear hb2 ha2 hl2 hn2'
          go_upto_region 5 with fail
          go_cut [29] from 11 to 38 (fun v wc => v = .bool (decide ((wrd q (D ++ R)).length ≤ 75)) ∧ Hid (Below wr.heap.size wr wc))
          case first =>
            refine wp_region_late (fun wx => wx.cell? ⟨g, o + k, none⟩ = some (.int .i32 r)) 19 (by kernel_rfl) hc2 (fun hHeld => ?_)
            refine wpAnyE_tk (i := 0) (d := some 11) (v := ?_) rfl (by kernel_rfl) (by kernel_rfl) (by kernel_rfl) rfl (fun _ _ _ h => h) rfl rfl ?hy (by first | assumption | go_simp) ?_
            case hy => (intro w' hSw; (try dsimp only at hSw); go_simp <;> (first | with_reducible rfl | omega | skip))
            simp only [Act.put, List.setIfInBounds_toArray, List.set_cons_zero, List.set_cons_succ]
            refine wpAnyE_tk (i := 1) (d := some 12) (v := ?_) rfl (by kernel_rfl) (by kernel_rfl) (by kernel_rfl) rfl (fun _ _ _ h => h) rfl rfl ?hy (by first | assumption | go_simp) ?_
            case hy => (intro w' hSw; (try dsimp only at hSw); go_simp <;> (first | with_reducible rfl | omega | skip))
            simp only [Act.put, List.setIfInBounds_toArray, List.set_cons_zero, List.set_cons_succ]
            refine wpAnyE_tk (i := 2) (d := some 13) (v := ?_) rfl (by kernel_rfl) (by kernel_rfl) (by kernel_rfl) rfl (fun _ _ _ h => h) rfl rfl ?hy (by first | assumption | go_simp) ?_
            case hy => (intro w' hSw; (try dsimp only at hSw); go_simp <;> (first | with_reducible rfl | omega | skip))
            simp only [Act.put, List.setIfInBounds_toArray, List.set_cons_zero, List.set_cons_succ]
            refine wpAnyE_tk (i := 3) (d := some 14) (v := ?_) rfl (by kernel_rfl) (by kernel_rfl) (by kernel_rfl) rfl (fun _ _ _ h => h) rfl rfl ?hy (by first | assumption | go_simp) ?_
            case hy => (intro w' hSw; (try dsimp only at hSw); go_simp <;> (first | with_reducible rfl | omega | skip))
            simp only [Act.put, List.setIfInBounds_toArray, List.set_cons_zero, List.set_cons_succ]
            refine wpAnyE_tk (i := 4) (d := some 15) (v := ?_) rfl (by kernel_rfl) (by kernel_rfl) (by kernel_rfl) rfl (fun _ _ _ h => h) rfl rfl ?hy (by first | assumption | go_simp) ?_
            case hy => (intro w' hSw; (try dsimp only at hSw); go_simp <;> (first | with_reducible rfl | omega | skip))
            simp only [Act.put, List.setIfInBounds_toArray, List.set_cons_zero, List.set_cons_succ]
            refine wpAnyE_tk (i := 6) (d := some 17) (v := ?_) rfl (by kernel_rfl) (by kernel_rfl) (by kernel_rfl) rfl (fun _ _ _ h => h) rfl rfl ?hy (by first | assumption | go_simp) ?_
            case hy => (intro w' hSw; (try dsimp only at hSw); go_simp <;> (first | with_reducible rfl | omega | skip))
            simp only [Act.put, List.setIfInBounds_toArray, List.set_cons_zero, List.set_cons_succ]
            refine wpAnyE_tk (i := 8) (d := some 19) (v := ?_) rfl (by kernel_rfl) (by kernel_rfl) (by kernel_rfl) rfl (fun _ _ _ h => h) rfl rfl ?hy (by first | assumption | go_simp) ?_
            case hy => (intro w' hSw; (try dsimp only at hSw); go_simp <;> (first | with_reducible rfl | omega | skip))
            simp only [Act.put, List.setIfInBounds_toArray, List.set_cons_zero, List.set_cons_succ]
            refine wpAnyE_tk (i := 9) (d := some 20) (v := ?_) rfl (by kernel_rfl) (by kernel_rfl) (by kernel_rfl) rfl (fun _ _ _ h => h) rfl rfl ?hy (by first | assumption | go_simp) ?_
            case hy => (intro w' hSw; (try dsimp only at hSw); go_simp <;> (first | with_reducible rfl | omega | skip))
            simp only [Act.put, List.setIfInBounds_toArray, List.set_cons_zero, List.set_cons_succ]
            refine wpAnyE_tk (i := 10) (d := some 21) (v := ?_) rfl (by kernel_rfl) (by kernel_rfl) (by kernel_rfl) rfl (fun _ _ _ h => h) rfl rfl ?hy (by first | assumption | go_simp) ?_
            case hy => (intro w' hSw; (try dsimp only at hSw); go_simp <;> (first | with_reducible rfl | omega | skip))
            simp only [Act.put, List.setIfInBounds_toArray, List.set_cons_zero, List.set_cons_succ]
            refine wpAnyE_tk (i := 11) (d := some 22) (v := ?_) rfl (by kernel_rfl) (by kernel_rfl) (by kernel_rfl) rfl (fun _ _ _ h => h) rfl rfl ?hy (by first | assumption | go_simp) ?_
            case hy => (intro w' hSw; (try dsimp only at hSw); go_simp <;> (first | with_reducible rfl | omega | skip))
            simp only [Act.put, List.setIfInBounds_toArray, List.set_cons_zero, List.set_cons_succ]
            refine wpAnyE_tk (i := 14) (d := some 25) (v := ?_) rfl (by kernel_rfl) (by kernel_rfl) (by kernel_rfl) rfl (fun _ _ _ h => h) rfl rfl ?hy (by first | assumption | go_simp) ?_
            case hy => (intro w' hSw; (try dsimp only at hSw); go_simp <;> (first | with_reducible rfl | omega | skip))
            simp only [Act.put, List.setIfInBounds_toArray, List.set_cons_zero, List.set_cons_succ]
            refine wpAnyE_on (i := 5) (by kernel_rfl) rfl rfl ?_
            go_simp
            have HB5 : Hid (Below wr.heap.size wr (wr.alloc (.cells #[] 5)).drew) := ((Below.refl _ wr).alloc (Nat.le_refl _) _).drew
            refine ⟨(HB5.out.cell (p := ⟨g, o + k, none⟩) (Nat.lt_of_lt_of_le hg hzr)).trans hc2, ?_⟩
            refine wpAnyE_on (i := 7) (by kernel_rfl) rfl rfl ?_
            refine wp_append_bytes _ _ rfl wr.heap.size (.slice (some ⟨wr.heap.size, 0, none⟩) 0 0) 0 [] rfl (World.ownsRow_made wr #[] 0 (Nat.le_refl _) (by unfold maxLen; omega) rfl) a2 D D.length cp2 rfl rfl (HB2.out.below HB5.out) HN2.out (by omega) HB5.out.size ?_
            intro v7 w7 ho7 hg7
            have HB7 : Hid (Below wr.heap.size wr w7) := HB5.out.grown hg7 HB5.out.size (fun q hq => Nat.le_of_eq (Option.some.inj hq))
            refine ⟨.inr (HCF.out _ HB7.out), ?_⟩
            have HO7 : Hid (w7.ownsRow wr.heap.size 5 1 v7 (0 + D.length) (cellsB ([] ++ D))) := ho7
            clear ho7 hg7
            simp only [Act.put, List.setIfInBounds_toArray]
            refine wpAnyE_on (i := 12) (by kernel_rfl) rfl rfl ?_
            go_simp
            refine (HCC.out _).mono ?_
            rintro e w8 ⟨rfl, hw8⟩
            dsimp only
            have hb8 : Below w7.heap.size w7 w8 := by rw [hw8]; exact (Below.refl _ w7).alloc (Nat.le_refl _) _
            have HB8 : Hid (Below wr.heap.size wr w8) := HB7.out.trans (hb8.mono HB7.out.size)
            have HR8 : Hid (Bts (some ⟨w7.heap.size, 0, none⟩) R w8) := by rw [hw8]; exact bts_new w7 R
            have HO8 : Hid (w8.ownsRow wr.heap.size 5 1 v7 (0 + D.length) (cellsB ([] ++ D))) := own_below HO7.out hb8
            refine ⟨HCF.out _ HB8.out, ?_⟩
            clear hw8 hb8 HO7
            refine wpAnyE_on (i := 13) (by kernel_rfl) rfl rfl ?_
            refine wp_append_bytes _ _ rfl wr.heap.size v7 (0 + D.length) ([] ++ D) rfl HO8.out (some ⟨w7.heap.size, 0, none⟩) R R.length R.length rfl rfl HR8.out (fun e => by cases e) (by omega) HB8.out.size ?_
            intro v9 w9 ho9 hg9
            have HB9 : Hid (Below wr.heap.size wr w9) := HB8.out.grown hg9 HB8.out.size (fun q hq => (HO8.out.lt q hq).1)
            refine ⟨.inr (HCF.out _ HB9.out), ?_⟩
            obtain ⟨a9, cp9, rfl, hb9, hl9, -, -, -⟩ := own_bts ho9
            have HC9 := HW52.out a9 cp9 (D.length + R.length) w9 (by rw [List.length_append]) hb9
            generalize hZ : bS (wrd q (D ++ R)) = Z at HC9
            have hZ2 : Z.size = (wrd q (D ++ R)).length := by rw [← hZ]; exact List.size_toArray
            clear ho9 hg9 hl9 hb9 hZ
            simp only [Act.put, List.setIfInBounds_toArray]
            refine wpAnyE_on (i := 15) (by kernel_rfl) rfl rfl ?_
            go_simp
            refine HC9.mono ?_
            rintro e wc ⟨rfl, hbc⟩
            dsimp only
            have HBc : Hid (Below wr.heap.size wr wc) := HB9.out.trans (hbc.mono HB9.out.size)
            refine ⟨HCF.out _ HBc.out, ?_⟩
            have hcc := HCF.out _ HBc.out
            refine wpAnyE_tk (i := 16) (d := some 27) (v := ?_) rfl (by kernel_rfl) (by kernel_rfl) (by kernel_rfl) rfl (fun _ _ _ h => h) rfl rfl ?hy (by first | assumption | go_simp) ?_
            case hy => (intro w' hSw; (try dsimp only at hSw); go_simp <;> (first | with_reducible rfl | omega | skip))
            simp only [Act.put, List.setIfInBounds_toArray, List.set_cons_zero, List.set_cons_succ]
            refine wpAnyE_tk (i := 17) (d := some 28) (v := ?_) rfl (by kernel_rfl) (by kernel_rfl) (by kernel_rfl) rfl (fun _ _ _ h => h) rfl rfl ?hy (by first | assumption | go_simp) ?_
            case hy => (intro w' hSw; (try dsimp only at hSw); go_simp <;> (first | with_reducible rfl | omega | skip))
            simp only [Act.put, List.setIfInBounds_toArray, List.set_cons_zero, List.set_cons_succ]
            refine wpAnyE_tk (i := 18) (d := some 29) (v := ?_) rfl (by kernel_rfl) (by kernel_rfl) (by kernel_rfl) rfl (fun _ _ _ h => h) rfl rfl ?hy (by first | assumption | go_simp) ?_
            case hy => (intro w' hSw; (try dsimp only at hSw); go_simp <;> (first | with_reducible rfl | omega | skip))
            simp only [Act.put, List.setIfInBounds_toArray, List.set_cons_zero, List.set_cons_succ]
            refine wpAnyE_done (by kernel_rfl) ?_ _
            go_wp2_with fail
            go_meet
            exact ⟨congrArg Value.bool (by rw [← hZ2]; first | rfl | (rw [Bool.eq_iff_iff, decide_eq_true_iff, decide_eq_true_iff]; omega)), HBc.out⟩
          case rest =>
            obtain ⟨rfl, HBC⟩ := hcut
            have HBw : Hid (Below w.heap.size w wc) := HB.out.trans (HBC.out.mono hzr)
            have HOc : Hid (wc.ownsRow w.heap.size 5 1 (.slice a2 D.length cp2) D.length (cellsB D)) := own_below HO.out HBC.out
            have hc3 := HCF.out _ HBC.out
            by_cases hfit : (wrd q (D ++ R)).length ≤ 75
            · have HSX : Hid (tkN q D (l.drop k) = tkN q (encL (l.take (k + 1))) (l.drop (k + 1)) + 1) := HST2.out.trans (if_pos hfit)
              have hlD := len_wrd q (D ++ R)
              rw [List.length_append] at hlD
              have hlD2 : D.length + R.length ≤ 75 := by omega
              have hdec : decide ((wrd q (D ++ R)).length ≤ 75) = true := decide_eq_true hfit
              rw [hdec]
              clear HST2 hlD hdec hfit
              have HR1 : Hid (Bts (some ⟨wc.heap.size, 0, none⟩) R (wc.alloc (.cells (rowV R) 5))) := bts_new wc R
              have HO1 : Hid ((wc.alloc (.cells (rowV R) 5)).ownsRow w.heap.size 5 1 _ D.length (cellsB D)) := own_below HOc.out ((Below.refl _ wc).alloc (Nat.le_refl _) _)
              have hz1 : w.heap.size ≤ (wc.alloc (.cells (rowV R) 5)).heap.size := by have := HBw.out.size; simp; omega
              have HB1 : Hid (Below w.heap.size w (wc.alloc (.cells (rowV R) 5))) := HBw.out.alloc HBw.out.size _
              have HC1 := HCC.out wc
              have hnn : (n == 0) = false := by simp [h0]
              clear HBw HOc
              go_wp2_with fail
              refine HC1.mono ?_
              rintro e w2 ⟨rfl, hw2⟩
              rw [← hw2] at HR1 HO1 hz1 HB1
              clear HC1 hw2
              go_wp2_with (at_builtin; refine wpList_append_keep rfl _ _ rfl w.heap.size _ _ D rfl HO1.out (some ⟨wc.heap.size, 0, none⟩) R R.length R.length rfl rfl HR1.out (fun e => by cases e) (by omega) hz1 ?_; intro v5 w5 ho5 hg5)
              have hb5 : Below w.heap.size w2 w5 := (Below.refl _ w2).grown hg5 hz1 (fun q hq => (HO1.out.lt q hq).1)
              go_roundw
              case rel => exact ⟨k + 1, by omega, by go_num, by rw [HSU.out, List.length_append]; exact hlD2, by show _ = _; rw [HT.out, HSX.out]; omega, by show World.ownsRow _ _ _ _ _ _ _; rw [HSU.out, List.length_append]; exact ho5, HB1.out.trans hb5⟩
              case measure => simp [intOf]; omega
            · have HSX : Hid (tkN q D (l.drop k) = 0) := HST2.out.trans (if_neg hfit)
              have hdec : decide ((wrd q (D ++ R)).length ≤ 75) = false := decide_eq_false hfit
              rw [hdec]
              have HK : Hid (tkN q [] l = k) := by show _ = _; rw [HT.out, HSX.out]; omega
              have hk1 : 1 ≤ k := by rw [← HK.out]; exact HT1
              clear HST2 hdec hfit HSX HWR HCC hc3 hc2 hki
              have hlk : (l.drop k).length = n - k := by rw [List.length_drop, HN.out]
              have HSL := run_slR (some ⟨g, o, none⟩) n cap k hk
              have HIH : Hid (∀ wx, Below w.heap.size w wx → Calls Tryd.prog 26 #[.slice (slR (some ⟨g, o, none⟩) k cap) (n - k) (cap - k), .bool q] wx fun e w' => e = .returned (.string (bS (jnW (wrS q [] (l.drop k))))) ∧ Below wx.heap.size wx w') := fun wx hbx => ih (l.drop k) (by have := HN.out; omega) (fun r hr => HR.out r (List.mem_of_mem_drop hr)) (slR (some ⟨g, o, none⟩) k cap) (cap - k) (n - k) wx hlk.symm (by omega) ((HL.out.below hbx).cut k cap (by rw [← HN.out]; exact hc)) (by omega)
              have HVW : Hid (∀ wx, Below wc.heap.size wc wx → Calls Tryd.prog 52 #[.slice a2 D.length cp2, .bool q] wx fun e w' => e = .returned (.string (bS (wrd q D))) ∧ Below wx.heap.size wx w') := fun wx hbx => by
                obtain ⟨b1, b2, hb1, hb2, -⟩ := own_bts HOc.out
                cases hb1
                exact vword_any q a2 D cp2 D.length wx rfl (hb2.below hbx) (by omega)
              have hYl : (jnW (wrS q [] (l.drop k))).length ≤ 76 * 1048577 := by
                have := jn_wlen q (l.drop k) (fun r hr => HR.out r (List.mem_of_mem_drop hr))
                omega
              have hwl : (wrd q D).length ≤ 1000 := by
                have h1 := wrd_len12 q D
                have h2 := txW_lenV q D
                omega
              have HJ2 : Hid (jnW (wrS q [] l) = wrd q D ++ (if jnW (wrS q [] (l.drop k)) = [] then [] else 32 :: jnW (wrS q [] (l.drop k)))) := by
                have := HJ.out
                rw [HK.out, HDD.out] at this
                exact this
              clear HJ HT HO  hlk
              generalize jnW (wrS q [] (l.drop k)) = Y at *
              generalize wrd q D = V at *
              have hVs : (bS V).size ≤ 1000 := by show V.toArray.size ≤ _; rw [List.size_toArray]; exact hwl
              by_cases hY : Y = []
              · subst hY
                have HX : Hid (bS V = bS (jnW (wrS q [] l))) := by
                  show _ = _
                  rw [HJ2.out, if_pos rfl, List.append_nil]
                have HIH2 : Hid (∀ wx, Below w.heap.size w wx → Calls Tryd.prog 26 #[.slice (slR (some ⟨g, o, none⟩) k cap) (n - k) (cap - k), .bool q] wx fun e w' => e = .returned (.string ⟨#[]⟩) ∧ Below wx.heap.size wx w') := HIH.out
                clear HJ2 HIH
                generalize bS V = Z at *
                have hk3 : (Z.size : Int) + 0 ≤ 9223372036854775807 := by omega
                go_wp2_with fail
                refine (HIH2.out _ HBw.out).mono ?_
                rintro e w7 ⟨rfl, hb7⟩
                have HC7 := HVW.out w7 hb7
                have HB7 : Hid (Below w.heap.size w w7) := HBw.out.trans (hb7.mono HBw.out.size)
                clear HIH2 hb7
                go_wp2_with fail
                refine HC7.mono ?_
                rintro e w8 ⟨rfl, hb8⟩
                have HB8 : Hid (Below w.heap.size w w8) := HB7.out.trans (hb8.mono HB7.out.size)
                clear HC7 hb8
                go_wp2_with fail
                go_ret
                exact ⟨by rw [← HX.out]; exact congrArg (fun x => Ending.returned (.string x)) (ba_nil Z), HB8.out⟩
              · have HX : Hid (bS V ++ ((⟨#[32]⟩ : ByteArray) ++ bS Y) = bS (jnW (wrS q [] l))) := by
                  show _ = _
                  refine ba_ext ?_
                  rw [ba_app, ba_app, bS_list, bS_list, bS_list, HJ2.out, if_neg hY]
                  rfl
                have hYs : (bS Y).size ≤ 76 * 1048577 := by show Y.toArray.size ≤ _; rw [List.size_toArray]; exact hYl
                have hYt : (bS Y).toList.isEmpty = false := by
                  rw [ByteArray.toList_eq, bS_list]
                  simpa using hY
                clear HJ2 hY
                generalize bS Y = S at *
                generalize bS V = Z at *
                have hk3 : (1 : Int) + (S.size : Int) ≤ 9223372036854775807 := by omega
                have hk4 : (Z.size : Int) + (1 + (S.size : Int)) ≤ 9223372036854775807 := by omega
                go_wp2_with fail
                refine (HIH.out _ HBw.out).mono ?_
                rintro e w7 ⟨rfl, hb7⟩
                have HC7 := HVW.out w7 hb7
                have HB7 : Hid (Below w.heap.size w w7) := HBw.out.trans (hb7.mono HBw.out.size)
                clear HIH hb7
                go_wp2_with fail
                refine HC7.mono ?_
                rintro e w8 ⟨rfl, hb8⟩
                have HB8 : Hid (Below w.heap.size w w8) := HB7.out.trans (hb8.mono HB7.out.size)
                clear HC7 hb8
                go_wp2_with fail
                go_ret
                exact ⟨by rw [← HX.out]; rfl, HB8.out⟩
        · have HKN : Hid (k = n) := by show k = n; omega
          have HK : Hid (tkN q [] l = k) := by
            show _ = _
            rw [HT.out, List.drop_eq_nil_of_le (by rw [HKN.out, HN.out]; exact Nat.le_refl _)]
            rfl
          have hk1 : 1 ≤ k := by rw [← HK.out]; exact HT1
          generalize hDD : encL (l.take k) = D at *
          have HDD : Hid (encL (l.take k) = D) := hDD
          obtain ⟨a2, cp2, rfl, -, -, -, -, -⟩ := own_bts HO.out
          have hkf : ¬ (k : Int) < (n : Int) := by omega
          clear hDD hlt
          go_upto_region 5 with fail
          go_cut [29] from 11 to 38 (fun v wc => v = .bool false ∧ Hid (Below wr.heap.size wr wc))
          case first =>
            refine wp_region_late (fun _ => True) 19 (by kernel_rfl) trivial (fun hHeld => ?_)
            refine wpAnyE_tk (i := 0) (d := some 11) (v := ?_) rfl (by kernel_rfl) (by kernel_rfl) (by kernel_rfl) rfl (fun _ _ _ h => h) rfl rfl ?hy trivial ?_
            case hy => (intro w' hSw; (try dsimp only at hSw); go_simp <;> (first | with_reducible rfl | omega | skip))
            simp only [Act.put, List.setIfInBounds_toArray, List.set_cons_zero, List.set_cons_succ]
            refine wpAnyE_tk (i := 1) (d := some 12) (v := ?_) rfl (by kernel_rfl) (by kernel_rfl) (by kernel_rfl) rfl (fun _ _ _ h => h) rfl rfl ?hy trivial ?_
            case hy => (intro w' hSw; (try dsimp only at hSw); go_simp <;> (first | with_reducible rfl | omega | skip))
            simp only [Act.put, List.setIfInBounds_toArray, List.set_cons_zero, List.set_cons_succ]
            refine wpAnyE_tk (i := 2) (d := some 13) (v := ?_) rfl (by kernel_rfl) (by kernel_rfl) (by kernel_rfl) rfl (fun _ _ _ h => h) rfl rfl ?hy trivial ?_
            case hy => (intro w' hSw; (try dsimp only at hSw); go_simp <;> (first | with_reducible rfl | omega | skip))
            simp only [Act.put, List.setIfInBounds_toArray, List.set_cons_zero, List.set_cons_succ]
            refine wpAnyE_tk (i := 3) (d := some 14) (v := .bool false) rfl (by kernel_rfl) (by kernel_rfl) (by kernel_rfl) rfl (fun _ _ _ h => h) rfl rfl ?hy trivial ?_
            case hy => (intro w' hSw; (try dsimp only at hSw); go_simp <;> (first | with_reducible rfl | omega | skip))
            simp only [Act.put, List.setIfInBounds_toArray, List.set_cons_zero, List.set_cons_succ]
            refine wpAnyE_tk (i := 4) (d := some 15) (v := .bool false) rfl (by kernel_rfl) (by kernel_rfl) (by kernel_rfl) rfl (fun _ _ _ h => h) rfl rfl ?hy trivial ?_
            case hy => (intro w' hSw; (try dsimp only at hSw); go_simp <;> (first | with_reducible rfl | omega | skip))
            simp only [Act.put, List.setIfInBounds_toArray, List.set_cons_zero, List.set_cons_succ]
            refine wpAnyE_sk (i := 5) (d := some 16) rfl (by kernel_rfl) (by kernel_rfl) (by kernel_rfl) rfl (fun _ _ _ h => h) rfl rfl trivial ?_
            simp only [Act.put, List.setIfInBounds_toArray, List.set_cons_zero, List.set_cons_succ]
            refine wpAnyE_sk (i := 6) (d := some 17) rfl (by kernel_rfl) (by kernel_rfl) (by kernel_rfl) rfl (fun _ _ _ h => h) rfl rfl trivial ?_
            simp only [Act.put, List.setIfInBounds_toArray, List.set_cons_zero, List.set_cons_succ]
            refine wpAnyE_sk (i := 7) (d := some 18) rfl (by kernel_rfl) (by kernel_rfl) (by kernel_rfl) rfl (fun _ _ _ h => h) rfl rfl trivial ?_
            simp only [Act.put, List.setIfInBounds_toArray, List.set_cons_zero, List.set_cons_succ]
            refine wpAnyE_sk (i := 8) (d := some 19) rfl (by kernel_rfl) (by kernel_rfl) (by kernel_rfl) rfl (fun _ _ _ h => h) rfl rfl trivial ?_
            simp only [Act.put, List.setIfInBounds_toArray, List.set_cons_zero, List.set_cons_succ]
            refine wpAnyE_sk (i := 9) (d := some 20) rfl (by kernel_rfl) (by kernel_rfl) (by kernel_rfl) rfl (fun _ _ _ h => h) rfl rfl trivial ?_
            simp only [Act.put, List.setIfInBounds_toArray, List.set_cons_zero, List.set_cons_succ]
            refine wpAnyE_sk (i := 10) (d := some 21) rfl (by kernel_rfl) (by kernel_rfl) (by kernel_rfl) rfl (fun _ _ _ h => h) rfl rfl trivial ?_
            simp only [Act.put, List.setIfInBounds_toArray, List.set_cons_zero, List.set_cons_succ]
            refine wpAnyE_sk (i := 11) (d := some 22) rfl (by kernel_rfl) (by kernel_rfl) (by kernel_rfl) rfl (fun _ _ _ h => h) rfl rfl trivial ?_
            simp only [Act.put, List.setIfInBounds_toArray, List.set_cons_zero, List.set_cons_succ]
            refine wpAnyE_sk (i := 12) (d := some 23) rfl (by kernel_rfl) (by kernel_rfl) (by kernel_rfl) rfl (fun _ _ _ h => h) rfl rfl trivial ?_
            simp only [Act.put, List.setIfInBounds_toArray, List.set_cons_zero, List.set_cons_succ]
            refine wpAnyE_sk (i := 13) (d := some 24) rfl (by kernel_rfl) (by kernel_rfl) (by kernel_rfl) rfl (fun _ _ _ h => h) rfl rfl trivial ?_
            simp only [Act.put, List.setIfInBounds_toArray, List.set_cons_zero, List.set_cons_succ]
            refine wpAnyE_sk (i := 14) (d := some 25) rfl (by kernel_rfl) (by kernel_rfl) (by kernel_rfl) rfl (fun _ _ _ h => h) rfl rfl trivial ?_
            simp only [Act.put, List.setIfInBounds_toArray, List.set_cons_zero, List.set_cons_succ]
            refine wpAnyE_sk (i := 15) (d := some 26) rfl (by kernel_rfl) (by kernel_rfl) (by kernel_rfl) rfl (fun _ _ _ h => h) rfl rfl trivial ?_
            simp only [Act.put, List.setIfInBounds_toArray, List.set_cons_zero, List.set_cons_succ]
            refine wpAnyE_sk (i := 16) (d := some 27) rfl (by kernel_rfl) (by kernel_rfl) (by kernel_rfl) rfl (fun _ _ _ h => h) rfl rfl trivial ?_
            simp only [Act.put, List.setIfInBounds_toArray, List.set_cons_zero, List.set_cons_succ]
            refine wpAnyE_sk (i := 17) (d := some 28) rfl (by kernel_rfl) (by kernel_rfl) (by kernel_rfl) rfl (fun _ _ _ h => h) rfl rfl trivial ?_
            simp only [Act.put, List.setIfInBounds_toArray, List.set_cons_zero, List.set_cons_succ]
            refine wpAnyE_tk (i := 18) (d := some 29) (v := .bool false) rfl (by kernel_rfl) (by kernel_rfl) (by kernel_rfl) rfl (fun _ _ _ h => h) rfl rfl ?hy trivial ?_
            case hy => (intro w' hSw; (try dsimp only at hSw); go_simp <;> (first | with_reducible rfl | omega | skip))
            simp only [Act.put, List.setIfInBounds_toArray, List.set_cons_zero, List.set_cons_succ]
            refine wpAnyE_done (by kernel_rfl) ?_ _
            go_wp2_with fail
            go_meet
            exact ⟨rfl, (Below.refl _ wr).drew⟩
          case rest =>
            obtain ⟨rfl, HBC⟩ := hcut
            have HBw : Hid (Below w.heap.size w wc) := HB.out.trans (HBC.out.mono HB.out.size)
            have HOc : Hid (wc.ownsRow w.heap.size 5 1 (.slice a2 D.length cp2) D.length (cellsB D)) := own_below HO.out HBC.out
            clear HWR
            have hlk : (l.drop k).length = n - k := by rw [List.length_drop, HN.out]
            have HSL := run_slR a n cap k hk
            have HIH : Hid (∀ wx, Below w.heap.size w wx → Calls Tryd.prog 26 #[.slice (slR a k cap) (n - k) (cap - k), .bool q] wx fun e w' => e = .returned (.string (bS (jnW (wrS q [] (l.drop k))))) ∧ Below wx.heap.size wx w') := fun wx hbx => ih (l.drop k) (by have := HN.out; omega) (fun r hr => HR.out r (List.mem_of_mem_drop hr)) (slR a k cap) (cap - k) (n - k) wx hlk.symm (by omega) ((HL.out.below hbx).cut k cap (by rw [← HN.out]; exact hc)) (by omega)
            have HVW : Hid (∀ wx, Below wc.heap.size wc wx → Calls Tryd.prog 52 #[.slice a2 D.length cp2, .bool q] wx fun e w' => e = .returned (.string (bS (wrd q D))) ∧ Below wx.heap.size wx w') := fun wx hbx => by
              obtain ⟨b1, b2, hb1, hb2, -⟩ := own_bts HOc.out
              cases hb1
              exact vword_any q a2 D cp2 D.length wx rfl (hb2.below hbx) (by omega)
            have hYl : (jnW (wrS q [] (l.drop k))).length ≤ 76 * 1048577 := by
              have := jn_wlen q (l.drop k) (fun r hr => HR.out r (List.mem_of_mem_drop hr))
              omega
            have hwl : (wrd q D).length ≤ 1000 := by
              have h1 := wrd_len12 q D
              have h2 := txW_lenV q D
              omega
            have HJ2 : Hid (jnW (wrS q [] l) = wrd q D ++ (if jnW (wrS q [] (l.drop k)) = [] then [] else 32 :: jnW (wrS q [] (l.drop k)))) := by
              have := HJ.out
              rw [HK.out, HDD.out] at this
              exact this
            clear HJ HT HO  hlk
            generalize jnW (wrS q [] (l.drop k)) = Y at *
            generalize wrd q D = V at *
            have hVs : (bS V).size ≤ 1000 := by show V.toArray.size ≤ _; rw [List.size_toArray]; exact hwl
            by_cases hY : Y = []
            · subst hY
              have HX : Hid (bS V = bS (jnW (wrS q [] l))) := by
                show _ = _
                rw [HJ2.out, if_pos rfl, List.append_nil]
              have HIH2 : Hid (∀ wx, Below w.heap.size w wx → Calls Tryd.prog 26 #[.slice (slR a k cap) (n - k) (cap - k), .bool q] wx fun e w' => e = .returned (.string ⟨#[]⟩) ∧ Below wx.heap.size wx w') := HIH.out
              clear HJ2 HIH
              generalize bS V = Z at *
              have hk3 : (Z.size : Int) + 0 ≤ 9223372036854775807 := by omega
              go_wp2_with fail
              refine (HIH2.out _ HBw.out).mono ?_
              rintro e w7 ⟨rfl, hb7⟩
              have HC7 := HVW.out w7 hb7
              have HB7 : Hid (Below w.heap.size w w7) := HBw.out.trans (hb7.mono HBw.out.size)
              clear HIH2 hb7
              go_wp2_with fail
              refine HC7.mono ?_
              rintro e w8 ⟨rfl, hb8⟩
              have HB8 : Hid (Below w.heap.size w w8) := HB7.out.trans (hb8.mono HB7.out.size)
              clear HC7 hb8
              go_wp2_with fail
              go_ret
              exact ⟨by rw [← HX.out]; exact congrArg (fun x => Ending.returned (.string x)) (ba_nil Z), HB8.out⟩
            · have HX : Hid (bS V ++ ((⟨#[32]⟩ : ByteArray) ++ bS Y) = bS (jnW (wrS q [] l))) := by
                show _ = _
                refine ba_ext ?_
                rw [ba_app, ba_app, bS_list, bS_list, bS_list, HJ2.out, if_neg hY]
                rfl
              have hYs : (bS Y).size ≤ 76 * 1048577 := by show Y.toArray.size ≤ _; rw [List.size_toArray]; exact hYl
              have hYt : (bS Y).toList.isEmpty = false := by
                rw [ByteArray.toList_eq, bS_list]
                simpa using hY
              clear HJ2 hY
              generalize bS Y = S at *
              generalize bS V = Z at *
              have hk3 : (1 : Int) + (S.size : Int) ≤ 9223372036854775807 := by omega
              have hk4 : (Z.size : Int) + (1 + (S.size : Int)) ≤ 9223372036854775807 := by omega
              go_wp2_with fail
              refine (HIH.out _ HBw.out).mono ?_
              rintro e w7 ⟨rfl, hb7⟩
              have HC7 := HVW.out w7 hb7
              have HB7 : Hid (Below w.heap.size w w7) := HBw.out.trans (hb7.mono HBw.out.size)
              clear HIH hb7
              go_wp2_with fail
              refine HC7.mono ?_
              rintro e w8 ⟨rfl, hb8⟩
              have HB8 : Hid (Below w.heap.size w w8) := HB7.out.trans (hb8.mono HB7.out.size)
              clear HC7 hb8
              go_wp2_with fail
              go_ret
              exact ⟨by rw [← HX.out]; rfl, HB8.out⟩
end Go.Proofs.YtdgepnfgjgbkoaaDoor
