/-
  Rows of items: are they the same? Are all pieces empty?
-/
import Derived.Test.YthnjbnhmdjpfpaaFv15
import Derived.Test.YthnjbnhmdjpfpaaOwn7
namespace Go.Proofs.Ythnjbnhmdjpfpaa
open Go.RowKit

/-- An item in a row: what it says, and where its bytes lie. -/
structure Ie where
  i : Fi
  a : Option Addr
  c : Nat
def celI (x : Ie) : List Value := [.int .i64 (fiK x.i), .string ⟨(fiT x.i).toArray⟩, .slice x.a (fiB x.i).length x.c, .int .i64 (fiY x.i), .bool (fiH x.i)]
theorem celI_length (x : Ie) : (celI x).length = 5 := rfl
theorem oneI (x : Ie) : ∀ v ∈ celI x, v.oneCell' = true := by simp [celI, Value.oneCell']
theorem infoIE : (Try.prog.info? 50).map (fun i => (i.zero, i.size, i.bytes)) = some (some (Value.agg #[.int .i64 0, .string ⟨#[]⟩, .slice none 0 0, .int .i64 0, .bool false]), 5, 64) := by kernel_rfl
theorem ie_elem {w : World} {g n c : Nat} {l : List Ie} (h : Ow celI 50 5 w (.slice (some ⟨g, 0, none⟩) n c) l) (i : Nat) (hi : i < l.length) : w.cell? ⟨g, i * 5, none⟩ = some (.int .i64 (fiK l[i].i)) ∧ w.cell? ⟨g, i * 5 + 1, none⟩ = some (.string ⟨(fiT l[i].i).toArray⟩) ∧ w.cell? ⟨g, i * 5 + 2, none⟩ = some (.slice l[i].a (fiB l[i].i).length l[i].c) ∧ w.cell? ⟨g, i * 5 + 3, none⟩ = some (.int .i64 (fiY l[i].i)) ∧ w.cell? ⟨g, i * 5 + 4, none⟩ = some (.bool (fiH l[i].i)) := by
  have hl : (l.flatMap celI).length = l.length * 5 := flat_length celI_length l
  refine ⟨?_, ?_, ?_, ?_, ?_⟩
  · rw [h.cells (i * 5) (by omega)]; exact flat_at celI_length l i 0 hi (by decide)
  · rw [h.cells (i * 5 + 1) (by omega)]; exact flat_at celI_length l i 1 hi (by decide)
  · rw [h.cells (i * 5 + 2) (by omega)]; exact flat_at celI_length l i 2 hi (by decide)
  · rw [h.cells (i * 5 + 3) (by omega)]; exact flat_at celI_length l i 3 hi (by decide)
  · rw [h.cells (i * 5 + 4) (by omega)]; exact flat_at celI_length l i 4 hi (by decide)
set_option maxHeartbeats 4000000 in
set_option maxRecDepth 20000 in
theorem sameitems_yes (va vb : Value) (xs ys : List Ie) (w : World) (ha : Ow celI 50 5 w va xs) (hb : Ow celI 50 5 w vb ys) (hxy : xs.map Ie.i = ys.map Ie.i) (hx : ∀ x ∈ xs, Bts x.a (fiB x.i) w) (hy : ∀ y ∈ ys, Bts y.a (fiB y.i) w) (hl : xs.length ≤ 1099511627776) : Calls Try.prog 25 #[va, vb] w fun e w' => e = .returned (.bool true) ∧ Below w.heap.size w w' := by
  obtain ⟨aa, ac, rfl, has⟩ := ha.shape
  obtain ⟨ba, bc, rfl, hbs⟩ := hb.shape
  have hlen : ys.length = xs.length := by have := congrArg List.length hxy; simpa using this.symm
  have HA : Hid (Ow celI 50 5 w (.slice aa xs.length ac) xs) := ha
  have HBB : Hid (Ow celI 50 5 w (.slice ba ys.length bc) ys) := hb
  have HX : Hid (∀ x ∈ xs, Bts x.a (fiB x.i) w) := hx
  have HY : Hid (∀ y ∈ ys, Bts y.a (fiB y.i) w) := hy
  have HXY : Hid (xs.map Ie.i = ys.map Ie.i) := hxy
  have HAS : Hid (xs ≠ [] → ∃ g, aa = some ⟨g, 0, none⟩) := has
  have HBS : Hid (ys ≠ [] → ∃ g, ba = some ⟨g, 0, none⟩) := hbs
  have HYL : Hid (ys.length = xs.length) := hlen
  clear ha hb hx hy has hbs hxy hlen
  rw [HYL.out] at HBB ⊢
  go_enter Try.func25, Try.ntmps25
  go_wp2_with fail
  go_loopw [5, 13] (fun _ iv wr => ∃ i : Nat, i ≤ xs.length ∧ iv = .int .i64 i ∧ Hid (Below w.heap.size w wr)) (fun _ iv _ => xs.length - (intOf iv).toNat)
  case atStart => exact ⟨0, Nat.zero_le _, rfl, Below.refl _ _⟩
  case round =>
    obtain ⟨i, hi, rfl, HB⟩ := hrel
    by_cases hlt : i < xs.length
    · have hlt' : (i : Int) < (xs.length : Int) := by omega
      obtain ⟨ga, rfl⟩ := HAS.out (fun e => by rw [e] at hlt; cases hlt)
      obtain ⟨gb, rfl⟩ := HBS.out (fun e => by have := HYL.out; rw [e] at this; simp at this; omega)
      have hly : i < ys.length := by rw [HYL.out]; exact hlt
      have hii : ys[i].i = xs[i].i := by
        have h1 : (xs.map Ie.i)[i]? = (ys.map Ie.i)[i]? := by rw [HXY.out]
        rw [List.getElem?_map, List.getElem?_map, List.getElem?_eq_getElem hlt, List.getElem?_eq_getElem hly] at h1
        simpa using h1.symm
      have HSS : Hid (∀ wx, Below w.heap.size w wx → wx.cell? ⟨ga, i * 5, none⟩ = some (.int .i64 (fiK xs[i].i)) ∧ wx.cell? ⟨ga, i * 5 + 1, none⟩ = some (.string ⟨(fiT xs[i].i).toArray⟩) ∧ wx.cell? ⟨ga, i * 5 + 2, none⟩ = some (.slice xs[i].a (fiB xs[i].i).length xs[i].c) ∧ wx.cell? ⟨ga, i * 5 + 3, none⟩ = some (.int .i64 (fiY xs[i].i)) ∧ wx.cell? ⟨ga, i * 5 + 4, none⟩ = some (.bool (fiH xs[i].i)) ∧ wx.cell? ⟨gb, i * 5, none⟩ = some (.int .i64 (fiK ys[i].i)) ∧ wx.cell? ⟨gb, i * 5 + 1, none⟩ = some (.string ⟨(fiT ys[i].i).toArray⟩) ∧ wx.cell? ⟨gb, i * 5 + 2, none⟩ = some (.slice ys[i].a (fiB ys[i].i).length ys[i].c) ∧ wx.cell? ⟨gb, i * 5 + 3, none⟩ = some (.int .i64 (fiY ys[i].i)) ∧ wx.cell? ⟨gb, i * 5 + 4, none⟩ = some (.bool (fiH ys[i].i))) := fun wx hb => by
        obtain ⟨a1, a2, a3, a4, a5⟩ := ie_elem (HA.out.below hb) i hlt
        obtain ⟨b1, b2, b3, b4, b5⟩ := ie_elem (HBB.out.below hb) i hly
        exact ⟨a1, a2, a3, a4, a5, b1, b2, b3, b4, b5⟩
      have HSM : Hid (∀ wx, Below w.heap.size w wx → Calls Try.prog 20 #[.agg #[.int .i64 (fiK xs[i].i), .string ⟨(fiT xs[i].i).toArray⟩, .slice xs[i].a (fiB xs[i].i).length xs[i].c, .int .i64 (fiY xs[i].i), .bool (fiH xs[i].i)], .agg #[.int .i64 (fiK ys[i].i), .string ⟨(fiT ys[i].i).toArray⟩, .slice ys[i].a (fiB ys[i].i).length ys[i].c, .int .i64 (fiY ys[i].i), .bool (fiH ys[i].i)]] wx fun e w' => e = .returned (.bool true) ∧ Below wx.heap.size wx w') := fun wx hb => by
        have hbx := (HX.out xs[i] (List.getElem_mem hlt)).below hb
        have hby := (HY.out ys[i] (List.getElem_mem hly)).below hb
        rw [hii] at hby ⊢
        exact lsame_yes _ _ _ _ _ _ (fiB xs[i].i) _ _ _ _ rfl rfl wx hbx hby
      have hS0 := HSS.out wr HB.out
      clear hii
      generalize xs[i] = x at *
      generalize ys[i] = y at *
      go_wp2_with fail
      refine wp_region_late (fun wx => wx.cell? ⟨ga, i * 5, none⟩ = some (.int .i64 (fiK x.i)) ∧ wx.cell? ⟨ga, i * 5 + 1, none⟩ = some (.string ⟨(fiT x.i).toArray⟩) ∧ wx.cell? ⟨ga, i * 5 + 2, none⟩ = some (.slice x.a (fiB x.i).length x.c) ∧ wx.cell? ⟨ga, i * 5 + 3, none⟩ = some (.int .i64 (fiY x.i)) ∧ wx.cell? ⟨ga, i * 5 + 4, none⟩ = some (.bool (fiH x.i)) ∧ wx.cell? ⟨gb, i * 5, none⟩ = some (.int .i64 (fiK y.i)) ∧ wx.cell? ⟨gb, i * 5 + 1, none⟩ = some (.string ⟨(fiT y.i).toArray⟩) ∧ wx.cell? ⟨gb, i * 5 + 2, none⟩ = some (.slice y.a (fiB y.i).length y.c) ∧ wx.cell? ⟨gb, i * 5 + 3, none⟩ = some (.int .i64 (fiY y.i)) ∧ wx.cell? ⟨gb, i * 5 + 4, none⟩ = some (.bool (fiH y.i))) 10 (by kernel_rfl) hS0 (fun hHeld => ?_)
      refine wpAnyE_tk (i := 0) (d := some 16) (v := ?_) rfl (by kernel_rfl) (by kernel_rfl) (by kernel_rfl) rfl (fun _ _ _ h => h) rfl rfl ?hy (by first | assumption | go_simp) ?_
      case hy => (intro w' hSw; (try dsimp only at hSw); go_simp <;> (first | with_reducible rfl | omega | skip))
      simp only [Act.put, List.setIfInBounds_toArray, List.set_cons_zero, List.set_cons_succ]
      refine wpAnyE_tk (i := 1) (d := some 17) (v := ?_) rfl (by kernel_rfl) (by kernel_rfl) (by kernel_rfl) rfl (fun _ _ _ h => h) rfl rfl ?hy (by first | assumption | go_simp) ?_
      case hy => (intro w' hSw; (try dsimp only at hSw); go_simp <;> (first | with_reducible rfl | omega | skip))
      simp only [Act.put, List.setIfInBounds_toArray, List.set_cons_zero, List.set_cons_succ]
      refine wpAnyE_tk (i := 2) (d := some 18) (v := .pointer (some ⟨ga, i * 5, none⟩)) rfl (by kernel_rfl) (by kernel_rfl) (by kernel_rfl) rfl (fun _ _ _ h => h) rfl rfl ?hy (by first | assumption | go_simp) ?_
      case hy => (intro w' hSw; (try dsimp only at hSw); go_simp <;> (first | with_reducible rfl | omega | skip))
      simp only [Act.put, List.setIfInBounds_toArray, List.set_cons_zero, List.set_cons_succ]
      refine wpAnyE_tk (i := 3) (d := some 19) (v := .agg #[.int .i64 (fiK x.i), .string ⟨(fiT x.i).toArray⟩, .slice x.a (fiB x.i).length x.c, .int .i64 (fiY x.i), .bool (fiH x.i)]) rfl (by kernel_rfl) (by kernel_rfl) (by kernel_rfl) rfl (fun _ _ _ h => h) rfl rfl ?hy (by first | assumption | go_simp) ?_
      case hy => (intro w' hSw; (try dsimp only at hSw); go_simp <;> (first | with_reducible rfl | omega | skip))
      simp only [Act.put, List.setIfInBounds_toArray, List.set_cons_zero, List.set_cons_succ]
      refine wpAnyE_tk (i := 4) (d := some 20) (v := ?_) rfl (by kernel_rfl) (by kernel_rfl) (by kernel_rfl) rfl (fun _ _ _ h => h) rfl rfl ?hy (by first | assumption | go_simp) ?_
      case hy => (intro w' hSw; (try dsimp only at hSw); go_simp <;> (first | with_reducible rfl | omega | skip))
      simp only [Act.put, List.setIfInBounds_toArray, List.set_cons_zero, List.set_cons_succ]
      refine wpAnyE_tk (i := 5) (d := some 21) (v := ?_) rfl (by kernel_rfl) (by kernel_rfl) (by kernel_rfl) rfl (fun _ _ _ h => h) rfl rfl ?hy (by first | assumption | go_simp) ?_
      case hy => (intro w' hSw; (try dsimp only at hSw); go_simp <;> (first | with_reducible rfl | omega | skip))
      simp only [Act.put, List.setIfInBounds_toArray, List.set_cons_zero, List.set_cons_succ]
      refine wpAnyE_tk (i := 6) (d := some 22) (v := .pointer (some ⟨gb, i * 5, none⟩)) rfl (by kernel_rfl) (by kernel_rfl) (by kernel_rfl) rfl (fun _ _ _ h => h) rfl rfl ?hy (by first | assumption | go_simp) ?_
      case hy => (intro w' hSw; (try dsimp only at hSw); go_simp <;> (first | with_reducible rfl | omega | skip))
      simp only [Act.put, List.setIfInBounds_toArray, List.set_cons_zero, List.set_cons_succ]
      refine wpAnyE_tk (i := 7) (d := some 23) (v := .agg #[.int .i64 (fiK y.i), .string ⟨(fiT y.i).toArray⟩, .slice y.a (fiB y.i).length y.c, .int .i64 (fiY y.i), .bool (fiH y.i)]) rfl (by kernel_rfl) (by kernel_rfl) (by kernel_rfl) rfl (fun _ _ _ h => h) rfl rfl ?hy (by first | assumption | go_simp) ?_
      case hy => (intro w' hSw; (try dsimp only at hSw); go_simp <;> (first | with_reducible rfl | omega | skip))
      simp only [Act.put, List.setIfInBounds_toArray, List.set_cons_zero, List.set_cons_succ]
      refine wpAnyE_on (i := 8) (by kernel_rfl) rfl rfl ?_
      go_simp
      refine Calls.mono (HSM.out wr.drew (HB.out.drew)) ?_
      rintro e w2 ⟨rfl, hB2⟩
      have HB2 : Hid (Below w.heap.size w w2) := (HB.out.drew).trans (hB2.mono HB.out.size)
      have hS2 := HSS.out w2 HB2.out
      clear hB2 hS0
      refine ⟨hS2, ?_⟩
      refine wpAnyE_tk (i := 9) (d := some 25) (v := .bool false) rfl (by kernel_rfl) (by kernel_rfl) (by kernel_rfl) rfl (fun _ _ _ h => h) rfl rfl ?hy (by first | assumption | go_simp) ?_
      case hy => (intro w' hSw; (try dsimp only at hSw); go_simp <;> (first | with_reducible rfl | omega | skip))
      simp only [Act.put, List.setIfInBounds_toArray, List.set_cons_zero, List.set_cons_succ]
      refine wpAnyE_done (by kernel_rfl) ?_ _
      clear hHeld hS2
      go_wp2_with fail
      go_round
      case rel => exact ⟨i + 1, hlt, by go_num, HB2.out⟩
      case measure => simp [intOf]; omega
    · have hlt' : ¬ (i : Int) < (xs.length : Int) := by omega
      go_wp2_with fail
      go_ret
      exact ⟨rfl, HB.out⟩
set_option maxHeartbeats 1000000 in
theorem lzeros_any (a : Option Addr) (l : List UInt8) (n cap : Nat) (hn : n = l.length) (hl : l.length ≤ 1099511627776) (w : World) (hb : Bts a l w) : Calls Try.prog 22 #[.slice a n cap] w fun e w' => e = .returned (.bool (l.all (· == 0))) ∧ w' = w := by
  subst hn
  have HB : Hid (Bts a l w) := hb
  clear hb
  go_enter Try.func22, Try.ntmps22
  go_wp2_with fail
  go_loopw [4, 7] (fun _ iv wr => ∃ k : Nat, k ≤ l.length ∧ iv = .int .i64 k ∧ wr = w ∧ Hid (l.all (· == 0) = (l.drop k).all (· == 0))) (fun _ iv _ => l.length - (intOf iv).toNat)
  case atStart => exact ⟨0, Nat.zero_le _, rfl, rfl, by show _ = _; simp⟩
  case round =>
    obtain ⟨k, hk, rfl, rfl, HE⟩ := hrel
    by_cases hlt : k < l.length
    · obtain ⟨g, q, rfl, hg, hrow⟩ := HB.out.resolve_left (fun e => by rw [e] at hlt; cases hlt)
      have hce := hrow k hlt
      have HE2 : Hid (l.all (· == 0) = ((l[k] == 0) && (l.drop (k + 1)).all (· == 0))) := by
        have := HE.out
        rw [List.drop_eq_getElem_cons hlt, List.all_cons] at this
        exact this
      clear hrow HE
      generalize l[k] = d at *
      by_cases hd : d = 0
      · have hd' : ¬ (0 : Int) < (d.toNat : Int) := by rw [hd]; decide
        have HE3 : Hid (l.all (· == 0) = (l.drop (k + 1)).all (· == 0)) := by rw [HE2.out, hd]; exact Bool.true_and _
        clear hd HE2
        go_wp2_with fail
        go_round
        case rel => exact ⟨k + 1, hlt, by go_num, trivial, HE3.out⟩
        case measure => simp [intOf]; omega
      · have hd' : (0 : Int) < (d.toNat : Int) := by
          have : d.toNat ≠ 0 := fun h => hd (UInt8.toNat_inj.1 (by simpa using h))
          omega
        have HF : Hid (l.all (· == 0) = false) := by rw [HE2.out, beq_false_of_ne hd]; exact Bool.false_and _
        clear hd HE2
        go_wp2_with fail
        go_ret
        exact ⟨by rw [HF.out]; rfl, rfl⟩
    · obtain rfl : k = l.length := by omega
      have HT : Hid (l.all (· == 0) = true) := by rw [HE.out, List.drop_length]; exact rfl
      go_wp2_with fail
      go_ret
      exact ⟨by rw [HT.out]; rfl, rfl⟩
end Go.Proofs.Ythnjbnhmdjpfpaa
