/-
  The errors' numbers, and what the document's examples name.
-/
import Derived.Test.YtedgimkffkflbaaDoorThrP
import Derived.Test.YtedgimkffkflbaaDoorOpen5
import Derived.Test.YtedgimkffkflbaaDoorRDec
import Derived.Test.YtedgimkffkflbaaDoorWak
import Derived.Test.YtedgimkffkflbaaDoorLate5
import Derived.Test.YtedgimkffkflbaaDoorCard5
import Derived.ProofKit
import Derived.ChangeMaps5
import Derived.OpenShut
import Derived.ShutString
import Derived.ChangeOld
import Derived.SizedLaws
namespace Go.Proofs.YtedgimkffkflbaaDoor.runesKnown
open Go.ChangeShapes Go.WideShapes Go.ChangeAt Go.RowKit

theorem punT_of (u : List Int) (hR : ∀ r ∈ u, isR r) (d : List UInt8) (hd : punD u = some d) : punT u = ⟨(punH u ++ d).toArray⟩ ∧ punE u = 0 := by
  have hn : ¬ noR u < u.length := by have := (noR_all u).2 hR; omega
  unfold punT punE
  rw [if_neg hn, if_neg hn, hd]
  exact ⟨rfl, rfl⟩
theorem known_puny (s : List UInt8) (l : List Int) (h : unpT s = l ∧ unpE s = (0, 0)) (hs : smallL s = s) : punT l = ⟨s.toArray⟩ ∧ punE l = 0 := by
  obtain ⟨h1, d, h2, h3⟩ := puny_back s (by rw [h.2])
  rw [h.1] at h1 h2 h3
  obtain ⟨h4, h5⟩ := punT_of _ h1 d h2
  rw [h3, hs] at h4
  exact ⟨h4, h5⟩

/-- The tables. -/
def cells1 : Array Value := #[.string ⟨#[97, 98, 99]⟩, .int .i64 3, .string ⟨#[97, 195]⟩, .int .i64 1, .string ⟨#[192, 128]⟩, .int .i64 0, .string ⟨#[237, 160, 128]⟩, .int .i64 0, .string ⟨#[244, 144, 128, 128]⟩, .int .i64 0, .string ⟨#[]⟩, .int .i64 0, .string ⟨#[239, 191, 191, 244, 143, 191, 191]⟩, .int .i64 7]
def cells2 (B : Nat) : Array Value := #[.string ⟨#[116, 100, 97]⟩, .slice (some ⟨B, 0, none⟩) 1 1, .string ⟨#[97, 98, 99, 45]⟩, .slice (some ⟨B + 1, 0, none⟩) 3 3, .string ⟨#[]⟩, .slice none 0 0, .string ⟨#[119, 103, 118, 55, 49, 97, 49, 49, 57, 101]⟩, .slice (some ⟨B + 2, 0, none⟩) 3 3, .string ⟨#[108, 115, 56, 104]⟩, .slice (some ⟨B + 3, 0, none⟩) 1 1, .string ⟨#[45, 45]⟩, .slice (some ⟨B + 4, 0, none⟩) 1 1, .string ⟨#[109, 97, 97, 110, 97, 45, 112, 116, 97]⟩, .slice (some ⟨B + 5, 0, none⟩) 6 6]
def cells3 : Array Value := #[.string ⟨#[45]⟩, .int .i64 51, .int .i64 0, .string ⟨#[98, 99, 104, 101, 114, 45, 107, 118]⟩, .int .i64 51, .int .i64 8, .string ⟨#[97, 33]⟩, .int .i64 51, .int .i64 1, .string ⟨#[57, 57, 57, 57, 57, 57, 57, 57]⟩, .int .i64 52, .int .i64 7, .string ⟨#[97, 255, 98, 45, 97]⟩, .int .i64 51, .int .i64 1]
theorem row1 (k : Nat) (hk : k < 7) : ∃ (s : ByteArray) (b : Nat), cells1[k * 2]? = some (.string s) ∧ cells1[k * 2 + 1]? = some (.int .i64 b) ∧ badU s.data.toList = b ∧ s.size ≤ 100 := by
  match k, hk with
  | 0, _ => exact ⟨⟨#[97, 98, 99]⟩, 3, rfl, rfl, by decide +kernel, by decide⟩
  | 1, _ => exact ⟨⟨#[97, 195]⟩, 1, rfl, rfl, by decide +kernel, by decide⟩
  | 2, _ => exact ⟨⟨#[192, 128]⟩, 0, rfl, rfl, by decide +kernel, by decide⟩
  | 3, _ => exact ⟨⟨#[237, 160, 128]⟩, 0, rfl, rfl, by decide +kernel, by decide⟩
  | 4, _ => exact ⟨⟨#[244, 144, 128, 128]⟩, 0, rfl, rfl, by decide +kernel, by decide⟩
  | 5, _ => exact ⟨⟨#[]⟩, 0, rfl, rfl, by decide +kernel, by decide⟩
  | 6, _ => exact ⟨⟨#[239, 191, 191, 244, 143, 191, 191]⟩, 7, rfl, rfl, by decide +kernel, by decide⟩
  | k + 7, h => omega
theorem row3 (k : Nat) (hk : k < 5) : ∃ (s : ByteArray) (e a : Nat), cells3[k * 3]? = some (.string s) ∧ cells3[k * 3 + 1]? = some (.int .i64 e) ∧ cells3[k * 3 + 2]? = some (.int .i64 a) ∧ unpT s.data.toList = [] ∧ unpE s.data.toList = (e, a) ∧ s.size ≤ 100 := by
  match k, hk with
  | 0, _ => exact ⟨⟨#[45]⟩, 51, 0, rfl, rfl, rfl, by decide +kernel, by decide +kernel, by decide⟩
  | 1, _ => exact ⟨⟨#[98, 99, 104, 101, 114, 45, 107, 118]⟩, 51, 8, rfl, rfl, rfl, by decide +kernel, by decide +kernel, by decide⟩
  | 2, _ => exact ⟨⟨#[97, 33]⟩, 51, 1, rfl, rfl, rfl, by decide +kernel, by decide +kernel, by decide⟩
  | 3, _ => exact ⟨⟨#[57, 57, 57, 57, 57, 57, 57, 57]⟩, 52, 7, rfl, rfl, rfl, by decide +kernel, by decide +kernel, by decide⟩
  | 4, _ => exact ⟨⟨#[97, 255, 98, 45, 97]⟩, 51, 1, rfl, rfl, rfl, by decide +kernel, by decide +kernel, by decide⟩
  | k + 5, h => omega
/-- The lists of the second table. -/
structure Ls2 (w : World) (B T : Nat) : Prop where
  l0 : Lies w (B) #[.int .i32 252] 21
  l1 : Lies w (B + 1) #[.int .i32 97, .int .i32 98, .int .i32 99] 21
  l2 : Lies w (B + 2) #[.int .i32 26085, .int .i32 26412, .int .i32 35486] 21
  l3 : Lies w (B + 3) #[.int .i32 128169] 21
  l4 : Lies w (B + 4) #[.int .i32 45] 21
  l5 : Lies w (B + 5) #[.int .i32 109, .int .i32 97, .int .i32 241, .int .i32 97, .int .i32 110, .int .i32 97] 21
  tab : Lies w T (cells2 B) 29
theorem Lies.newAt {w : World} {cs : Array Value} {t : TypeId} (n : Nat) (h : w.heap.size = n) : Lies (w.alloc (.cells cs t)) n cs t := h ▸ Lies.new w cs t
theorem Ls2.below {w w' : World} {B T : Nat} (h : Ls2 w B T) (hb : Below w.heap.size w w') : Ls2 w' B T :=
  ⟨h.l0.below hb h.l0.lt, h.l1.below hb h.l1.lt, h.l2.below hb h.l2.lt, h.l3.below hb h.l3.lt, h.l4.below hb h.l4.lt, h.l5.below hb h.l5.lt, h.tab.below hb h.tab.lt⟩
theorem nts_lies {w : World} {g : Nat} {l : List Int} {t : TypeId} (h : Lies w g (cellsN .i32 l).toArray t) : Nts .i32 (some ⟨g, 0, none⟩) l w :=
  .inr ⟨g, 0, rfl, h.lt, fun j hj => by rw [Nat.zero_add]; exact cellsN_cell h j _ (List.getElem?_eq_getElem hj)⟩
theorem row2 (w : World) (B T : Nat) (h : Ls2 w B T) (k : Nat) (hk : k < 7) : ∃ (s : ByteArray) (a : Option Addr) (l : List Int) (n c : Nat), (cells2 B)[k * 2]? = some (.string s) ∧ (cells2 B)[k * 2 + 1]? = some (.slice a n c) ∧ n = l.length ∧ (∀ wx, Below w.heap.size w wx → Nts .i32 a l wx) ∧ punT l = s ∧ punE l = 0 ∧ unpT s.data.toList = l ∧ unpE s.data.toList = (0, 0) ∧ l.length ≤ 10 ∧ s.size ≤ 100 := by
  match k, hk with
  | 0, _ =>
    have hu : unpT [116, 100, 97] = [252] ∧ unpE [116, 100, 97] = (0, 0) := by decide +kernel
    have hp := known_puny [116, 100, 97] [252] hu (by decide +kernel)
    exact ⟨⟨#[116, 100, 97]⟩, some ⟨B, 0, none⟩, [252], 1, 1, rfl, rfl, rfl, fun wx hx => nts_lies ((h.below hx).l0), hp.1, hp.2, hu.1, hu.2, by decide, by decide⟩
  | 1, _ =>
    have hu : unpT [97, 98, 99, 45] = [97, 98, 99] ∧ unpE [97, 98, 99, 45] = (0, 0) := by decide +kernel
    have hp := known_puny [97, 98, 99, 45] [97, 98, 99] hu (by decide +kernel)
    exact ⟨⟨#[97, 98, 99, 45]⟩, some ⟨B + 1, 0, none⟩, [97, 98, 99], 3, 3, rfl, rfl, rfl, fun wx hx => nts_lies ((h.below hx).l1), hp.1, hp.2, hu.1, hu.2, by decide, by decide⟩
  | 2, _ => exact ⟨⟨#[]⟩, none, [], 0, 0, rfl, rfl, rfl, fun _ _ => .inl rfl, by decide +kernel, by decide +kernel, by decide +kernel, by decide +kernel, by decide, by decide⟩
  | 3, _ =>
    have hu : unpT [119, 103, 118, 55, 49, 97, 49, 49, 57, 101] = [26085, 26412, 35486] ∧ unpE [119, 103, 118, 55, 49, 97, 49, 49, 57, 101] = (0, 0) := by decide +kernel
    have hp := known_puny [119, 103, 118, 55, 49, 97, 49, 49, 57, 101] [26085, 26412, 35486] hu (by decide +kernel)
    exact ⟨⟨#[119, 103, 118, 55, 49, 97, 49, 49, 57, 101]⟩, some ⟨B + 2, 0, none⟩, [26085, 26412, 35486], 3, 3, rfl, rfl, rfl, fun wx hx => nts_lies ((h.below hx).l2), hp.1, hp.2, hu.1, hu.2, by decide, by decide⟩
  | 4, _ =>
    have hu : unpT [108, 115, 56, 104] = [128169] ∧ unpE [108, 115, 56, 104] = (0, 0) := by decide +kernel
    have hp := known_puny [108, 115, 56, 104] [128169] hu (by decide +kernel)
    exact ⟨⟨#[108, 115, 56, 104]⟩, some ⟨B + 3, 0, none⟩, [128169], 1, 1, rfl, rfl, rfl, fun wx hx => nts_lies ((h.below hx).l3), hp.1, hp.2, hu.1, hu.2, by decide, by decide⟩
  | 5, _ =>
    have hu : unpT [45, 45] = [45] ∧ unpE [45, 45] = (0, 0) := by decide +kernel
    have hp := known_puny [45, 45] [45] hu (by decide +kernel)
    exact ⟨⟨#[45, 45]⟩, some ⟨B + 4, 0, none⟩, [45], 1, 1, rfl, rfl, rfl, fun wx hx => nts_lies ((h.below hx).l4), hp.1, hp.2, hu.1, hu.2, by decide, by decide⟩
  | 6, _ =>
    have hu : unpT [109, 97, 97, 110, 97, 45, 112, 116, 97] = [109, 97, 241, 97, 110, 97] ∧ unpE [109, 97, 97, 110, 97, 45, 112, 116, 97] = (0, 0) := by decide +kernel
    have hp := known_puny [109, 97, 97, 110, 97, 45, 112, 116, 97] [109, 97, 241, 97, 110, 97] hu (by decide +kernel)
    exact ⟨⟨#[109, 97, 97, 110, 97, 45, 112, 116, 97]⟩, some ⟨B + 5, 0, none⟩, [109, 97, 241, 97, 110, 97], 6, 6, rfl, rfl, rfl, fun wx hx => nts_lies ((h.below hx).l5), hp.1, hp.2, hu.1, hu.2, by decide, by decide⟩
  | k + 7, h => omega

set_option maxHeartbeats 8000000 in
set_option maxRecDepth 100000 in
theorem walk (w : World) (ht : Tb w) :
    Calls Tryd.prog 3 #[] w fun e w' => e = .returned (.bool true) ∧ Below w.heap.size w w' := by
  have HT : Hid (Tb w) := ht
  have HWK := wakes_any w ht
  clear ht
  go_enter Tryd.func3, Tryd.ntmps3
  go_wp2_with fail
  refine HWK.mono ?_
  rintro e w1 ⟨rfl, b1⟩
  have HB1 : Hid (Below w.heap.size w (w1.alloc (.cells #[.string ⟨#[97, 98, 99]⟩, .int .i64 3, .string ⟨#[97, 195]⟩, .int .i64 1, .string ⟨#[192, 128]⟩, .int .i64 0, .string ⟨#[237, 160, 128]⟩, .int .i64 0, .string ⟨#[244, 144, 128, 128]⟩, .int .i64 0, .string ⟨#[]⟩, .int .i64 0, .string ⟨#[239, 191, 191, 244, 143, 191, 191]⟩, .int .i64 7] 23))) := b1.alloc b1.size _
  have HL1 : Hid (Lies (w1.alloc (.cells #[.string ⟨#[97, 98, 99]⟩, .int .i64 3, .string ⟨#[97, 195]⟩, .int .i64 1, .string ⟨#[192, 128]⟩, .int .i64 0, .string ⟨#[237, 160, 128]⟩, .int .i64 0, .string ⟨#[244, 144, 128, 128]⟩, .int .i64 0, .string ⟨#[]⟩, .int .i64 0, .string ⟨#[239, 191, 191, 244, 143, 191, 191]⟩, .int .i64 7] 23)) w1.heap.size cells1 23) := Lies.new w1 _ _
  clear b1 HWK
  go_wp2_with fail
  generalize w1.alloc (.cells #[.string ⟨#[97, 98, 99]⟩, .int .i64 3, .string ⟨#[97, 195]⟩, .int .i64 1, .string ⟨#[192, 128]⟩, .int .i64 0, .string ⟨#[237, 160, 128]⟩, .int .i64 0, .string ⟨#[244, 144, 128, 128]⟩, .int .i64 0, .string ⟨#[]⟩, .int .i64 0, .string ⟨#[239, 191, 191, 244, 143, 191, 191]⟩, .int .i64 7] 23) = w2 at *
  generalize w1.heap.size = g1 at *
  go_loopw [2, 28] (fun _ kv wr => ∃ k : Nat, kv = .int .i64 k ∧ k ≤ 7 ∧ Hid (Lies wr g1 cells1 23) ∧ Hid (Below w.heap.size w wr)) (fun _ kv _ => 7 - (intOf kv).toNat)
  case atStart => exact ⟨0, rfl, by omega, HL1, HB1⟩
  case round =>
    clear HL1 HB1
    obtain ⟨k, rfl, hk, HL, HB⟩ := hrel
    by_cases hk7 : k < 7
    · obtain ⟨s, b, e1, e2, hb, hs⟩ := row1 k hk7
      have hg1 := HL.out.lt
      have c0 := HL.out.cell (k * 2)
      have c1 := HL.out.cell (k * 2 + 1)
      rw [e1] at c0
      rw [e2] at c1
      have hki : (k : Int) < 7 := by omega
      clear e1 e2
      have HX : Hid (Lies (wr.alloc (.cells #[.string s, .int .i64 b] 23)) wr.heap.size #[.string s, .int .i64 b] 23) := Lies.new wr _ _
      have ab : Below wr.heap.size wr (wr.alloc (.cells #[.string s, .int .i64 b] 23)) := (Below.refl _ _).alloc (Nat.le_refl _) _
      have HL2 : Hid (Lies (wr.alloc (.cells #[.string s, .int .i64 b] 23)) g1 cells1 23) := HL.out.alloc _
      have HB2 : Hid (Below w.heap.size w (wr.alloc (.cells #[.string s, .int .i64 b] 23))) := HB.out.trans (ab.mono HB.out.size)
      clear ab HL HB
      have hll := len_list s
      have HUS : Hid (∀ wx, Below w.heap.size w wx → Calls Tryd.prog 10 #[.string s] wx fun e w' => e = .returned (.int .i64 b) ∧ Below wx.heap.size wx w') := fun wx hx => by
        have := ubs_any s wx ((HT.out.below hx (Nat.le_refl _)).fst) (by omega)
        rw [hb] at this
        exact this
      have HUB : Hid (∀ (wx : World) (g c : Nat), Below w.heap.size w wx → Bts (some ⟨g, 0, none⟩) s.data.toList wx → Calls Tryd.prog 11 #[.slice (some ⟨g, 0, none⟩) s.size c] wx fun e w' => e = .returned (.int .i64 b) ∧ Below wx.heap.size wx w') := fun wx g c hx hbt => by
        have := ubb_any (some ⟨g, 0, none⟩) s.data.toList c wx ((HT.out.below hx (Nat.le_refl _)).fst) hbt (by omega)
        rw [hb, hll] at this
        exact this
      clear hb hs hll
      go_wp2_with fail
      have hU1 := HUS.out (wr.alloc (.cells #[.string s, .int .i64 b] 23)).drew HB2.out.drew
      have hSS : (wr.alloc (.cells #[.string s, .int .i64 b] 23)).cell? ⟨wr.heap.size, 0, none⟩ = some (.string s) ∧ (wr.alloc (.cells #[.string s, .int .i64 b] 23)).cell? ⟨wr.heap.size, 1, none⟩ = some (.int .i64 b) := ⟨HX.out.cell 0, HX.out.cell 1⟩
      generalize wr.heap.size = gc at *
      generalize wr.alloc (.cells #[.string s, .int .i64 b] 23) = w3 at *
      clear c0 c1 hg1 HUS
      refine wp_region_late (fun wx => wx.cell? ⟨gc, 0, none⟩ = some (.string s) ∧ wx.cell? ⟨gc, 1, none⟩ = some (.int .i64 b)) 15 (by kernel_rfl) hSS (fun hHeld => ?_)
      refine wpAnyE_tk (i := 0) (d := some 32) (v := ?_) rfl (by kernel_rfl) (by kernel_rfl) (by kernel_rfl) rfl (fun _ _ _ h => h) rfl rfl ?hy (by assumption) ?_
      case hy => (intro w' hSw; (try dsimp only at hSw); go_simp <;> (try with_reducible rfl))
      simp only [Act.put, List.setIfInBounds_toArray, List.set_cons_zero, List.set_cons_succ]
      refine wpAnyE_tk (i := 1) (d := some 33) (v := .string s) rfl (by kernel_rfl) (by kernel_rfl) (by kernel_rfl) rfl (fun _ _ _ h => h) rfl rfl ?hy (by assumption) ?_
      case hy => (intro w' hSw; (try dsimp only at hSw); go_simp <;> (try with_reducible rfl))
      simp only [Act.put, List.setIfInBounds_toArray, List.set_cons_zero, List.set_cons_succ]
      refine wpAnyE_tk (i := 3) (d := some 35) (v := ?_) rfl (by kernel_rfl) (by kernel_rfl) (by kernel_rfl) rfl (fun _ _ _ h => h) rfl rfl ?hy (by assumption) ?_
      case hy => (intro w' hSw; (try dsimp only at hSw); go_simp <;> (try with_reducible rfl))
      simp only [Act.put, List.setIfInBounds_toArray, List.set_cons_zero, List.set_cons_succ]
      refine wpAnyE_tk (i := 4) (d := some 36) (v := .int .i64 b) rfl (by kernel_rfl) (by kernel_rfl) (by kernel_rfl) rfl (fun _ _ _ h => h) rfl rfl ?hy (by assumption) ?_
      case hy => (intro w' hSw; (try dsimp only at hSw); go_simp <;> (try with_reducible rfl))
      simp only [Act.put, List.setIfInBounds_toArray, List.set_cons_zero, List.set_cons_succ]
      refine wpAnyE_on (i := 2) (by kernel_rfl) rfl rfl ?_
      go_simp
      refine hU1.mono ?_
      rintro e w4 ⟨rfl, b4⟩
      have HX4 : Hid (Lies w4 gc #[.string s, .int .i64 b] 23) := HX.out.drew.below b4 HX.out.lt
      have HL4 : Hid (Lies w4 g1 cells1 23) := HL2.out.drew.below b4 HL2.out.lt
      have HB4 : Hid (Below w.heap.size w w4) := HB2.out.drew.trans (b4.mono HB2.out.size)
      have hSS4 : w4.cell? ⟨gc, 0, none⟩ = some (.string s) ∧ w4.cell? ⟨gc, 1, none⟩ = some (.int .i64 b) := ⟨HX4.out.cell 0, HX4.out.cell 1⟩
      clear b4 hHeld hU1 HX HL2 HB2 hSS
      refine ⟨hSS4, ?_⟩
      refine wpAnyE_tk (i := 5) (d := some 37) (v := .bool false) rfl (by kernel_rfl) (by kernel_rfl) (by kernel_rfl) rfl (fun _ _ _ h => h) rfl rfl ?hy (by assumption) ?_
      case hy => (intro w' hSw; (try dsimp only at hSw); go_simp <;> (try with_reducible rfl))
      simp only [Act.put, List.setIfInBounds_toArray, List.set_cons_zero, List.set_cons_succ]
      refine wpAnyE_tk (i := 6) (d := some 38) (v := ?_) rfl (by kernel_rfl) (by kernel_rfl) (by kernel_rfl) rfl (fun _ _ _ h => h) rfl rfl ?hy (by assumption) ?_
      case hy => (intro w' hSw; (try dsimp only at hSw); go_simp <;> (try with_reducible rfl))
      simp only [Act.put, List.setIfInBounds_toArray, List.set_cons_zero, List.set_cons_succ]
      refine wpAnyE_tk (i := 7) (d := some 39) (v := ?_) rfl (by kernel_rfl) (by kernel_rfl) (by kernel_rfl) rfl (fun _ _ _ h => h) rfl rfl ?hy (by assumption) ?_
      case hy => (intro w' hSw; (try dsimp only at hSw); go_simp <;> (try with_reducible rfl))
      simp only [Act.put, List.setIfInBounds_toArray, List.set_cons_zero, List.set_cons_succ]
      refine wpAnyE_tk (i := 8) (d := some 40) (v := .string s) rfl (by kernel_rfl) (by kernel_rfl) (by kernel_rfl) rfl (fun _ _ _ h => h) rfl rfl ?hy (by assumption) ?_
      case hy => (intro w' hSw; (try dsimp only at hSw); go_simp <;> (try with_reducible rfl))
      simp only [Act.put, List.setIfInBounds_toArray, List.set_cons_zero, List.set_cons_succ]
      refine wpAnyE_tk (i := 11) (d := some 43) (v := ?_) rfl (by kernel_rfl) (by kernel_rfl) (by kernel_rfl) rfl (fun _ _ _ h => h) rfl rfl ?hy (by assumption) ?_
      case hy => (intro w' hSw; (try dsimp only at hSw); go_simp <;> (try with_reducible rfl))
      simp only [Act.put, List.setIfInBounds_toArray, List.set_cons_zero, List.set_cons_succ]
      refine wpAnyE_tk (i := 12) (d := some 44) (v := .int .i64 b) rfl (by kernel_rfl) (by kernel_rfl) (by kernel_rfl) rfl (fun _ _ _ h => h) rfl rfl ?hy (by assumption) ?_
      case hy => (intro w' hSw; (try dsimp only at hSw); go_simp <;> (try with_reducible rfl))
      simp only [Act.put, List.setIfInBounds_toArray, List.set_cons_zero, List.set_cons_succ]
      obtain ⟨c5, w5, hcv, hrow, -, -, hb5, hz5, -⟩ := conv_bytes w4 s
      refine wpAnyE_on (i := 9) (by kernel_rfl) rfl rfl ?_
      go_simp
      have HX5 : Hid (Lies w5 gc #[.string s, .int .i64 b] 23) := HX4.out.below hb5 HX4.out.lt
      have HL5 : Hid (Lies w5 g1 cells1 23) := HL4.out.below hb5 HL4.out.lt
      have HB5 : Hid (Below w.heap.size w w5) := HB4.out.trans (hb5.mono HB4.out.size)
      have hSS5 : w5.cell? ⟨gc, 0, none⟩ = some (.string s) ∧ w5.cell? ⟨gc, 1, none⟩ = some (.int .i64 b) := ⟨HX5.out.cell 0, HX5.out.cell 1⟩
      have hU2 := HUB.out w5 w4.heap.size c5 HB5.out (.inr ⟨w4.heap.size, 0, rfl, hz5, hrow⟩)
      clear hb5 hz5 hrow HX4 HL4 HB4 hSS4 HUB
      refine ⟨hSS5, ?_⟩
      refine wpAnyE_on (i := 10) (by kernel_rfl) rfl rfl ?_
      go_simp
      refine hU2.mono ?_
      rintro e w6 ⟨rfl, b6⟩
      have HX6 : Hid (Lies w6 gc #[.string s, .int .i64 b] 23) := HX5.out.below b6 HX5.out.lt
      have HL6 : Hid (Lies w6 g1 cells1 23) := HL5.out.below b6 HL5.out.lt
      have HB6 : Hid (Below w.heap.size w w6) := HB5.out.trans (b6.mono HB5.out.size)
      have hSS6 : w6.cell? ⟨gc, 0, none⟩ = some (.string s) ∧ w6.cell? ⟨gc, 1, none⟩ = some (.int .i64 b) := ⟨HX6.out.cell 0, HX6.out.cell 1⟩
      clear b6 hcv HX5 HL5 HB5 hSS5 hU2
      refine ⟨hSS6, ?_⟩
      refine wpAnyE_tk (i := 13) (d := some 45) (v := .bool false) rfl (by kernel_rfl) (by kernel_rfl) (by kernel_rfl) rfl (fun _ _ _ h => h) rfl rfl ?hy (by assumption) ?_
      case hy => (intro w' hSw; (try dsimp only at hSw); go_simp <;> (try with_reducible rfl))
      simp only [Act.put, List.setIfInBounds_toArray, List.set_cons_zero, List.set_cons_succ]
      refine wpAnyE_tk (i := 14) (d := some 46) (v := .bool false) rfl (by kernel_rfl) (by kernel_rfl) (by kernel_rfl) rfl (fun _ _ _ h => h) rfl rfl ?hy (by assumption) ?_
      case hy => (intro w' hSw; (try dsimp only at hSw); go_simp <;> (try with_reducible rfl))
      simp only [Act.put, List.setIfInBounds_toArray, List.set_cons_zero, List.set_cons_succ]
      refine wpAnyE_done (by kernel_rfl) ?_ _
      clear hSS6
      go_wp2
      go_roundw
      case rel => exact ⟨k + 1, by go_num, by omega, HL6, HB6⟩
      case measure => simp [intOf]; omega
    · have hki : ¬ (k : Int) < 7 := by omega
      clear HL hk hk7
      obtain ⟨B, hB⟩ : ∃ B, B = wr.heap.size := ⟨_, rfl⟩
      have HBS : Hid (B = wr.heap.size) := hB
      clear hB
      go_wp2_with fail
      rw [← HBS.out]
      obtain ⟨T, hT⟩ : ∃ T, T = B + 1 + 1 + 1 + 1 + 1 + 1 := ⟨_, rfl⟩
      rw [← hT]
      have HTS : Hid (T = B + 6) := hT
      clear hT
      go_loopw [4, 5, 6, 7, 8, 63] (fun _ _ _ _ _ kv wx => ∃ k : Nat, kv = .int .i64 k ∧ k ≤ 7 ∧ Hid (Ls2 wx B T) ∧ Hid (Below w.heap.size w wx)) (fun _ _ _ _ _ kv _ => 7 - (intOf kv).toNat)
      case atStart =>
        have hBS := HBS.out
        have hTS := HTS.out
        have hsz := HB.out.size
        refine ⟨0, rfl, by omega, ⟨(((((((Lies.newAt _ (by (try simp only [World.size_alloc]); omega)).alloc _).alloc _).alloc _).alloc _).alloc _).alloc _), ((((((Lies.newAt _ (by (try simp only [World.size_alloc]); omega)).alloc _).alloc _).alloc _).alloc _).alloc _), (((((Lies.newAt _ (by (try simp only [World.size_alloc]); omega)).alloc _).alloc _).alloc _).alloc _), ((((Lies.newAt _ (by (try simp only [World.size_alloc]); omega)).alloc _).alloc _).alloc _), (((Lies.newAt _ (by (try simp only [World.size_alloc]); omega)).alloc _).alloc _), ((Lies.newAt _ (by (try simp only [World.size_alloc]); omega)).alloc _), (Lies.newAt _ (by (try simp only [World.size_alloc]); omega))⟩, ?_⟩
        exact ((((((HB.out.alloc hsz _).alloc (by simp; omega) _).alloc (by simp; omega) _).alloc (by simp; omega) _).alloc (by simp; omega) _).alloc (by simp; omega) _).alloc (by simp; omega) _
      case round =>
        clear HB HBS
        obtain ⟨k, rfl, hk, HLS, HB⟩ := hrel
        by_cases hk7 : k < 7
        · obtain ⟨s, a, l, n, c, e1, e2, hn, hnt, hpT, hpE, huT, huE, hl10, hs⟩ := row2 wr B T HLS.out k hk7
          have hgT := HLS.out.tab.lt
          have c0 := HLS.out.tab.cell (k * 2)
          have c1 := HLS.out.tab.cell (k * 2 + 1)
          rw [e1] at c0
          rw [e2] at c1
          have hki2 : (k : Int) < 7 := by omega
          have HN : Hid (n = l.length) := hn
          have HNT : Hid (∀ wx, Below wr.heap.size wr wx → Nts .i32 a l wx) := hnt
          have HUN : Hid (∀ wx, Below w.heap.size w wx → Calls Tryd.prog 12 #[.string s] wx fun e w' => (∃ v, e = .returned (.tuple #[v, .agg #[.int .i64 0, .int .i64 0]]) ∧ w'.ownsRow wx.heap.size 21 1 v n (cellsN .i32 l)) ∧ Below wx.heap.size wx w') := fun wx hx => by
            have := unp_any s wx ((HT.out.below hx (Nat.le_refl _)).tab) ((HT.out.below hx (Nat.le_refl _)).gcl) (by omega)
            rw [show unpV s.data.toList = #[.int .i64 0, .int .i64 0] from by show #[Value.int .i64 ((unpE s.data.toList).1 : Nat), Value.int .i64 ((unpE s.data.toList).2 : Nat)] = _; rw [huE]; rfl, huT, ← hn] at this
            exact this
          have HPU : Hid (∀ wx, Nts .i32 a l wx → Calls Tryd.prog 13 #[.slice a n c] wx fun e w' => e = .returned (.tuple #[.string s, .int .i64 0]) ∧ Below wx.heap.size wx w') := fun wx hx => by
            have := puny_any a l c wx hx (by omega)
            rw [hpT, hpE, ← hn] at this
            exact this
          have hn10 : n ≤ 10 := by omega
          clear e1 e2 hn hnt hpT hpE huT huE hl10 hs
          have ab : Below wr.heap.size wr (wr.alloc (.cells #[.string s, .slice a n c] 29)) := (Below.refl _ _).alloc (Nat.le_refl _) _
          have HX : Hid (Lies (wr.alloc (.cells #[.string s, .slice a n c] 29)) wr.heap.size #[.string s, .slice a n c] 29) := Lies.new wr _ _
          have HB2 : Hid (Below w.heap.size w (wr.alloc (.cells #[.string s, .slice a n c] 29))) := HB.out.trans (ab.mono HB.out.size)
          have HR2 : Hid (Below wr.heap.size wr (wr.alloc (.cells #[.string s, .slice a n c] 29))) := ab
          have hU := HUN.out _ HB2.out
          clear ab HB HUN
          go_wp2_with fail
          refine hU.mono ?_
          rintro e w4 ⟨⟨v4, rfl, o4⟩, b4⟩
          obtain ⟨a4, k4, rfl, n4, hl4, -⟩ := own_nts o4
          have b5 : Below (wr.alloc (.cells #[.string s, .slice a n c] 29)).heap.size (wr.alloc (.cells #[.string s, .slice a n c] 29)) (w4.alloc (.cells #[.int .i64 0, .int .i64 0] 33)) := b4.alloc b4.size _
          have B5 : Below w4.heap.size w4 (w4.alloc (.cells #[.int .i64 0, .int .i64 0] 33)) := (Below.refl _ w4).alloc (Nat.le_refl _) _
          have HX5 : Hid (Lies (w4.alloc (.cells #[.int .i64 0, .int .i64 0] 33)) wr.heap.size #[.string s, .slice a n c] 29) := HX.out.below b5 HX.out.lt
          have HB5 : Hid (Below w.heap.size w (w4.alloc (.cells #[.int .i64 0, .int .i64 0] 33))) := HB2.out.trans (b5.mono HB2.out.size)
          have HR5 : Hid (Below wr.heap.size wr (w4.alloc (.cells #[.int .i64 0, .int .i64 0] 33))) := HR2.out.trans (b5.mono HR2.out.size)
          have HE5 : Hid (Lies (w4.alloc (.cells #[.int .i64 0, .int .i64 0] 33)) w4.heap.size #[.int .i64 0, .int .i64 0] 33) := Lies.new w4 _ _
          have HN5 : Hid (Nts .i32 a4 l (w4.alloc (.cells #[.int .i64 0, .int .i64 0] 33))) := n4.below B5
          have d1 := HX5.out.cell 1
          simp only [List.getElem?_toArray, List.getElem?_cons_zero, List.getElem?_cons_succ] at d1
          clear b4 b5 B5 o4 n4 hl4 hU HX HB2 HR2
          go_wp2_with fail
          generalize w4.alloc (.cells #[.int .i64 0, .int .i64 0] 33) = w5 at *
          generalize w4.heap.size = g4 at *
          refine (HPU.out _ (HNT.out _ HR5.out)).mono ?_
          rintro e w6 ⟨rfl, b6⟩
          have HB6 : Hid (Below w.heap.size w w6) := HB5.out.trans (b6.mono HB5.out.size)
          have HR6 : Hid (Below wr.heap.size wr w6) := HR5.out.trans (b6.mono HR5.out.size)
          have hx6 := HX5.out.below b6 HX5.out.lt
          have he6 := HE5.out.below b6 HE5.out.lt
          have f0 := hx6.cell 0
          have f1 := hx6.cell 1
          have z0 := he6.cell 0
          have z1 := he6.cell 1
          simp only [List.getElem?_toArray, List.getElem?_cons_zero, List.getElem?_cons_succ] at f0 f1 z0 z1
          have HEQ := eqr_any a4 a l l k4 c w6 (HN5.out.below b6) (HNT.out _ HR6.out) (by rw [← HN.out]; omega)
          rw [decide_eq_true rfl, ← HN.out] at HEQ
          clear b6 HPU HX5 HE5 HN5 HB5 HR5 hx6 he6 d1
          go_wp2_with fail
          refine HEQ.mono ?_
          rintro e w7 ⟨rfl, q, rfl⟩
          have HB7 : Hid (Below w.heap.size w (w6.drewN q)) := ⟨HB6.out.os, HB6.out.tape, HB6.out.output, HB6.out.size, HB6.out.block⟩
          have HLS7 : Hid (Ls2 (w6.drewN q) B T) := HLS.out.below ⟨HR6.out.os, HR6.out.tape, HR6.out.output, HR6.out.size, HR6.out.block⟩
          clear HEQ HB6 HR6 f0 f1 z0 z1
          go_wp2
          go_roundw
          case rel => exact ⟨k + 1, by go_num, by omega, HLS7, HB7⟩
          case measure => simp [intOf]; omega
        · have hki2 : ¬ (k : Int) < 7 := by omega
          clear HLS hk hk7
          have HL3 : Hid (Lies (wr.alloc (.cells #[.string ⟨#[45]⟩, .int .i64 51, .int .i64 0, .string ⟨#[98, 99, 104, 101, 114, 45, 107, 118]⟩, .int .i64 51, .int .i64 8, .string ⟨#[97, 33]⟩, .int .i64 51, .int .i64 1, .string ⟨#[57, 57, 57, 57, 57, 57, 57, 57]⟩, .int .i64 52, .int .i64 7, .string ⟨#[97, 255, 98, 45, 97]⟩, .int .i64 51, .int .i64 1] 39)) wr.heap.size cells3 39) := Lies.new wr _ _
          have HB3 : Hid (Below w.heap.size w (wr.alloc (.cells #[.string ⟨#[45]⟩, .int .i64 51, .int .i64 0, .string ⟨#[98, 99, 104, 101, 114, 45, 107, 118]⟩, .int .i64 51, .int .i64 8, .string ⟨#[97, 33]⟩, .int .i64 51, .int .i64 1, .string ⟨#[57, 57, 57, 57, 57, 57, 57, 57]⟩, .int .i64 52, .int .i64 7, .string ⟨#[97, 255, 98, 45, 97]⟩, .int .i64 51, .int .i64 1] 39))) := HB.out.alloc HB.out.size _
          clear HB
          go_wp2_with fail
          generalize wr.alloc (.cells #[.string ⟨#[45]⟩, .int .i64 51, .int .i64 0, .string ⟨#[98, 99, 104, 101, 114, 45, 107, 118]⟩, .int .i64 51, .int .i64 8, .string ⟨#[97, 33]⟩, .int .i64 51, .int .i64 1, .string ⟨#[57, 57, 57, 57, 57, 57, 57, 57]⟩, .int .i64 52, .int .i64 7, .string ⟨#[97, 255, 98, 45, 97]⟩, .int .i64 51, .int .i64 1] 39) = w8 at *
          generalize wr.heap.size = g8 at *
          go_loopw [10, 11, 12, 112] (fun _ _ _ kv wx => ∃ k : Nat, kv = .int .i64 k ∧ k ≤ 5 ∧ Hid (Lies wx g8 cells3 39) ∧ Hid (Below w.heap.size w wx)) (fun _ _ _ kv _ => 5 - (intOf kv).toNat)
          case atStart => exact ⟨0, rfl, by omega, HL3, HB3⟩
          case round =>
            clear HL3 HB3
            obtain ⟨k, rfl, hk, HL, HB⟩ := hrel
            by_cases hk5 : k < 5
            · obtain ⟨s, x, y, e1, e2, e3, huT, huE, hs⟩ := row3 k hk5
              have hg8 := HL.out.lt
              have c0 := HL.out.cell (k * 3)
              have c1 := HL.out.cell (k * 3 + 1)
              have c2 := HL.out.cell (k * 3 + 2)
              rw [e1] at c0
              rw [e2] at c1
              rw [e3] at c2
              have hki3 : (k : Int) < 5 := by omega
              obtain ⟨X, hX⟩ : ∃ X : Int, (x : Int) = X := ⟨_, rfl⟩
              obtain ⟨Y, hY⟩ : ∃ Y : Int, (y : Int) = Y := ⟨_, rfl⟩
              have HUN : Hid (∀ wx, Below w.heap.size w wx → Calls Tryd.prog 12 #[.string s] wx fun e w' => (∃ v, e = .returned (.tuple #[v, .agg #[.int .i64 X, .int .i64 Y]]) ∧ w'.ownsRow wx.heap.size 21 1 v 0 (cellsN .i32 [])) ∧ Below wx.heap.size wx w') := fun wx hx => by
                have := unp_any s wx ((HT.out.below hx (Nat.le_refl _)).tab) ((HT.out.below hx (Nat.le_refl _)).gcl) (by omega)
                rw [show unpV s.data.toList = #[.int .i64 X, .int .i64 Y] from by show #[Value.int .i64 ((unpE s.data.toList).1 : Nat), Value.int .i64 ((unpE s.data.toList).2 : Nat)] = _; rw [huE, ← hX, ← hY], huT] at this
                exact this
              rw [hX] at c1
              rw [hY] at c2
              clear e1 e2 e3 huT huE hs hX hY
              have ab : Below wr.heap.size wr (wr.alloc (.cells #[.string s, .int .i64 X, .int .i64 Y] 39)) := (Below.refl _ _).alloc (Nat.le_refl _) _
              have HX2 : Hid (Lies (wr.alloc (.cells #[.string s, .int .i64 X, .int .i64 Y] 39)) wr.heap.size #[.string s, .int .i64 X, .int .i64 Y] 39) := Lies.new wr _ _
              have HL2 : Hid (Lies (wr.alloc (.cells #[.string s, .int .i64 X, .int .i64 Y] 39)) g8 cells3 39) := HL.out.alloc _
              have HB2 : Hid (Below w.heap.size w (wr.alloc (.cells #[.string s, .int .i64 X, .int .i64 Y] 39))) := HB.out.trans (ab.mono HB.out.size)
              have hU := HUN.out _ HB2.out
              clear ab HL HB HUN
              go_wp2_with fail
              refine hU.mono ?_
              rintro e w4 ⟨⟨v4, rfl, o4⟩, b4⟩
              obtain ⟨a4, k4, rfl, n4, hl4, -⟩ := own_nts o4
              have b5 : Below (wr.alloc (.cells #[.string s, .int .i64 X, .int .i64 Y] 39)).heap.size (wr.alloc (.cells #[.string s, .int .i64 X, .int .i64 Y] 39)) (w4.alloc (.cells #[.int .i64 X, .int .i64 Y] 33)) := b4.alloc b4.size _
              have hx5 := HX2.out.below b5 HX2.out.lt
              have HL5 : Hid (Lies (w4.alloc (.cells #[.int .i64 X, .int .i64 Y] 33)) g8 cells3 39) := HL2.out.below b5 HL2.out.lt
              have HB5 : Hid (Below w.heap.size w (w4.alloc (.cells #[.int .i64 X, .int .i64 Y] 33))) := HB2.out.trans (b5.mono HB2.out.size)
              have he5 := Lies.new w4 #[.int .i64 X, .int .i64 Y] 33
              have f1 := hx5.cell 1
              have f2 := hx5.cell 2
              have z0 := he5.cell 0
              have z1 := he5.cell 1
              simp only [List.getElem?_toArray, List.getElem?_cons_zero, List.getElem?_cons_succ] at f1 f2 z0 z1
              clear b4 b5 o4 n4 hl4 hU HX2 HL2 HB2 hx5 he5
              go_wp2
              go_roundw
              case rel => exact ⟨k + 1, by go_num, by omega, HL5, HB5⟩
              case measure => simp [intOf]; omega
            · have hki3 : ¬ (k : Int) < 5 := by omega
              clear HL hk hk5
              have hu9 : unpT [98, 99, 104, 101, 114, 45, 75, 86, 65] = [98, 252, 99, 104, 101, 114] ∧ unpE [98, 99, 104, 101, 114, 45, 75, 86, 65] = (0, 0) := by decide +kernel
              have hU : Calls Tryd.prog 12 #[.string ⟨#[98, 99, 104, 101, 114, 45, 75, 86, 65]⟩] wr fun e w' => (∃ v, e = .returned (.tuple #[v, .agg #[.int .i64 0, .int .i64 0]]) ∧ w'.ownsRow wr.heap.size 21 1 v 6 (cellsN .i32 [98, 252, 99, 104, 101, 114])) ∧ Below wr.heap.size wr w' := by
                have := unp_any ⟨#[98, 99, 104, 101, 114, 45, 75, 86, 65]⟩ wr ((HT.out.below HB.out (Nat.le_refl _)).tab) ((HT.out.below HB.out (Nat.le_refl _)).gcl) (by decide)
                rw [show unpV ((⟨#[98, 99, 104, 101, 114, 45, 75, 86, 65]⟩ : ByteArray).data.toList) = #[.int .i64 0, .int .i64 0] from by show #[Value.int .i64 ((unpE [98, 99, 104, 101, 114, 45, 75, 86, 65]).1 : Nat), Value.int .i64 ((unpE [98, 99, 104, 101, 114, 45, 75, 86, 65]).2 : Nat)] = _; rw [hu9.2]; rfl, show unpT ((⟨#[98, 99, 104, 101, 114, 45, 75, 86, 65]⟩ : ByteArray).data.toList) = [98, 252, 99, 104, 101, 114] from hu9.1] at this
                exact this
              clear hu9
              go_wp2_with fail
              refine hU.mono ?_
              rintro e w4 ⟨⟨v4, rfl, o4⟩, b4⟩
              obtain ⟨a4, k4, rfl, n4, hl4, -⟩ := own_nts o4
              have B5 : Below w4.heap.size w4 (w4.alloc (.cells #[.int .i64 0, .int .i64 0] 33)) := (Below.refl _ w4).alloc (Nat.le_refl _) _
              have HB5 : Hid (Below w.heap.size w (w4.alloc (.cells #[.int .i64 0, .int .i64 0] 33))) := (HB.out.trans (b4.mono HB.out.size)).trans (B5.mono (HB.out.trans (b4.mono HB.out.size)).size)
              have HN5 : Hid (Nts .i32 a4 [98, 252, 99, 104, 101, 114] (w4.alloc (.cells #[.int .i64 0, .int .i64 0] 33))) := n4.below B5
              have z0 := (Lies.new w4 #[.int .i64 0, .int .i64 0] 33).cell 0
              have z1 := (Lies.new w4 #[.int .i64 0, .int .i64 0] 33).cell 1
              simp only [List.getElem?_toArray, List.getElem?_cons_zero, List.getElem?_cons_succ] at z0 z1
              have HN6 : Hid (Nts .i32 (some ⟨(w4.alloc (.cells #[.int .i64 0, .int .i64 0] 33)).heap.size, 0, none⟩) [98, 252, 99, 104, 101, 114] ((w4.alloc (.cells #[.int .i64 0, .int .i64 0] 33)).alloc (.cells #[.int .i32 98, .int .i32 252, .int .i32 99, .int .i32 104, .int .i32 101, .int .i32 114] 21))) := new_nts (w4.alloc (.cells #[.int .i64 0, .int .i64 0] 33)) 21 .i32 [98, 252, 99, 104, 101, 114]
              have hEQ := eqr_any a4 (some ⟨(w4.alloc (.cells #[.int .i64 0, .int .i64 0] 33)).heap.size, 0, none⟩) [98, 252, 99, 104, 101, 114] [98, 252, 99, 104, 101, 114] k4 6 ((w4.alloc (.cells #[.int .i64 0, .int .i64 0] 33)).alloc (.cells #[.int .i32 98, .int .i32 252, .int .i32 99, .int .i32 104, .int .i32 101, .int .i32 114] 21)) (HN5.out.below ((Below.refl _ _).alloc (Nat.le_refl _) _)) HN6.out (by decide)
              rw [decide_eq_true rfl] at hEQ
              have HB6 : Hid (Below w.heap.size w ((w4.alloc (.cells #[.int .i64 0, .int .i64 0] 33)).alloc (.cells #[.int .i32 98, .int .i32 252, .int .i32 99, .int .i32 104, .int .i32 101, .int .i32 114] 21))) := HB5.out.alloc HB5.out.size _
              simp only [World.size_alloc] at hEQ
              clear b4 B5 o4 n4 hl4 hU HB HN5 HN6 HB5
              go_wp2_with fail
              refine hEQ.mono ?_
              rintro e w7 ⟨rfl, q, rfl⟩
              have HB7 : Hid (Below w.heap.size w (((w4.alloc (.cells #[.int .i64 0, .int .i64 0] 33)).alloc (.cells #[.int .i32 98, .int .i32 252, .int .i32 99, .int .i32 104, .int .i32 101, .int .i32 114] 21)).drewN q)) := ⟨HB6.out.os, HB6.out.tape, HB6.out.output, HB6.out.size, HB6.out.block⟩
              clear hEQ HB6 z0 z1
              go_wp2
              go_ret
              exact ⟨rfl, HB7.out⟩

set_option maxRecDepth 100000 in
theorem contract (H : Type) (enc : TypeId × Value → H) (W : World) (base : Nat) (args : Array Value) (ds gs : List (DataW H)) (before : List MemPlace)
    (hval : ∀ (j : Nat) t v, Tryd.f3.params[j]? = some t → args[j]? = some v → Value.okWide Tryd.prog W .any base t v)
    (hW : DataW.Whole enc Tryd.prog Tryd.f3.params.toList Rows.runesKnownSpec.vars false W args.toList ds gs before)
    (hsz : (DataW.weightsEach Tryd.prog (Tryd.f3.params.toList ++ (OpenSpec.ofChange Rows.runesKnownSpec).bare.plain.varTypes Tryd.prog) (ds ++ gs)).all (· ≤ reachBytes) = true)
    (hL : laidMetH Tryd.prog Rows.runesKnownRow.laid W) (hsh : W.ShapedOpen Tryd.prog) :
    Calls Tryd.prog 3 args W fun e W' => ∃ v, e = .returned v ∧ Rows.runesKnownSpec.post enc Tryd.prog Tryd.f3 false true false false W args v W' := by
  have hW' := hW
  obtain ⟨p, q, hA0, hV, rfl, hfz, hnd⟩ := hW
  have hA : DataW.TrodAll enc Tryd.prog W 0 (fun _ => true) true Tryd.f3.params.toList args.toList ds p := hA0
  rw [Tryd.params3] at hA hval hsz
  obtain ⟨hargs, rfl, rfl⟩ := trodAll_nil hA
  obtain rfl : args = #[] := by cases args; simp_all
  obtain ⟨rfl, rfl⟩ := trodVars_none hV
  clear hA0
  simp only [List.append_nil] at hW'
  refine (walk  W (tabs_of hL hsh)).mono fun e W' ⟨he, bel⟩ => ?_
  subst he
  exact ⟨_, rfl, _, _, _, [], [], [], hW', trodAll_mk1 (shut_bool Tryd.underlying4 _), trodAll_mk0, rfl, bel.frame _, fun h => by cases h⟩

set_option maxRecDepth 100000 in
theorem laid_met (os : Os) : laidMet Tryd.prog Rows.runesKnownRow.laid ((laidWorld os).forCall (fun _ _ => 0) ⟨#[], #[], []⟩).memory :=
  laidMet_of_run' 8 (by kernel_rfl) (by kernel_rfl)
set_option maxRecDepth 100000 in
theorem reads (os : Os) {H : Type} (enc : TypeId × Value → H) : ∃ places, DataW.whole enc Tryd.prog ((laidWorld os).forCall (fun _ _ => 0) ⟨#[], #[], []⟩).memory Tryd.f3.params.toList Rows.runesKnownSpec.vars false #[].toList 8 = some ([], [], places) :=
  ⟨[], by kernel_rfl⟩

set_option maxRecDepth 100000 in
theorem lifted (os : Os) (started : os.Started) (H : Type) (enc : TypeId × Value → H) (F : Stop.Interp) :
    ReturnsInHanded {} Tryd.checked os 3 .any ((OpenSpec.ofChange Rows.runesKnownSpec).preRow enc Tryd.prog Tryd.f3 Rows.runesKnownRow.domain false Rows.runesKnownRow.laid) (((OpenSpec.ofChange Rows.runesKnownSpec).at F).post enc Tryd.prog Tryd.f3 false true false false) := by
  obtain ⟨places, hx⟩ := reads os enc
  refine returnsInHanded_of_row (C := Tryd.checked) (s := OpenSpec.ofChange Rows.runesKnownSpec) own started (by kernel_rfl) Tryd.func3
    (witness_row_at (enc := enc) (C := Tryd.checked) false (laidWorld os) #[] rfl (by kernel_rfl) (by kernel_rfl) (by kernel_rfl)
      (OpenSpec.preRow_of_cond 8 hx (by kernel_rfl) (fun k hk => by cases hk) (by kernel_rfl) (laid_met os))) ?_
  intro W base args ds gs before hval hW _ _ hsz hL hsh _
  exact contract H enc W base args ds gs before hval hW hsz hL hsh

theorem said : Rows.RunesKnownSaid :=
  OpenClaim.holds_of_cond 3 Tryd.f3 rfl rfl rfl rfl rfl rfl rfl ⟨rfl, rfl, rfl, rfl, rfl⟩ rfl rfl rfl rfl rfl (by kernel_rfl) Tryd.func3 (by kernel_rfl)
    (of_decide_eq_true (by kernel_rfl)) (by unfold Func.isWrapper; first | (rw [if_pos (by decide +kernel)]; kernel_rfl) | (rw [if_neg (by decide +kernel)]; exact ⟨rfl, rfl⟩))
    (fun os started H enc _ F => by rw [OpenClaim.pre_eq_preRow]; exact lifted os started H enc F)

/-- No parameter wants a stand-in; the program's own looks are off. -/
theorem plain (f : FuncId) (fn : Func) (hf : Tryd.pinned.checked.prog.funcNamed "posthorn/posthornlaw05.RunesKnown" = some f) (hfn : Tryd.pinned.checked.prog.funcs[f]? = some fn) :
    false = Tryd.pinned.checked.prog.looks [] ∧ ∀ (j : Nat) t, fn.params[j]? = some t → Tryd.pinned.checked.prog.wantsStandIn t = false := by
  obtain rfl : f = 3 := Option.some.inj ((show Tryd.prog.funcNamed "posthorn/posthornlaw05.RunesKnown" = some 3 by kernel_rfl).symm.trans hf) |>.symm
  obtain rfl : fn = Tryd.f3 := (Option.some.inj (Tryd.func3.symm.trans hfn)).symm
  refine ⟨by kernel_rfl, fun j t ht => ?_⟩
  rw [Tryd.params3] at ht
  have hm : t ∈ [] := by simpa using Array.mem_of_getElem? ht
  have hall : ([].all fun u => !Tryd.prog.wantsStandIn u) = true := by kernel_rfl
  exact (show Tryd.prog.wantsStandIn t = false by simpa using List.all_eq_true.1 hall t hm)

/-- The card. -/
theorem card : Rows.RunesKnownCardSaid :=
  Claim7.holds_tied_plain_at .later [] _ _ _ _ said (fun _ h => by cases h) (by kernel_rfl) (fun _ h => by cases h) runesKnown_row_tie rfl ⟨rfl, rfl⟩ (by kernel_rfl) rfl plain (by kernel_rfl)
end Go.Proofs.YtedgimkffkflbaaDoor.runesKnown
namespace Go.Proofs.YtedgimkffkflbaaDoor
theorem runesKnown_card : Rows.RunesKnownCardSaid := runesKnown.card
#print axioms runesKnown_card
end Go.Proofs.YtedgimkffkflbaaDoor
