/-
  The program's functions of paths, as the statements ask them.
-/
import Derived.Test.YthkoionigdnhgabGreatDoorXz9
import Derived.Test.YthkoionigdnhgabGreatDoorXr9
import Derived.Defers
import Derived.Recover
import Derived.Test.YthkoionigdnhgabGreatDoorPtL
namespace Go.Proofs.YthkoionigdnhgabGreatDoor
open Go.RowKit

/-- A path's cells, its route lying in a world. -/
def PA (p : Pt) (V : Array Value) (w : World) : Prop := ∃ sp c, V = pthC p.k (.slice sp p.r.length c) p.l p.h ∧ RtM w sp p.r
theorem PA.below {p : Pt} {V : Array Value} {w w' : World} (h : PA p V w) (hb : Below w.heap.size w w') : PA p V w' := by
  obtain ⟨sp, c, e, hr⟩ := h
  exact ⟨sp, c, e, hr.below hb⟩
theorem PA.size {p : Pt} {V : Array Value} {w : World} (h : PA p V w) (ha : p.h.a.length = 16) : V.size = 21 := by
  obtain ⟨sp, c, rfl, _⟩ := h
  exact pthC_size _ _ _ _ ha
theorem PA.one {p : Pt} {V : Array Value} {w : World} (h : PA p V w) : V.all (·.oneCell') = true := by
  obtain ⟨sp, c, rfl, _⟩ := h
  exact pthC_one9 _ _ _ _ rfl
end Go.Proofs.YthkoionigdnhgabGreatDoor
/-
  The program's Print; the statements' own longer.
-/
namespace Go.Proofs.YthkoionigdnhgabGreatDoor
open Go.RowKit

set_option maxHeartbeats 4000000 in
set_option maxRecDepth 100000 in
theorem pprint_any (k : Int) (sp : Option Addr) (c : Nat) (r : List Ho) (l : List UInt8) (h : Ho) (w : World) (hr : RtM w sp r) (hm : r.length ≤ maxLen) (okr : ∀ x ∈ r, x.Ok ∧ x.n.length ≤ 140737488355328) (ok : h.Ok) (hn : h.n.length ≤ 140737488355328) (hl : l.length ≤ 140737488355328) (hT : Td w) (hrep : RepOk (txt l) w) :
    Calls Tryz.prog 31 #[.agg (pthC k (.slice sp r.length c) l h)] w fun e w' => e = .returned (.tuple #[.string (txt (printP ⟨k, r, l, h⟩).1), .int .i64 ((printP ⟨k, r, l, h⟩).2 : Nat)]) ∧ Below w.heap.size w w' := by
  have hPz := pthC_size k (.slice sp r.length c) l h ok.len
  have HCK : Hid (∀ wx, Below w.heap.size w wx → Calls Tryz.prog 47 #[.agg (pthC k (.slice sp r.length c) l h), .bool true] wx fun e w' => e = .returned (.int .i64 (ckP ⟨k, r, l, h⟩ true : Nat)) ∧ Below wx.heap.size wx w') := fun wx hx => pchk_any k sp c r l h wx (hr.below hx) hm okr ok hn hl (hT.below hx) (hrep.later hx) true
  have HWR : Hid (ckP ⟨k, r, l, h⟩ true = 0 → ∀ wx, Below w.heap.size w wx → Calls Tryz.prog 55 #[.agg (pthC k (.slice sp r.length c) l h)] wx fun e w' => e = .returned (.string (txt (wrP ⟨k, r, l, h⟩))) ∧ Below wx.heap.size wx w') := fun hc wx hx => by
    rcases ckP_ok3 hc with ⟨h1, h2, h3⟩ | ⟨h1, h2⟩
    · refine written_any k sp c r l h wx (hr.below hx) (by rw [h1]; simp) (fun x hx => by rw [h1] at hx; cases hx) ok hn hl (by rw [h3]; decide) (hT.below hx) (hrep.later hx)
    · obtain ⟨t1, t2, t3⟩ := ckT_zero h1
      obtain ⟨m1, m2⟩ := ckM_zero h2
      exact written_any k sp c r l h wx (hr.below hx) (by omega) (fun x hxr => ⟨(okr x hxr).1.len, Nat.le_trans (check_len (t3 x hxr)) (by omega), wrH_nm (okr x hxr).1 (t2 x hxr) (t3 x hxr)⟩) ok hn hl (Nat.le_trans (wrH_len ok m2) (by omega)) (hT.below hx) (hrep.later hx)
  have HP0 : Hid (ckP ⟨k, r, l, h⟩ true = 0 → printP ⟨k, r, l, h⟩ = (wrP ⟨k, r, l, h⟩, 0)) := printP_ok
  have HP1 : Hid (ckP ⟨k, r, l, h⟩ true ≠ 0 → printP ⟨k, r, l, h⟩ = ([], ckP ⟨k, r, l, h⟩ true)) := printP_no
  generalize pthC k (.slice sp r.length c) l h = P at hPz HCK HWR ⊢
  generalize ckP ⟨k, r, l, h⟩ true = m at HCK HWR HP0 HP1
  have L1 : Hid (Lies (w.alloc (.cells P 32)) w.heap.size P 32) := Lies.new w _ _
  have KB : Hid (Below w.heap.size w (w.alloc (.cells P 32))) := (Below.refl _ _).alloc (Nat.le_refl _) _
  obtain ⟨X, hX⟩ : ∃ X, X = printP ⟨k, r, l, h⟩ := ⟨_, rfl⟩
  rw [← hX] at HP0 HP1 ⊢
  clear hr okr hT hrep hX
  by_cases hm0 : m = 0
  · have HW2 : Hid (∀ wx, Below w.heap.size w wx → Calls Tryz.prog 55 #[.agg P] wx fun e w' => e = .returned (.string (txt (wrP ⟨k, r, l, h⟩))) ∧ Below wx.heap.size wx w') := HWR.out hm0
    have HE : Hid (X = (wrP ⟨k, r, l, h⟩, 0)) := HP0.out hm0
    subst hm0
    clear HWR HP0 HP1
    go_enter Tryz.func31, Tryz.ntmps31
    go_upto_region 1 with fail
    generalize w.alloc (.cells P 32) = v0 at L1 KB ⊢
    go_wp2_with (refine wpList_load_row rfl 32 _ rfl w.heap.size rfl P 32 _ L1.out Tryz.underlying32 rfl (by rw [hPz]; exact infoPt) ?_)
    refine (HCK.out _ KB.out).mono ?_
    rintro e w2 ⟨rfl, hb2⟩
    have K2 : Hid (Below w.heap.size w w2) := KB.out.trans (hb2.mono KB.out.size)
    have L2 : Hid (Lies w2 w.heap.size P 32) := L1.out.below hb2 L1.out.lt
    clear hb2 L1 KB HCK
    go_wp2_with (refine wpList_load_row rfl 32 _ rfl w.heap.size rfl P 32 _ L2.out Tryz.underlying32 rfl (by rw [hPz]; exact infoPt) ?_)
    refine (HW2.out _ K2.out).mono ?_
    rintro e w3 ⟨rfl, hb3⟩
    have K3 : Hid (Below w.heap.size w w3) := K2.out.trans (hb3.mono K2.out.size)
    clear hb3 K2 L2 HW2
    go_wp2_with fail
    refine bodyPost_ret (v := .tuple #[.string (txt (wrP ⟨k, r, l, h⟩)), .int .i64 0]) (by simp [results, Tryz.results31, go_sem]) rfl ⟨by rw [HE.out]; rfl, K3.out⟩
  · have hm0' : ¬ (m : Int) = 0 := by omega
    have HE : Hid (X = ([], m)) := HP1.out hm0
    clear HWR HP0 HP1
    go_enter Tryz.func31, Tryz.ntmps31
    go_upto_region 1 with fail
    generalize w.alloc (.cells P 32) = v0 at L1 KB ⊢
    go_wp2_with (refine wpList_load_row rfl 32 _ rfl w.heap.size rfl P 32 _ L1.out Tryz.underlying32 rfl (by rw [hPz]; exact infoPt) ?_)
    refine (HCK.out _ KB.out).mono ?_
    rintro e w2 ⟨rfl, hb2⟩
    have K2 : Hid (Below w.heap.size w w2) := KB.out.trans (hb2.mono KB.out.size)
    clear hb2 L1 KB HCK
    go_wp2_with fail
    refine bodyPost_ret (v := .tuple #[.string ⟨#[]⟩, .int .i64 (m : Int)]) (by simp [results, Tryz.results31, go_sem]) rfl ⟨by rw [HE.out]; rfl, K2.out⟩
end Go.Proofs.YthkoionigdnhgabGreatDoor
