/-
  wakes.
-/
import Derived.Test.YtpepjiocjcjeeabDoorWkP
import Derived.Test.YtpepjiocjcjeeabDoorPh16
import Derived.Lib.SlBytesConst
namespace Go.Proofs.YtpepjiocjcjeeabDoor
open Go.RowKit

theorem fds_own16 {w : World} {B c : Nat} {b : Option Addr} {F : List Fd} (h : w.ownsRow B 32 2 (.slice b F.length c) F.length (cellsF F)) : Fds b F w := by
  obtain ⟨a, cap, e, h1, _⟩ := own_fds h
  injection e with e
  rw [e]
  exact h1
set_option maxRecDepth 100000 in
set_option maxHeartbeats 8000000 in
theorem wakes_any (w : World) (ht : Table w) : Calls Tryd.prog 7 #[] w fun e w' => e = .returned (.bool true) ∧ Below w.heap.size w w' := by
  have HT : Hid (Table w) := ht
  clear ht
  obtain ⟨Wc, hWc⟩ : ∃ Wc, Wc = w.alloc (.cells #[.int .u8 65, .int .u8 58, .int .u8 32, .int .u8 49, .int .u8 13, .int .u8 10, .int .u8 32, .int .u8 50, .int .u8 13, .int .u8 10, .int .u8 98, .int .u8 58, .int .u8 13, .int .u8 10, .int .u8 13, .int .u8 10, .int .u8 120] 5 (17, 18)) := ⟨_, rfl⟩
  have hcc : (convert 22 22 (.slice (some ⟨w.heap.size, 0, none⟩) 17 17)).run Tryd.prog (w.alloc (.cells #[.int .u8 65, .int .u8 58, .int .u8 32, .int .u8 49, .int .u8 13, .int .u8 10, .int .u8 32, .int .u8 50, .int .u8 13, .int .u8 10, .int .u8 98, .int .u8 58, .int .u8 13, .int .u8 10, .int .u8 13, .int .u8 10, .int .u8 120] 5)) = .ok (.slice (some ⟨w.heap.size, 0, none⟩) 17 17) Wc := by
    subst hWc
    exact Lib.run_convert_bytes_const w 22 5 _ 17 17 Tryd.underlying22 Tryd.underlying5
  have hxc : Below w.heap.size w Wc := by subst hWc; exact (Below.refl _ _).alloc (Nat.le_refl _) _
  have hLc : ∀ j, Wc.cell? ⟨w.heap.size, j, none⟩ = (cellsB litW)[j]? := fun j => by
    subst hWc
    rw [cell_of_row _ w.heap.size j _ 5 (17, 18) (heap_alloc_new w _), show (#[.int .u8 65, .int .u8 58, .int .u8 32, .int .u8 49, .int .u8 13, .int .u8 10, .int .u8 32, .int .u8 50, .int .u8 13, .int .u8 10, .int .u8 98, .int .u8 58, .int .u8 13, .int .u8 10, .int .u8 13, .int .u8 10, .int .u8 120] : Array Value) = (cellsB litW).toArray from rfl, List.getElem?_toArray]
  have hltc : w.heap.size < Wc.heap.size := by subst hWc; simp
  clear hWc
  have HPL := fparse_row (some ⟨w.heap.size, 0, none⟩) litW 17 (by decide) (by decide) (by decide) Wc (fun a e => by cases e; exact hltc) (.inr ⟨w.heap.size, 0, rfl, hltc, fun j hj => by rw [Nat.zero_add, hLc]; exact cellsB_at _ _ hj⟩) (tab_below HT.out hxc)
  rw [litW_prs.1, litW_prs.2.1, litW_prs.2.2, show litW.length = 17 from rfl, show lwF.length = 2 from rfl] at HPL
  have HBc : Hid (Below w.heap.size w Wc) := hxc
  clear hLc hltc hxc
  go_enter Tryd.func7, Tryd.ntmps7
  go_wp2_with fail
  refine HPL.mono ?_
  rintro e wd ⟨bd, cd, rfl, hbd, hod⟩
  have HBd : Hid (Below w.heap.size w wd) := HBc.out.trans (hbd.mono HBc.out.size)
  have HOd : Hid (wd.ownsRow Wc.heap.size 32 2 (.slice bd 2 cd) 2 (cellsF lwF)) := hod
  obtain ⟨gd, rfl⟩ : ∃ gd, bd = some ⟨gd, 0, none⟩ := by
    rcases HOd.out.2 with ⟨_, e2⟩ | ⟨g', cp, cur, e1, _⟩
    · cases e2
    · injection e1 with e1
      exact ⟨g', e1⟩
  clear hbd hod HBc HPL hcc
  obtain ⟨We, hWe⟩ : ∃ We, We = wd.alloc (.cells #[.int .i64 0, .int .i64 0] 27) := ⟨_, rfl⟩
  have HWe : Hid (wd.alloc (.cells #[.int .i64 0, .int .i64 0] 27) = We) := hWe.symm
  have hxe : Below wd.heap.size wd We := by rw [hWe]; exact (Below.refl _ _).alloc (Nat.le_refl _) _
  have HSe : Hid (Lies We wd.heap.size #[.int .i64 0, .int .i64 0] 27) := by rw [hWe]; exact Lies.new wd _ _
  have HOe : Hid (We.ownsRow Wc.heap.size 32 2 (.slice (some ⟨gd, 0, none⟩) 2 cd) 2 (cellsF lwF)) := ownT_below HOd.out hxe
  have HBe : Hid (Below w.heap.size w We) := HBd.out.trans (hxe.mono HBd.out.size)
  have HPR := fprint_row (some ⟨gd, 0, none⟩) cd lwF We (fds_own16 HOe.out) (by decide) (by decide) (tab_below HT.out HBe.out)
  rw [litW_pr, lw_ok, show lwF.length = 2 from rfl] at HPR
  clear hWe hxe HOd HBd
  go_wp2_with fail
  rw [HWe.out]
  refine HPR.mono ?_
  rintro e wf ⟨bf, cf, rfl, hbf, hof⟩
  have HSf : Hid (Lies wf wd.heap.size #[.int .i64 0, .int .i64 0] 27) := HSe.out.below hbf HSe.out.lt
  have HOf : Hid (wf.ownsRow Wc.heap.size 32 2 (.slice (some ⟨gd, 0, none⟩) 2 cd) 2 (cellsF lwF)) := ownT_below HOe.out hbf
  have HBf : Hid (Below w.heap.size w wf) := HBe.out.trans (hbf.mono HBe.out.size)
  have HCf : Hid (wf.ownsRow We.heap.size 5 1 (.slice bf 14 cf) 14 (cellsB [65, 58, 32, 49, 13, 10, 32, 50, 13, 10, 98, 58, 13, 10])) := hof
  have HFO := ffold_any ⟨#[84, 111]⟩ ⟨#[32, 97, 32, 98]⟩ 5 (by decide) (by decide) wf (tab_below HT.out HBf.out)
  rw [show (⟨#[84, 111]⟩ : ByteArray).data.toList = [84, 111] from rfl, show (⟨#[32, 97, 32, 98]⟩ : ByteArray).data.toList = [32, 97, 32, 98] from rfl, litW_fold] at HFO
  dsimp only at HFO
  rw [show tx [84, 111] = (⟨#[84, 111]⟩ : ByteArray) from rfl, show tx [32, 97, 13, 10, 32, 98] = (⟨#[32, 97, 13, 10, 32, 98]⟩ : ByteArray) from rfl] at HFO
  clear hbf hof HPR HSe HOe HBe HWe
  go_wp2_with fail
  refine HFO.mono ?_
  rintro e wg ⟨rfl, hbg⟩
  have HSg : Hid (Lies wg wd.heap.size #[.int .i64 0, .int .i64 0] 27) := HSf.out.below hbg HSf.out.lt
  have HOg : Hid (wg.ownsRow Wc.heap.size 32 2 (.slice (some ⟨gd, 0, none⟩) 2 cd) 2 (cellsF lwF)) := ownT_below HOf.out hbg
  have HBg : Hid (Below w.heap.size w wg) := HBf.out.trans (hbg.mono HBf.out.size)
  have HCg : Hid (wg.ownsRow We.heap.size 5 1 (.slice bf 14 cf) 14 (cellsB [65, 58, 32, 49, 13, 10, 32, 50, 13, 10, 98, 58, 13, 10])) := own_below HCf.out hbg
  clear hbg HFO HSf HOf HBf HCf
  obtain ⟨Wh, hWh⟩ : ∃ Wh, Wh = wg.alloc (.cells #[.string ⟨#[84, 111]⟩, .string ⟨#[32, 97, 13, 10, 32, 98]⟩] 32) := ⟨_, rfl⟩
  have HWh : Hid (wg.alloc (.cells #[.string ⟨#[84, 111]⟩, .string ⟨#[32, 97, 13, 10, 32, 98]⟩] 32) = Wh) := hWh.symm
  have hxh : Below wg.heap.size wg Wh := by rw [hWh]; exact (Below.refl _ _).alloc (Nat.le_refl _) _
  have hf := Lies.new wg #[.string ⟨#[84, 111]⟩, .string ⟨#[32, 97, 13, 10, 32, 98]⟩] 32
  rw [← hWh] at hf
  have hs := HSg.out.below hxh HSg.out.lt
  have ho := ownT_below HOg.out hxh
  have HBh : Hid (Below w.heap.size w Wh) := HBg.out.trans (hxh.mono HBg.out.size)
  have hcv := own_tx (l := [65, 58, 32, 49, 13, 10, 32, 50, 13, 10, 98, 58, 13, 10]) (own_below HCg.out hxh)
  rw [show tx [65, 58, 32, 49, 13, 10, 32, 50, 13, 10, 98, 58, 13, 10] = (⟨#[65, 58, 32, 49, 13, 10, 32, 50, 13, 10, 98, 58, 13, 10]⟩ : ByteArray) from rfl] at hcv
  have s0 := hs.cell 0
  have f1 := hf.cell 1
  have o1 := ho.cellAt 1 (by decide)
  have o2 := ho.cellAt 2 (by decide)
  rw [show (cellsF lwF)[1]? = some (.string ⟨#[32, 49, 13, 10, 32, 50]⟩) from rfl] at o1
  rw [show (cellsF lwF)[2]? = some (.string ⟨#[98]⟩) from rfl] at o2
  simp only [List.getElem?_toArray, List.getElem?_cons_zero, List.getElem?_cons_succ] at s0 f1
  have HUN := unfold_any ⟨#[32, 97, 13, 10, 32, 98]⟩ (by decide) Wh
  rw [show (⟨#[32, 97, 13, 10, 32, 98]⟩ : ByteArray).data.toList = [32, 97, 13, 10, 32, 98] from rfl, litW_unf, show tx [32, 97, 32, 98] = (⟨#[32, 97, 32, 98]⟩ : ByteArray) from rfl] at HUN
  clear hWh hxh hf hs ho HSg HOg HBg HCg
  go_wp2_with (rw [HWh.out])
  refine HUN.mono ?_
  rintro e wi ⟨rfl, hbi⟩
  have HBi : Hid (Below w.heap.size w wi) := HBh.out.trans (hbi.mono HBh.out.size)
  clear hbi s0 f1 o1 o2 hcv HUN HBh
  go_wp2_with fail
  go_ret
  exact ⟨rfl, HBi.out⟩
end Go.Proofs.YtpepjiocjcjeeabDoor
/-
  What a row's list with three tables gives the walks; a world for the witnesses.
-/
namespace Go.Proofs.YtpepjiocjcjeeabDoor
open Go.ChangeShapes Go.WideShapes Go.ChangeAt Go.RowKit

theorem tabsF_of {W : World} (h : laidMet Tryd.prog [("unicode/utf8.acceptRanges", Rows.laid_unicode_utf8_acceptRanges), ("posthorn/octet.classes", Rows.laid_posthorn_octet_classes), ("unicode/utf8.first", Rows.laid_unicode_utf8_first)] W) (_ : W.ShapedOpen Tryd.prog) : Table W := by
  obtain ⟨ps, ⟨g0, t0, cs0, fuel0, p0, q0, hg0, ht0, hv0, hd0, ⟨g1, t1, cs1, fuel1, p1, q1, hg1, ht1, hv1, hd1, _, _⟩, _⟩, _⟩ := h
  obtain rfl := Option.some.inj (gCl.symm.trans hg1)
  obtain rfl := Option.some.inj (tCl.symm.trans ht1)
  exact table_of_trod hv1 hd1
def litCF : DataW Unit → List Value
  | .lit (.int k z) => [Value.int k z]
  | .lit (.string b) => [Value.string ⟨b.toArray⟩]
  | _ => []
def rowCF : DataW Unit → List Value
  | .agg l => l.flatMap litCF
  | d => litCF d
def datCellsF : DataW Unit → Array Value
  | .agg l => (l.flatMap rowCF).toArray
  | _ => #[]
def layCellsF (d : DataW Unit) : Obj → Obj
  | .cells _ t frozen => .cells (datCellsF d) t frozen
  | o => o
noncomputable def laidWorldF (os : Os) : World :=
  { World.holding Tryd.prog os ⟨#[], #[], []⟩ with heap := (((World.holding Tryd.prog os ⟨#[], #[], []⟩).heap.modify 2 (layCellsF Rows.laid_unicode_utf8_acceptRanges)).modify 0 (layCellsF Rows.laid_posthorn_octet_classes)).modify 1 (layCellsF Rows.laid_unicode_utf8_first) }
theorem bulk_pos {H : Type} (d : DataW H) : 0 < Rows.uptoBulk d := by
  cases d <;> first | (rename_i l; cases l <;> simp [Rows.uptoBulk]) | simp [Rows.uptoBulk]
theorem bulk_len {H : Type} : ∀ l : List (DataW H), l.length ≤ Rows.uptoBulkAll l
  | [] => Nat.zero_le _
  | d :: r => by
    have h1 := bulk_pos d
    have h2 := bulk_len r
    simp only [Rows.uptoBulkAll, List.length_cons]
    omega
theorem bulk_slice {H : Type} {el sp l : List (DataW H)} (hk : Rows.uptoSmall H l = true) (h : DataW.slice el sp ∈ l) : el.length ≤ 1048576 := by
  have h1 : Rows.uptoBulkAll l ≤ 1048576 := of_decide_eq_true hk
  have h2 := bulk_mem h
  have h3 := bulk_len el
  simp only [Rows.uptoBulk] at h2
  omega
end Go.Proofs.YtpepjiocjcjeeabDoor
