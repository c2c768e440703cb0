/-
  What the statements ask first, plainly.
-/
import Derived.Test.YtpepjiocjcjeeabDoorPagP
import Derived.Test.YtpepjiocjcjeeabDoorFr16
import Derived.Test.YtpepjiocjcjeeabDoorFmP
import Derived.Test.YtpepjiocjcjeeabDoorLpP
import Derived.Lib.SlBytesConst
namespace Go.Proofs.YtpepjiocjcjeeabDoor

/-- "A: 1\r\n 2\r\nb:\r\n\r\nx" and its fields. -/
def litW : List UInt8 := [65, 58, 32, 49, 13, 10, 32, 50, 13, 10, 98, 58, 13, 10, 13, 10, 120]
def lwF : List Fd := [⟨[65], [32, 49, 13, 10, 32, 50]⟩, ⟨[98], []⟩]
theorem lw_ok : prE lwF = 0 := by
  have h1 : chkF [65] [32, 49, 13, 10, 32, 50] = 0 := ok_chk (by decide) ⟨[32, 49], [[32, 50]], rfl, by unfold noCR; decide, by decide, fun q hq => by
    rw [List.mem_singleton.1 hq]
    exact ⟨by unfold noCR; decide, by decide, by decide⟩⟩
  have h2 : chkF [98] [] = 0 := ok_chk (by decide) ⟨[], [], rfl, by unfold noCR; decide, by decide, fun q hq => by cases hq⟩
  unfold prE lwF
  rw [if_neg (by decide), errF, if_pos h1, errF, if_pos h2]
  rfl
theorem litW_is : litW = prL lwF ++ [13, 10, 120] := rfl
theorem litW_prs : fsP litW (prsF litW) = lwF ∧ btP (prsF litW) = 16 ∧ spP (prsF litW) = (0, 0) := by
  obtain ⟨ps, h1, h2⟩ := back_all lwF lw_ok [13, 10, 120] (.inr rfl)
  rw [← litW_is] at h1 h2
  have h3 : (prL lwF).length + (if ([13, 10, 120] : List UInt8) = [] then 0 else 2) = 16 := rfl
  rw [h3] at h1
  rw [h1]
  exact ⟨h2, rfl, rfl⟩
theorem litW_pr : prR lwF = [65, 58, 32, 49, 13, 10, 32, 50, 13, 10, 98, 58, 13, 10] := by
  unfold prR
  rw [if_pos lw_ok]
  rfl
theorem litW_fold : foldF [84, 111] [32, 97, 32, 98] 5 = (0, ⟨[84, 111], [32, 97, 13, 10, 32, 98]⟩) := by kernel_rfl
theorem litW_unf : unf [32, 97, 13, 10, 32, 98] = [32, 97, 32, 98] := by
  simp [unf_cons, unf_nil, fdH, leH, blB]
end Go.Proofs.YtpepjiocjcjeeabDoor
/-
  wakes.
-/
namespace Go.Proofs.YtpepjiocjcjeeabDoor
open Go.RowKit

theorem fds_own16 {w : World} {B c : Nat} {b : Option Addr} {F : List Fd} (h : w.ownsRow B 32 2 (.slice b F.length c) F.length (cellsF F)) : Fds b F w := by
  obtain ⟨a, cap, e, h1, _⟩ := own_fds h
  injection e with e
  rw [e]
  exact h1
set_option maxRecDepth 100000 in
set_option maxHeartbeats 8000000 in
theorem wakes_any (w : World) (ht : Table w) : Calls Tryd.prog 7 #[] w fun e w' => e = .returned (.bool true) ∧ Below w.heap.size w w' := by
  have HT : Hid (Table w) := ht
  clear ht
  obtain ⟨Wc, hWc⟩ : ∃ Wc, Wc = w.alloc (.cells #[.int .u8 65, .int .u8 58, .int .u8 32, .int .u8 49, .int .u8 13, .int .u8 10, .int .u8 32, .int .u8 50, .int .u8 13, .int .u8 10, .int .u8 98, .int .u8 58, .int .u8 13, .int .u8 10, .int .u8 13, .int .u8 10, .int .u8 120] 5 (17, 18)) := ⟨_, rfl⟩
  have hcc : (convert 22 22 (.slice (some ⟨w.heap.size, 0, none⟩) 17 17)).run Tryd.prog (w.alloc (.cells #[.int .u8 65, .int .u8 58, .int .u8 32, .int .u8 49, .int .u8 13, .int .u8 10, .int .u8 32, .int .u8 50, .int .u8 13, .int .u8 10, .int .u8 98, .int .u8 58, .int .u8 13, .int .u8 10, .int .u8 13, .int .u8 10, .int .u8 120] 5)) = .ok (.slice (some ⟨w.heap.size, 0, none⟩) 17 17) Wc := by
    subst hWc
    exact Lib.run_convert_bytes_const w 22 5 _ 17 17 Tryd.underlying22 Tryd.underlying5
  have hxc : Below w.heap.size w Wc := by subst hWc; exact (Below.refl _ _).alloc (Nat.le_refl _) _
  have hLc : ∀ j, Wc.cell? ⟨w.heap.size, j, none⟩ = (cellsB litW)[j]? := fun j => by
    subst hWc
    rw [cell_of_row _ w.heap.size j _ 5 (17, 18) (heap_alloc_new w _), show (#[.int .u8 65, .int .u8 58, .int .u8 32, .int .u8 49, .int .u8 13, .int .u8 10, .int .u8 32, .int .u8 50, .int .u8 13, .int .u8 10, .int .u8 98, .int .u8 58, .int .u8 13, .int .u8 10, .int .u8 13, .int .u8 10, .int .u8 120] : Array Value) = (cellsB litW).toArray from rfl, List.getElem?_toArray]
  have hltc : w.heap.size < Wc.heap.size := by subst hWc; simp
  clear hWc
  have HPL := fparse_row (some ⟨w.heap.size, 0, none⟩) litW 17 (by decide) (by decide) (by decide) Wc (fun a e => by cases e; exact hltc) (.inr ⟨w.heap.size, 0, rfl, hltc, fun j hj => by rw [Nat.zero_add, hLc]; exact cellsB_at _ _ hj⟩) (tab_below HT.out hxc)
  rw [litW_prs.1, litW_prs.2.1, litW_prs.2.2, show litW.length = 17 from rfl, show lwF.length = 2 from rfl] at HPL
  have HBc : Hid (Below w.heap.size w Wc) := hxc
  clear hLc hltc hxc
  go_enter Tryd.func7, Tryd.ntmps7
  go_wp2_with fail
  refine HPL.mono ?_
  rintro e wd ⟨bd, cd, rfl, hbd, hod⟩
  have HBd : Hid (Below w.heap.size w wd) := HBc.out.trans (hbd.mono HBc.out.size)
  have HOd : Hid (wd.ownsRow Wc.heap.size 32 2 (.slice bd 2 cd) 2 (cellsF lwF)) := hod
  obtain ⟨gd, rfl⟩ : ∃ gd, bd = some ⟨gd, 0, none⟩ := by
    rcases HOd.out.2 with ⟨_, e2⟩ | ⟨g', cp, cur, e1, _⟩
    · cases e2
    · injection e1 with e1
      exact ⟨g', e1⟩
  clear hbd hod HBc HPL hcc
  obtain ⟨We, hWe⟩ : ∃ We, We = wd.alloc (.cells #[.int .i64 0, .int .i64 0] 27) := ⟨_, rfl⟩
  have HWe : Hid (wd.alloc (.cells #[.int .i64 0, .int .i64 0] 27) = We) := hWe.symm
  have hxe : Below wd.heap.size wd We := by rw [hWe]; exact (Below.refl _ _).alloc (Nat.le_refl _) _
  have HSe : Hid (Lies We wd.heap.size #[.int .i64 0, .int .i64 0] 27) := by rw [hWe]; exact Lies.new wd _ _
  have HOe : Hid (We.ownsRow Wc.heap.size 32 2 (.slice (some ⟨gd, 0, none⟩) 2 cd) 2 (cellsF lwF)) := ownT_below HOd.out hxe
  have HBe : Hid (Below w.heap.size w We) := HBd.out.trans (hxe.mono HBd.out.size)
  have HPR := fprint_row (some ⟨gd, 0, none⟩) cd lwF We (fds_own16 HOe.out) (by decide) (by decide) (tab_below HT.out HBe.out)
  rw [litW_pr, lw_ok, show lwF.length = 2 from rfl] at HPR
  clear hWe hxe HOd HBd
  go_wp2_with fail
  rw [HWe.out]
  refine HPR.mono ?_
  rintro e wf ⟨bf, cf, rfl, hbf, hof⟩
  have HSf : Hid (Lies wf wd.heap.size #[.int .i64 0, .int .i64 0] 27) := HSe.out.below hbf HSe.out.lt
  have HOf : Hid (wf.ownsRow Wc.heap.size 32 2 (.slice (some ⟨gd, 0, none⟩) 2 cd) 2 (cellsF lwF)) := ownT_below HOe.out hbf
  have HBf : Hid (Below w.heap.size w wf) := HBe.out.trans (hbf.mono HBe.out.size)
  have HCf : Hid (wf.ownsRow We.heap.size 5 1 (.slice bf 14 cf) 14 (cellsB [65, 58, 32, 49, 13, 10, 32, 50, 13, 10, 98, 58, 13, 10])) := hof
  have HFO := ffold_any ⟨#[84, 111]⟩ ⟨#[32, 97, 32, 98]⟩ 5 (by decide) (by decide) wf (tab_below HT.out HBf.out)
  rw [show (⟨#[84, 111]⟩ : ByteArray).data.toList = [84, 111] from rfl, show (⟨#[32, 97, 32, 98]⟩ : ByteArray).data.toList = [32, 97, 32, 98] from rfl, litW_fold] at HFO
  dsimp only at HFO
  rw [show tx [84, 111] = (⟨#[84, 111]⟩ : ByteArray) from rfl, show tx [32, 97, 13, 10, 32, 98] = (⟨#[32, 97, 13, 10, 32, 98]⟩ : ByteArray) from rfl] at HFO
  clear hbf hof HPR HSe HOe HBe HWe
  go_wp2_with fail
  refine HFO.mono ?_
  rintro e wg ⟨rfl, hbg⟩
  have HSg : Hid (Lies wg wd.heap.size #[.int .i64 0, .int .i64 0] 27) := HSf.out.below hbg HSf.out.lt
  have HOg : Hid (wg.ownsRow Wc.heap.size 32 2 (.slice (some ⟨gd, 0, none⟩) 2 cd) 2 (cellsF lwF)) := ownT_below HOf.out hbg
  have HBg : Hid (Below w.heap.size w wg) := HBf.out.trans (hbg.mono HBf.out.size)
  have HCg : Hid (wg.ownsRow We.heap.size 5 1 (.slice bf 14 cf) 14 (cellsB [65, 58, 32, 49, 13, 10, 32, 50, 13, 10, 98, 58, 13, 10])) := own_below HCf.out hbg
  clear hbg HFO HSf HOf HBf HCf
  obtain ⟨Wh, hWh⟩ : ∃ Wh, Wh = wg.alloc (.cells #[.string ⟨#[84, 111]⟩, .string ⟨#[32, 97, 13, 10, 32, 98]⟩] 32) := ⟨_, rfl⟩
  have HWh : Hid (wg.alloc (.cells #[.string ⟨#[84, 111]⟩, .string ⟨#[32, 97, 13, 10, 32, 98]⟩] 32) = Wh) := hWh.symm
  have hxh : Below wg.heap.size wg Wh := by rw [hWh]; exact (Below.refl _ _).alloc (Nat.le_refl _) _
  have hf := Lies.new wg #[.string ⟨#[84, 111]⟩, .string ⟨#[32, 97, 13, 10, 32, 98]⟩] 32
  rw [← hWh] at hf
  have hs := HSg.out.below hxh HSg.out.lt
  have ho := ownT_below HOg.out hxh
  have HBh : Hid (Below w.heap.size w Wh) := HBg.out.trans (hxh.mono HBg.out.size)
  have hcv := own_tx (l := [65, 58, 32, 49, 13, 10, 32, 50, 13, 10, 98, 58, 13, 10]) (own_below HCg.out hxh)
  rw [show tx [65, 58, 32, 49, 13, 10, 32, 50, 13, 10, 98, 58, 13, 10] = (⟨#[65, 58, 32, 49, 13, 10, 32, 50, 13, 10, 98, 58, 13, 10]⟩ : ByteArray) from rfl] at hcv
  have s0 := hs.cell 0
  have f1 := hf.cell 1
  have o1 := ho.cellAt 1 (by decide)
  have o2 := ho.cellAt 2 (by decide)
  rw [show (cellsF lwF)[1]? = some (.string ⟨#[32, 49, 13, 10, 32, 50]⟩) from rfl] at o1
  rw [show (cellsF lwF)[2]? = some (.string ⟨#[98]⟩) from rfl] at o2
  simp only [List.getElem?_toArray, List.getElem?_cons_zero, List.getElem?_cons_succ] at s0 f1
  have HUN := unfold_any ⟨#[32, 97, 13, 10, 32, 98]⟩ (by decide) Wh
  rw [show (⟨#[32, 97, 13, 10, 32, 98]⟩ : ByteArray).data.toList = [32, 97, 13, 10, 32, 98] from rfl, litW_unf, show tx [32, 97, 32, 98] = (⟨#[32, 97, 32, 98]⟩ : ByteArray) from rfl] at HUN
  clear hWh hxh hf hs ho HSg HOg HBg HCg
  go_wp2_with (rw [HWh.out])
  refine HUN.mono ?_
  rintro e wi ⟨rfl, hbi⟩
  have HBi : Hid (Below w.heap.size w wi) := HBh.out.trans (hbi.mono HBh.out.size)
  clear hbi s0 f1 o1 o2 hcv HUN HBh
  go_wp2_with fail
  go_ret
  exact ⟨rfl, HBi.out⟩
end Go.Proofs.YtpepjiocjcjeeabDoor
