/-
  P1.7, P1.8: for every text of at most 1048575 bytes octet.HexOf of its bytes and octet.Unhex of it answer as the document, in new memory, and what is handed in stays; proved for inputs of bulk at most 1048576 (the given upto form).
-/
import Derived.Test.YtdgbkllhcoincaaDoorRHexOf
import Derived.Test.YtdgbkllhcoincaaDoorUnhexOk
import Derived.Test.YtdgbkllhcoincaaDoorRUnhex
import Derived.Test.YtdgbkllhcoincaaDoorSpoil
import Derived.Test.YtdgbkllhcoincaaDoorLent
import Derived.Test.YtdgbkllhcoincaaDoorLaid
namespace Go.Proofs.YtdgbkllhcoincaaDoor.octetHexes
open Go.ChangeShapes Go.WideShapes Go.ChangeAt Go.RowKit
open Go.ChangeMaps (open_string shut_string)

theorem hexS_af : hexS ⟨#[175]⟩ = ⟨#[65, 70]⟩ := by decide
theorem hexof_af (w w0 : World) (hw : w = w0.alloc (.cells #[.int .u8 175] 5)) :
    Calls Tryd.prog 26 #[.slice (some ⟨w0.heap.size, 0, none⟩) 1 1] w fun e w' => e = .returned (.string ⟨#[65, 70]⟩) ∧ Below w.heap.size w w' := by
  rw [← hexS_af]
  refine hexof_any ⟨#[175]⟩ w0.heap.size 0 1 w (fun j hj => ?_) (by decide)
  obtain rfl : j = 0 := by have : j < 1 := hj; omega
  subst hw
  exact World.cell?_alloc_mark w0 #[.int .u8 175] 5 (0, 0) 0

theorem ok_af : hexOk (⟨#[97, 70]⟩ : ByteArray).data.toList := by decide
/-- A spot of no error lies in block b. -/
def SpotAt (x y : Int) (b : Nat) (w : World) : Prop := w.cell? ⟨b, 0, none⟩ = some (.int .i64 x) ∧ w.cell? ⟨b, 1, none⟩ = some (.int .i64 y) ∧ b < w.heap.size
theorem spot_new (x y : Int) (w : World) : SpotAt x y w.heap.size (w.alloc (.cells #[.int .i64 x, .int .i64 y] 47)) :=
  ⟨World.cell?_alloc_mark w #[.int .i64 x, .int .i64 y] 47 (0, 0) 0, World.cell?_alloc_mark w #[.int .i64 x, .int .i64 y] 47 (0, 0) 1, by simp⟩
theorem SpotAt.below {x y : Int} {b : Nat} {w w' : World} (h : SpotAt x y b w) (hb : Below w.heap.size w w') : SpotAt x y b w' :=
  ⟨(hb.cell (p := ⟨b, 0, none⟩) h.2.2).trans h.1, (hb.cell (p := ⟨b, 1, none⟩) h.2.2).trans h.2.1, Nat.lt_of_lt_of_le h.2.2 hb.size⟩
theorem next (w : World) (o : Obj) : Below w.heap.size w (w.alloc o) := (Below.refl _ _).alloc (Nat.le_refl _) _

set_option maxRecDepth 100000 in
set_option maxHeartbeats 4000000 in
theorem walk_ok (s : ByteArray) (w : World) (ht : Table w) (hs : s.size ≤ 1048575) (hok : hexOk s.data.toList) :
    Calls Tryd.prog 7 #[.string s] w fun e w' => e = .returned (.bool true) ∧ Below w.heap.size w w' := by
  have hl : s.data.toList.length = s.size := by rw [Array.length_toList]; rfl
  obtain ⟨n, hn⟩ : ∃ n, s.size = 2 * n := ⟨s.size / 2, by have := hok.2; rw [hl] at this; omega⟩
  have HN : Hid (s.size = 2 * n) := hn
  have HU : Hid ((unL s.data.toList).length = n) := by show _ = _; rw [unL_length, hl]; omega
  have HK : Hid (hexOk s.data.toList) := hok
  have hn1 : n ≤ 1048576 := by omega
  have HT : Hid (Table w) := ht
  clear hl hn hok ht
  go_enter Tryd.func7, Tryd.ntmps7
  go_wp2_with fail
  refine (lent_any s _ (by omega)).mono ?_
  rintro e w1 ⟨g, cap, rfl, hg, hg2, hl, hb⟩
  have HL : Hid (LentAt s g cap w1) := hl
  have HB1 : Hid (Below w.heap.size w w1) := hb
  clear hl hb
  have h12 := HB1.out.size
  go_wp2_with fail
  refine (hexof_any s g 0 cap _ HL.out.row (by omega)).mono ?_
  rintro e w2 ⟨rfl, hb2⟩
  have HL2 : Hid (LentAt s g cap w2) := HL.out.below hb2 hg2
  have HB2 : Hid (Below w.heap.size w w2) := HB1.out.trans (hb2.mono h12)
  have hg3 : g < w2.heap.size := Nat.lt_of_lt_of_le hg2 hb2.size
  have h23 := HB2.out.size
  clear hb2 HL HB1 hg2 h12
  go_wp2_with fail
  refine (rhexof_any s g cap _ HL2.out.row (by omega)).mono ?_
  rintro e w3 ⟨rfl, hb3⟩
  have HL3 : Hid (LentAt s g cap w3) := HL2.out.below hb3 hg3
  have HB3 : Hid (Below w.heap.size w w3) := HB2.out.trans (hb3.mono h23)
  clear hb3 HL2 HB2 hg3 h23
  go_wp2_with fail
  refine (kept_any s g cap _ HL3.out (by omega)).mono ?_
  rintro e w4 ⟨rfl, rfl⟩
  clear HL3
  go_wp2_with fail
  refine (hexof_af _ _ rfl).mono ?_
  rintro e w5 ⟨rfl, hb5⟩
  have HB4 := HB3.out.alloc HB3.out.size (.cells #[.int .u8 175] 5)
  have HB5 : Hid (Below w.heap.size w w5) := HB4.trans (hb5.mono HB4.size)
  clear HB4 hb5 HB3 hg
  go_wp2_with fail
  refine (runhex_okn s n HN.out _ (by omega) HK.out).mono ?_
  rintro e w6 ⟨v, rfl, ho6, hb6⟩
  have HT6 : Hid (Table w6) := (HT.out.below HB5.out).below hb6
  have HV6 : Hid (w6.ownsRow w5.heap.size 5 1 v n (cellsB (unL s.data.toList))) := by rw [HU.out] at ho6; exact ho6
  have HB6 : Hid (Below w.heap.size w w6) := HB5.out.trans (hb6.mono HB5.out.size)
  have HZ6 : Hid (w.heap.size ≤ w6.heap.size) := HB6.out.size
  clear ho6 hb6 HB5
  go_wp2_with fail
  have hn6 := next w6 (.cells #[.int .i64 0, .int .i64 0] 47)
  have HT6a : Hid (Table (w6.alloc (.cells #[.int .i64 0, .int .i64 0] 47))) := HT6.out.below hn6
  have HV6a : Hid ((w6.alloc (.cells #[.int .i64 0, .int .i64 0] 47)).ownsRow w5.heap.size 5 1 v n (cellsB (unL s.data.toList))) := below_owns HV6.out hn6
  have HB6a : Hid (Below w.heap.size w (w6.alloc (.cells #[.int .i64 0, .int .i64 0] 47))) := HB6.out.trans (hn6.mono HB6.out.size)
  have HS6 : Hid (SpotAt 0 0 w6.heap.size (w6.alloc (.cells #[.int .i64 0, .int .i64 0] 47))) := spot_new 0 0 w6
  clear hn6 HT6 HV6 HB6
  refine (unhex_okn s n HN.out _ HT6a.out (by omega) HK.out).mono ?_
  rintro e w7 ⟨ga, rfl, hga, ho7, hb7⟩
  have HT7 : Hid (Table w7) := HT6a.out.below hb7
  have HV7 : Hid (w7.ownsRow w5.heap.size 5 1 v n (cellsB (unL s.data.toList))) := below_owns HV6a.out hb7
  have HVA : Hid (v.ownBlock ≠ some ga) := fun e => by have := (HV6a.out.lt ga e).2; omega
  have HA7 : Hid (w7.ownsRow w6.heap.size 5 1 (.slice (some ⟨ga, 0, none⟩) n n) n (cellsB (unL s.data.toList))) := base_le ho7 (by simp)
  have HS7 : Hid (SpotAt 0 0 w6.heap.size w7) := HS6.out.below hb7
  have HB7 : Hid (Below w.heap.size w w7) := HB6a.out.trans (hb7.mono HB6a.out.size)
  have hsa : w6.heap.size < w7.heap.size := HS7.out.2.2
  have hga6 : w6.heap.size < ga := by simp at hga; omega
  clear hb7 HT6a HV6a HB6a HS6 ho7 hga
  go_wp2_with fail
  have hn7 := next w7 (.cells #[.int .i64 0, .int .i64 0] 47)
  have HT7a : Hid (Table (w7.alloc (.cells #[.int .i64 0, .int .i64 0] 47))) := HT7.out.below hn7
  have HV7a : Hid ((w7.alloc (.cells #[.int .i64 0, .int .i64 0] 47)).ownsRow w5.heap.size 5 1 v n (cellsB (unL s.data.toList))) := below_owns HV7.out hn7
  have HA7a : Hid ((w7.alloc (.cells #[.int .i64 0, .int .i64 0] 47)).ownsRow w6.heap.size 5 1 (.slice (some ⟨ga, 0, none⟩) n n) n (cellsB (unL s.data.toList))) := below_owns HA7.out hn7
  have HB7a : Hid (Below w.heap.size w (w7.alloc (.cells #[.int .i64 0, .int .i64 0] 47))) := HB7.out.trans (hn7.mono HB7.out.size)
  have HS7a : Hid (SpotAt 0 0 w6.heap.size (w7.alloc (.cells #[.int .i64 0, .int .i64 0] 47))) := HS7.out.below hn7
  have HR7 : Hid (SpotAt 0 0 w7.heap.size (w7.alloc (.cells #[.int .i64 0, .int .i64 0] 47))) := spot_new 0 0 w7
  clear hn7 HT7 HV7 HB7 HA7 HS7
  refine (unhex_okn s n HN.out _ HT7a.out (by omega) HK.out).mono ?_
  rintro e w8 ⟨gb, rfl, hgb, ho8, hb8⟩
  have HT8 : Hid (Table w8) := HT7a.out.below hb8
  have HV8 : Hid (w8.ownsRow w5.heap.size 5 1 v n (cellsB (unL s.data.toList))) := below_owns HV7a.out hb8
  have HVB : Hid (v.ownBlock ≠ some gb) := fun e => by have := (HV7a.out.lt gb e).2; omega
  have HAB : Hid (ga ≠ gb) := fun e => by have := (HA7a.out.lt ga rfl).2; omega
  have HA8 : Hid (w8.ownsRow w6.heap.size 5 1 (.slice (some ⟨ga, 0, none⟩) n n) n (cellsB (unL s.data.toList))) := below_owns HA7a.out hb8
  have HC8 : Hid (w8.ownsRow w7.heap.size 5 1 (.slice (some ⟨gb, 0, none⟩) n n) n (cellsB (unL s.data.toList))) := base_le ho8 (by simp)
  have HS8 : Hid (SpotAt 0 0 w6.heap.size w8) := HS7a.out.below hb8
  have HR8 : Hid (SpotAt 0 0 w7.heap.size w8) := HR7.out.below hb8
  have HB8 : Hid (Below w.heap.size w w8) := HB7a.out.trans (hb8.mono HB7a.out.size)
  have hgb7 : w7.heap.size < gb := by simp at hgb; omega
  clear hb8 HT7a HV7a HB7a HA7a HS7a HR7 ho8 hgb
  have hn8 := next w8 (.cells #[.int .i64 0, .int .i64 0] 47)
  obtain ⟨q0, q1, q2⟩ := HR8.out
  obtain ⟨p0, p1, p2⟩ := HS8.out
  have HT9 : Hid (Table (w8.alloc (.cells #[.int .i64 0, .int .i64 0] 47))) := HT8.out.below hn8
  have hV9 := below_owns HV8.out hn8
  have hA9 := below_owns HA8.out hn8
  have hC9 := below_owns HC8.out hn8
  have HB9 : Hid (Below w.heap.size w (w8.alloc (.cells #[.int .i64 0, .int .i64 0] 47))) := HB8.out.trans (hn8.mono HB8.out.size)
  have HV9 : Hid ((w8.alloc (.cells #[.int .i64 0, .int .i64 0] 47)).ownsRow w5.heap.size 5 1 v n (cellsB (unL s.data.toList))) := hV9
  have HA9 : Hid ((w8.alloc (.cells #[.int .i64 0, .int .i64 0] 47)).ownsRow w6.heap.size 5 1 (.slice (some ⟨ga, 0, none⟩) n n) n (cellsB (unL s.data.toList))) := hA9
  have HC9 : Hid ((w8.alloc (.cells #[.int .i64 0, .int .i64 0] 47)).ownsRow w7.heap.size 5 1 (.slice (some ⟨gb, 0, none⟩) n n) n (cellsB (unL s.data.toList))) := hC9
  have hv9 := own_back (unL s.data.toList) (by rw [HU.out]; exact hV9)
  have ha9 := own_back (unL s.data.toList) (by rw [HU.out]; exact hA9)
  have hc9 := own_back (unL s.data.toList) (by rw [HU.out]; exact hC9)
  have HZ : Hid (w.heap.size ≤ w6.heap.size) := HZ6.out
  clear hV9 hA9 hC9 HT8 HV8 HA8 HC8 HS8 HR8 HB8 hn8 HZ6
  go_wp2_with fail
  refine (spoil_any w6.heap.size (some ⟨ga, 0, none⟩) n _ _ HA9.out hn1).mono ?_
  rintro e w10 ⟨rfl, hgr⟩
  have hV10 := owns_other HV9.out hgr (fun q hq => by injection hq with hq; subst hq; exact HVA.out)
  have hC10 := owns_other HC9.out hgr (fun q hq => by injection hq with hq; subst hq; exact fun e => HAB.out (by injection e with e; exact e.symm))
  have HB10 : Hid (Below w.heap.size w w10) := HB9.out.grown hgr (by exact HB9.out.size) (fun q hq => by have hq : ga = q := Option.some.inj hq; have := HZ.out; omega)
  have HV10 : Hid (w10.ownsRow w5.heap.size 5 1 v n (cellsB (unL s.data.toList))) := hV10
  have HC10 : Hid (w10.ownsRow w7.heap.size 5 1 (.slice (some ⟨gb, 0, none⟩) n n) n (cellsB (unL s.data.toList))) := hC10
  have hv10 := own_back (unL s.data.toList) (by rw [HU.out]; exact hV10)
  have hc10 := own_back (unL s.data.toList) (by rw [HU.out]; exact hC10)
  clear hV10 hC10 HV9 HA9 HC9 HT9 HB9 hv9 ha9 hc9 hgr q0 q1 q2 p0 p1 p2
  go_wp2_with fail
  refine (spoil_any w7.heap.size (some ⟨gb, 0, none⟩) n _ _ HC10.out hn1).mono ?_
  rintro e w11 ⟨rfl, hgr⟩
  have HV11 : Hid (w11.ownsRow w5.heap.size 5 1 v n (cellsB (unL s.data.toList))) := owns_other HV10.out hgr (fun q hq => by injection hq with hq; subst hq; exact HVB.out)
  have HB11 : Hid (Below w.heap.size w w11) := HB10.out.grown hgr (by exact HB10.out.size) (fun q hq => by have hq : gb = q := Option.some.inj hq; have := HZ.out; omega)
  have HT11 : Hid (Table w11) := HT.out.below HB11.out
  clear HV10 HC10 HB10 hv10 hc10 hgr
  go_wp2_with fail
  refine (unhex_okn s n HN.out _ HT11.out (by omega) HK.out).mono ?_
  rintro e w12 ⟨gc, rfl, hgc, ho12, hb12⟩
  have hn12 := next w12 (.cells #[.int .i64 0, .int .i64 0] 47)
  have HT12 : Hid (Table (w12.alloc (.cells #[.int .i64 0, .int .i64 0] 47))) := (HT11.out.below hb12).below hn12
  have HV12 : Hid ((w12.alloc (.cells #[.int .i64 0, .int .i64 0] 47)).ownsRow w5.heap.size 5 1 v n (cellsB (unL s.data.toList))) := below_owns (below_owns HV11.out hb12) hn12
  have HC12 : Hid ((w12.alloc (.cells #[.int .i64 0, .int .i64 0] 47)).ownsRow w11.heap.size 5 1 (.slice (some ⟨gc, 0, none⟩) n n) n (cellsB (unL s.data.toList))) := below_owns ho12 hn12
  have HB12a := HB11.out.trans (hb12.mono HB11.out.size)
  have HB12 : Hid (Below w.heap.size w (w12.alloc (.cells #[.int .i64 0, .int .i64 0] 47))) := HB12a.trans (hn12.mono HB12a.size)
  clear HV11 HB11 HT11 hb12 ho12 HB12a hn12
  go_wp2_with fail
  refine (unhex_okn ⟨#[97, 70]⟩ 1 rfl _ HT12.out (by decide) ok_af).mono ?_
  rintro e w13 ⟨go, rfl, hgo, ho13, hb13⟩
  have hn13 := next w13 (.cells #[.int .i64 0, .int .i64 0] 47)
  have hV13 := below_owns (below_owns HV12.out hb13) hn13
  have hC13 := below_owns (below_owns HC12.out hb13) hn13
  have HB13a := HB12.out.trans (hb13.mono HB12.out.size)
  have HB13 : Hid (Below w.heap.size w (w13.alloc (.cells #[.int .i64 0, .int .i64 0] 47))) := HB13a.trans (hn13.mono HB13a.size)
  have hv13 := own_back (unL s.data.toList) (by rw [HU.out]; exact hV13)
  have hc13 := own_back (unL s.data.toList) (by rw [HU.out]; exact hC13)
  have ho : w13.cell? ⟨go, 0, none⟩ = some (.int .u8 175) := ho13.cellAt 0 (by omega)
  have hlo := (ho13.lt go rfl).2
  clear hV13 hC13 HB12 HC12 HV12 HT12 hb13 ho13 HB13a hn13
  go_wp2
  go_ret
  exact ⟨rfl, HB13.out⟩

set_option maxRecDepth 100000 in
set_option maxHeartbeats 4000000 in
theorem walk_bad (s : ByteArray) (w : World) (ht : Table w) (hs : s.size ≤ 1048575) (hok : ¬ hexOk s.data.toList) :
    Calls Tryd.prog 7 #[.string s] w fun e w' => e = .returned (.bool true) ∧ Below w.heap.size w w' := by
  have ms : s.size ≤ maxLen := by unfold maxLen; omega
  obtain ⟨n, hn⟩ : ∃ n, n = badN 4 s.data.toList := ⟨_, rfl⟩
  have hn' : badN 4 s.data.toList = n := hn.symm
  have HNN : Hid (badN 4 s.data.toList = n) := hn'
  have HK : Hid (¬ hexOk s.data.toList) := hok
  have HT : Hid (Table w) := ht
  clear hn hok ht hn'
  go_enter Tryd.func7, Tryd.ntmps7
  go_wp2_with fail
  refine (lent_any s _ (by omega)).mono ?_
  rintro e w1 ⟨g, cap, rfl, hg, hg2, hl, hb⟩
  have HL : Hid (LentAt s g cap w1) := hl
  have HB1 : Hid (Below w.heap.size w w1) := hb
  clear hl hb
  have h12 := HB1.out.size
  go_wp2_with fail
  refine (hexof_any s g 0 cap _ HL.out.row (by omega)).mono ?_
  rintro e w2 ⟨rfl, hb2⟩
  have HL2 : Hid (LentAt s g cap w2) := HL.out.below hb2 hg2
  have HB2 : Hid (Below w.heap.size w w2) := HB1.out.trans (hb2.mono h12)
  have hg3 : g < w2.heap.size := Nat.lt_of_lt_of_le hg2 hb2.size
  have h23 := HB2.out.size
  clear hb2 HL HB1 hg2 h12
  go_wp2_with fail
  refine (rhexof_any s g cap _ HL2.out.row (by omega)).mono ?_
  rintro e w3 ⟨rfl, hb3⟩
  have HL3 : Hid (LentAt s g cap w3) := HL2.out.below hb3 hg3
  have HB3 : Hid (Below w.heap.size w w3) := HB2.out.trans (hb3.mono h23)
  clear hb3 HL2 HB2 hg3 h23
  go_wp2_with fail
  refine (kept_any s g cap _ HL3.out (by omega)).mono ?_
  rintro e w4 ⟨rfl, rfl⟩
  clear HL3
  go_wp2_with fail
  refine (hexof_af _ _ rfl).mono ?_
  rintro e w5 ⟨rfl, hb5⟩
  have HB4 := HB3.out.alloc HB3.out.size (.cells #[.int .u8 175] 5)
  have HB5 : Hid (Below w.heap.size w w5) := HB4.trans (hb5.mono HB4.size)
  clear HB4 hb5 HB3 hg
  go_wp2_with fail
  refine (runhex_bad s _ ms HK.out).mono ?_
  rintro e w6 ⟨rfl, hb6⟩
  rw [HNN.out]
  have HB6 : Hid (Below w.heap.size w w6) := HB5.out.trans (hb6.mono HB5.out.size)
  clear hb6 HB5
  go_wp2_with fail
  have hn6 := next w6 (.cells #[.int .i64 10, .int .i64 (n : Int)] 47)
  have HB6a : Hid (Below w.heap.size w (w6.alloc (.cells #[.int .i64 10, .int .i64 (n : Int)] 47))) := HB6.out.trans (hn6.mono HB6.out.size)
  have HS6 : Hid (SpotAt 10 n w6.heap.size (w6.alloc (.cells #[.int .i64 10, .int .i64 (n : Int)] 47))) := spot_new 10 n w6
  clear hn6 HB6
  refine (unhex_bad s _ (HT.out.below HB6a.out) ms HK.out).mono ?_
  rintro e w7 ⟨rfl, hb7⟩
  rw [HNN.out]
  have HS7 : Hid (SpotAt 10 n w6.heap.size w7) := HS6.out.below hb7
  have HB7 : Hid (Below w.heap.size w w7) := HB6a.out.trans (hb7.mono HB6a.out.size)
  clear hb7 HB6a HS6
  go_wp2_with fail
  have hn7 := next w7 (.cells #[.int .i64 10, .int .i64 (n : Int)] 47)
  have HB7a : Hid (Below w.heap.size w (w7.alloc (.cells #[.int .i64 10, .int .i64 (n : Int)] 47))) := HB7.out.trans (hn7.mono HB7.out.size)
  have HS7a : Hid (SpotAt 10 n w6.heap.size (w7.alloc (.cells #[.int .i64 10, .int .i64 (n : Int)] 47))) := HS7.out.below hn7
  have HR7 : Hid (SpotAt 10 n w7.heap.size (w7.alloc (.cells #[.int .i64 10, .int .i64 (n : Int)] 47))) := spot_new 10 n w7
  clear hn7 HB7 HS7
  refine (unhex_bad s _ (HT.out.below HB7a.out) ms HK.out).mono ?_
  rintro e w8 ⟨rfl, hb8⟩
  rw [HNN.out]
  obtain ⟨q0, q1, q2⟩ := HR7.out.below hb8
  obtain ⟨p0, p1, p2⟩ := HS7a.out.below hb8
  have HB8 := HB7a.out.trans (hb8.mono HB7a.out.size)
  have hn8 := next w8 (.cells #[.int .i64 10, .int .i64 (n : Int)] 47)
  have HB9 : Hid (Below w.heap.size w (w8.alloc (.cells #[.int .i64 10, .int .i64 (n : Int)] 47))) := HB8.trans (hn8.mono HB8.size)
  clear hb8 HB7a HS7a HR7 HB8 hn8
  have hnil := fun w0 => own_back (w := w0) [] (World.ownsRow_nil w0 0 5 1)
  go_wp2_with fail
  refine (spoil_any 0 none 0 [] _ (World.ownsRow_nil _ 0 5 1) (by omega)).mono ?_
  rintro e w10 ⟨rfl, hgr⟩
  have HB10 : Hid (Below w.heap.size w w10) := HB9.out.grown hgr (by exact HB9.out.size) (fun q hq => by cases hq)
  clear hgr HB9 q0 q1 q2 p0 p1 p2
  go_wp2_with fail
  refine (spoil_any 0 none 0 [] _ (World.ownsRow_nil _ 0 5 1) (by omega)).mono ?_
  rintro e w11 ⟨rfl, hgr⟩
  have HB11 : Hid (Below w.heap.size w w11) := HB10.out.grown hgr (by exact HB10.out.size) (fun q hq => by cases hq)
  clear hgr HB10
  go_wp2_with fail
  refine (unhex_bad s _ (HT.out.below HB11.out) ms HK.out).mono ?_
  rintro e w12 ⟨rfl, hb12⟩
  rw [HNN.out]
  have hn12 := next w12 (.cells #[.int .i64 10, .int .i64 (n : Int)] 47)
  have HB12a := HB11.out.trans (hb12.mono HB11.out.size)
  have HB12 : Hid (Below w.heap.size w (w12.alloc (.cells #[.int .i64 10, .int .i64 (n : Int)] 47))) := HB12a.trans (hn12.mono HB12a.size)
  clear HB11 hb12 HB12a hn12
  go_wp2_with fail
  refine (unhex_okn ⟨#[97, 70]⟩ 1 rfl _ (HT.out.below HB12.out) (by decide) ok_af).mono ?_
  rintro e w13 ⟨go, rfl, hgo, ho13, hb13⟩
  have hn13 := next w13 (.cells #[.int .i64 0, .int .i64 0] 47)
  have HB13a := HB12.out.trans (hb13.mono HB12.out.size)
  have HB13 : Hid (Below w.heap.size w (w13.alloc (.cells #[.int .i64 0, .int .i64 0] 47))) := HB13a.trans (hn13.mono HB13a.size)
  have ho : w13.cell? ⟨go, 0, none⟩ = some (.int .u8 175) := ho13.cellAt 0 (by omega)
  have hlo := (ho13.lt go rfl).2
  clear HB12 hb13 ho13 HB13a hn13
  go_wp2
  go_ret
  exact ⟨rfl, HB13.out⟩

theorem walk (s : ByteArray) (w : World) (ht : Table w) (hs : s.size ≤ 1048575) :
    Calls Tryd.prog 7 #[.string s] w fun e w' => e = .returned (.bool true) ∧ Below w.heap.size w w' := by
  by_cases hok : hexOk s.data.toList
  · exact walk_ok s w ht hs hok
  · exact walk_bad s w ht hs hok

theorem contract (H : Type) (enc : TypeId × Value → H) (W : World) (base : Nat) (args : Array Value) (ds gs : List (DataW H)) (before : List MemPlace)
    (hval : ∀ (j : Nat) t v, Tryd.f7.params[j]? = some t → args[j]? = some v → Value.okWide Tryd.prog W .any base t v)
    (hW : DataW.Whole enc Tryd.prog Tryd.f7.params.toList Rows.octetHexesSpec.vars false W args.toList ds gs before)
    (hsz : (DataW.weightsEach Tryd.prog (Tryd.f7.params.toList ++ (OpenSpec.ofChange Rows.octetHexesSpec).bare.plain.varTypes Tryd.prog) (ds ++ gs)).all (· ≤ reachBytes) = true)
    (hcond : Rows.uptoSmall H (ds ++ gs) = true) (hL : laidMetH Tryd.prog Rows.octetHexesRow.laid W) :
    Calls Tryd.prog 7 args W fun e W' => ∃ v, e = .returned v ∧ Rows.octetHexesSpec.post enc Tryd.prog Tryd.f7 false true false false W args v W' := by
  have hW' := hW
  obtain ⟨p, q, hA0, hV, rfl, hfz, hnd⟩ := hW
  have hA : DataW.TrodAll enc Tryd.prog W 0 (fun _ => true) true Tryd.f7.params.toList args.toList ds p := hA0
  rw [Tryd.params7] at hA hval hsz
  obtain ⟨v0, vs0, d0, ds0, p0, q0, hargs, rfl, rfl, h0, r0⟩ := trodAll_cons hA
  obtain ⟨rfl, rfl, rfl⟩ := trodAll_nil r0
  obtain rfl : args = #[v0] := by cases args; simp_all
  obtain ⟨rfl, rfl⟩ := trodVars_none hV
  obtain ⟨a0, rfl, rfl, rfl, w0⟩ := open_string Tryd.underlying9 (hval 0 9 v0 rfl rfl) h0
  clear hA0
  have hbulk := of_decide_eq_true hcond
  simp only [List.append_nil, Rows.uptoBulkAll, Rows.uptoBulk, Array.length_toList] at hbulk
  have s0 := sized_string hsz (j := 0) (t := 9) rfl rfl
  simp only [reachBytes, Array.length_toList] at s0
  simp only [List.append_nil] at hW'
  refine (walk a0 W (table_of_head hL) (by have : a0.data.size = a0.size := rfl; omega)).mono fun e W' ⟨he, bel⟩ => ?_
  subst he
  exact ⟨_, rfl, _, _, _, [], [], [], hW', trodAll_mk1 (shut_bool Tryd.underlying4 _), trodAll_cons_mk (shut_string Tryd.underlying9 w0) trodAll_mk0, rfl, bel.frame _, fun h => by cases h⟩

theorem laid_met (os : Os) : laidMet Tryd.prog Rows.octetHexesRow.laid ((laidWorld os).forCall (fun _ _ => 0) ⟨#[], #[.string ByteArray.empty], []⟩).memory :=
  laidMet_of_run' 8 (by kernel_rfl) (by kernel_rfl)
theorem reads (os : Os) {H : Type} (enc : TypeId × Value → H) : ∃ places, DataW.whole enc Tryd.prog ((laidWorld os).forCall (fun _ _ => 0) ⟨#[], #[.string ByteArray.empty], []⟩).memory Tryd.f7.params.toList Rows.octetHexesSpec.vars false #[Value.string ByteArray.empty].toList 8 = some ([.lit (.string [])], [], places) :=
  ⟨[], by kernel_rfl⟩

set_option maxRecDepth 100000 in
theorem lifted (os : Os) (started : os.Started) (H : Type) (enc : TypeId × Value → H) (F : Stop.Interp) :
    ReturnsInHanded {} Tryd.checked os 7 .any ((Rows.OpenSpec.upto Rows.octetHexesSpec).preRow enc Tryd.prog Tryd.f7 Rows.octetHexesUptoRow.domain false Rows.octetHexesUptoRow.laid) (((Rows.OpenSpec.upto Rows.octetHexesSpec).at F).post enc Tryd.prog Tryd.f7 false true false false) := by
  obtain ⟨places, hx⟩ := reads os enc
  refine returnsInHanded_of_row (C := Tryd.checked) (s := Rows.OpenSpec.upto Rows.octetHexesSpec) own started (by kernel_rfl) Tryd.func7
    (witness_row_at (enc := enc) (C := Tryd.checked) false (laidWorld os) #[.string ByteArray.empty] rfl (by kernel_rfl) (by kernel_rfl) (by kernel_rfl)
      (OpenSpec.preRow_of_cond 8 hx (by kernel_rfl) (fun k hk => by cases hk; kernel_rfl) (by kernel_rfl) (laid_met os))) ?_
  intro W base args ds gs before hval hW _ hcond hsz hL _ _
  exact contract H enc W base args ds gs before hval hW hsz (hcond _ rfl) hL

theorem said : Rows.OctetHexesUptoSaid :=
  OpenClaim.holds_of_cond 7 Tryd.f7 rfl rfl rfl rfl rfl rfl rfl ⟨rfl, rfl, rfl, rfl, rfl⟩ rfl rfl rfl rfl rfl (by kernel_rfl) Tryd.func7 (by kernel_rfl)
    (of_decide_eq_true (by kernel_rfl)) (by unfold Func.isWrapper; first | (rw [if_pos (by decide +kernel)]; kernel_rfl) | (rw [if_neg (by decide +kernel)]; exact ⟨rfl, rfl⟩))
    (fun os started H enc _ F => by rw [OpenClaim.pre_eq_preRow]; exact lifted os started H enc F)

/-- No parameter wants a stand-in; the program's own looks are off. -/
theorem plain (f : FuncId) (fn : Func) (hf : Tryd.pinned.checked.prog.funcNamed "posthorn/posthornlaw01.OctetHexes" = some f) (hfn : Tryd.pinned.checked.prog.funcs[f]? = some fn) :
    false = Tryd.pinned.checked.prog.looks [] ∧ ∀ (j : Nat) t, fn.params[j]? = some t → Tryd.pinned.checked.prog.wantsStandIn t = false := by
  obtain rfl : f = 7 := Option.some.inj ((show Tryd.prog.funcNamed "posthorn/posthornlaw01.OctetHexes" = some 7 by kernel_rfl).symm.trans hf) |>.symm
  obtain rfl : fn = Tryd.f7 := (Option.some.inj (Tryd.func7.symm.trans hfn)).symm
  refine ⟨by kernel_rfl, fun j t ht => ?_⟩
  rw [Tryd.params7] at ht
  have hm : t ∈ [9] := by simpa using Array.mem_of_getElem? ht
  have hall : ([9].all fun u => !Tryd.prog.wantsStandIn u) = true := by kernel_rfl
  exact (show Tryd.prog.wantsStandIn t = false by simpa using List.all_eq_true.1 hall t hm)

/-- The card. -/
theorem card : Rows.OctetHexesUptoCardSaid :=
  Claim7.holds_tied_plain_at .later [] _ _ _ _ said (fun _ h => by cases h) (by kernel_rfl) (fun _ h => by cases h) octetHexesUpto_row_tie rfl ⟨rfl, rfl⟩ (by kernel_rfl) rfl plain (by kernel_rfl)
end Go.Proofs.YtdgbkllhcoincaaDoor.octetHexes
namespace Go.Proofs.YtdgbkllhcoincaaDoor
theorem octetHexesUpto_card : Rows.OctetHexesUptoCardSaid := octetHexes.card
#print axioms octetHexesUpto_card
end Go.Proofs.YtdgbkllhcoincaaDoor
