/-
  The contracts of domain.Parse and checkTagged.
-/
import Derived.Test.YthkoionigdnhgabGreatDoorLt8
import Derived.Test.YthkoionigdnhgabGreatDoorZr8
import Derived.Test.YthkoionigdnhgabGreatDoorQc9
import Derived.Test.YthkoionigdnhgabGreatDoorPtN
import Derived.Test.YthkoionigdnhgabGreatDoorRcP
import Derived.Test.YthkoionigdnhgabGreatDoorPtL
import Derived.Shelf.Strings.Builder1
import Derived.Shelf.Strings.Builder2
import Derived.Shelf.Strings.OnBuilder
import Derived.Shelf.Small.Utf8
import Derived.Shelf.Small.Strs
import Derived.Shelf.Strconv.Itoa0
import Derived.Shelf.Strconv.Itoa1
import Derived.Shelf.LaysM
import Derived.Shelf.Strconv.Itoa2
import Derived.Shelf.Strconv.Itoa3
import Derived.Shelf.Strings.Search1
import Derived.Shelf.Strings.Search2
import Derived.Shelf.Strings.Search3
import Derived.Shelf.Strings.Count
import Derived.Shelf.Strings.Shaped
import Derived.Shelf.Strings.Prefix
import Derived.Shelf.Strings.Split
import Derived.Shelf.Strings.Replace
import Derived.Shelf.Strings.Runes
import Derived.Shelf.Strings.RuneCount
import Derived.Shelf.Strings.IndexAny
import Derived.Shelf.Strings.AsciiSet
import Derived.Shelf.Strings.IndexAnyAll
import Derived.Shelf.Unicode.DecodeSlow
import Derived.Shelf.Unicode.DecodeAny
import Derived.Shelf.Bytes.SlIndexSmall
import Derived.Shelf.Bytes.SlIndexAt
import Derived.Shelf.Bytes.SlSearch0
import Derived.Shelf.Bytes.SlSearch1
import Derived.Shelf.Bytes.SlSearch2
import Derived.Shelf.Bytes.SlIndexWhole
import Derived.Ground.SlbtProg
import Derived.Shelf.Bytes.SlCut
import Derived.Shelf.Bytes.Small
import Derived.Shelf.Bytes.IndexByte
import Derived.Test.YthkoionigdnhgabGreatDoorProg
namespace Go.Proofs.YthkoionigdnhgabGreatDoor
open Go.RowKit

theorem field_spot (a b : Int) (W : World) : (Instr.field 41 (.agg #[.int .i64 a, .int .i64 b]) 0).run Tryz.prog W = .ok (.int .i64 a) W := by
  have h5 : (Tryz.prog.info? 39).map (·.size) = some 1 := by kernel_rfl
  cases hq : Tryz.prog.info? 39 with
  | none => simp [hq] at h5
  | some i =>
    have hs : i.size = 1 := by simpa [hq] using h5
    simp [Instr.field, asAgg, run_underlying Tryz.underlying41, run_underlying Tryz.underlying39, sizeOf, typeInfo, hq, hs, part, isAgg]
/-- The tables that the package reads. -/
structure Tb (w : World) : Prop where
  cls : Table w
  gcl : 2 < w.heap.size
  fst : Fst w
  t64 : w.cell? ⟨11, 15, none⟩ = some (.int .u8 4)
theorem Tb.below {w w' : World} (h : Tb w) (hb : Below w.heap.size w w') : Tb w' := by
  exact ⟨h.cls.below h.gcl hb, Nat.lt_of_lt_of_le h.gcl hb.size, h.fst.below hb h.fst.lt, (hb.cell (p := ⟨11, 15, none⟩) (World.block_lt_of_cell? w _ h.t64)).trans h.t64⟩
set_option maxHeartbeats 2000000 in
set_option maxRecDepth 100000 in
theorem ct_any (t : ByteArray) (w : World) (hT : Tb w) (hs : t.size ≤ 140737488355328) : Calls Tryz.prog 77 #[.string t] w fun e w' => e = .returned (.int .i64 (chTag t.data.toList : Nat)) ∧ Below w.heap.size w w' := by
  by_cases h253 : 253 < t.size
  · have HV : Hid (chTag t.data.toList = 82) := by
      show _ = _
      unfold chTag
      rw [if_pos (by rw [len_list]; exact h253)]
    have h253' : (253 : Int) < (t.size : Int) := by omega
    clear hT
    go_enter Tryz.func77, Tryz.ntmps77
    go_wp2_with fail
    go_ret
    exact ⟨by rw [HV.out]; rfl, Below.refl _ _⟩
  have h253' : ¬ (253 : Int) < (t.size : Int) := by omega
  have HV : Hid (chTag t.data.toList = match colonAt t.data.toList with | none => 83 | some k => if sixB t.data.toList = true then 83 else (tagged t.data.toList k).1) := by
    show _ = _
    unfold chTag
    rw [if_neg (by rw [len_list]; exact h253)]
    rfl
  have HIX := Tryz.strings_IndexByte t 58 w
  rw [show (58 : Int).toNat.toUInt8 = 58 from rfl, index_colon] at HIX
  cases hcol : colonAt t.data.toList with
  | none =>
    rw [hcol] at HIX HV
    have HIX2 : Hid (Calls Tryz.prog 98 #[.string t, .int .u8 58] w fun e w' => e = .returned (.int .i64 (-1)) ∧ w' = w) := HIX
    clear HIX hcol hT
    go_enter Tryz.func77, Tryz.ntmps77
    go_wp2_with fail
    refine HIX2.out.mono ?_
    rintro e w1 ⟨rfl, rfl⟩
    go_wp2_with fail
    go_ret
    exact ⟨by rw [HV.out]; rfl, Below.refl _ _⟩
  | some k =>
    rw [hcol] at HIX HV
    have hk : k < t.size := by
      have := (colonAt_some hcol).1
      rw [len_list] at this
      exact this
    have HIX2 : Hid (Calls Tryz.prog 98 #[.string t, .int .u8 58] w fun e w' => e = .returned (.int .i64 (k : Int)) ∧ w' = w) := HIX
    have HT : Hid (∀ wx, Below w.heap.size w wx → Tb wx) := fun wx hb => hT.below hb
    have HSX : Hid (Calls Tryz.prog 118 #[.string t] w fun e w' => e = .returned (.bool (sixB t.data.toList)) ∧ Below w.heap.size w w') := six_any t w
    have HWT : Hid (∀ wx, Below w.heap.size w wx → Calls Tryz.prog 119 #[.string t, .int .i64 (k : Nat)] wx fun e w' => e = .returned (.agg #[.int .i64 ((tagged t.data.toList k).1 : Nat), .int .i64 ((tagged t.data.toList k).2 : Nat)]) ∧ Below wx.heap.size wx w') := fun wx hb => wt_any t k wx (HT.out _ hb).cls (HT.out _ hb).gcl hk (by omega)
    have HV2 : Hid (chTag t.data.toList = if sixB t.data.toList = true then 83 else (tagged t.data.toList k).1) := HV
    have hk0 : ¬ (k : Int) < 0 := by omega
    obtain ⟨b6, hb6⟩ : ∃ b, b = sixB t.data.toList := ⟨_, rfl⟩
    rw [← hb6] at HSX HV2
    clear HIX hcol hT HV hb6
    generalize tagged t.data.toList k = tg at HWT HV2
    go_enter Tryz.func77, Tryz.ntmps77
    go_wp2_with fail
    refine HIX2.out.mono ?_
    rintro e w1 ⟨rfl, rfl⟩
    go_wp2_with fail
    refine HSX.out.mono ?_
    rintro e w2 ⟨rfl, hb2⟩
    have HB2 : Hid (Below w1.heap.size w1 w2) := hb2
    clear hb2
    cases b6
    · go_wp2_with fail
      refine (HWT.out _ HB2.out).mono ?_
      rintro e w3 ⟨rfl, hb3⟩
      have HB3 : Hid (Below w1.heap.size w1 w3) := HB2.out.trans (hb3.mono HB2.out.size)
      clear hb3
      have hfd := field_spot (tg.1 : Int) (tg.2 : Int)
      go_wp2_with fail
      go_ret
      exact ⟨by rw [HV2.out]; rfl, HB3.out⟩
    · go_wp2_with fail
      go_ret
      exact ⟨by rw [HV2.out]; rfl, HB2.out⟩
end Go.Proofs.YthkoionigdnhgabGreatDoor
/-
  The program's meant, local.
-/
namespace Go.Proofs.YthkoionigdnhgabGreatDoor
open Go.RowKit

theorem Tb.drew {w : World} (h : Tb w) : Tb w.drew := h.below (Below.refl _ w).drew
theorem Come.from {b : Nat} {s : ByteArray} {wide : Bool} {w wx w' : World} {X : Except (Nat × Nat) (Value × Nat)} {e : Ending} (hx : But b w wx) (h : Come b s wide wx X e w') : Come b s wide w X e w' := ⟨hx.trans h.1, h.2⟩
end Go.Proofs.YthkoionigdnhgabGreatDoor
/-
  The program's local.
-/
namespace Go.Proofs.YthkoionigdnhgabGreatDoor
open Go.RowKit

theorem But.cell {g : Nat} {w w' : World} (h : But g w w') {p : Addr} (hp : p.block ≠ g) (hl : p.block < w.heap.size) : w'.cell? p = w.cell? p := World.cell?_of_block (h.block p.block hl hp)
end Go.Proofs.YthkoionigdnhgabGreatDoor
/-
  The library's contracts that are asked for here, laid at this program.
-/
namespace Go.Proofs

def Tryz.lays155_ren : Go.Shelf.Ren := ⟨fun | 155 => 159 | 154 => 189 | 138 => 200 | 165 => 162 | 143 => 201 | 166 => 163 | 197 => 131 | 169 => 164 | 195 => 213 | 218 => 214 | 240 => 190 | 241 => 191 | 219 => 215 | 260 => 165 | 276 => 202 | 277 => 203 | 217 => 136 | 225 => 167 | 224 => 85 | 267 => 225 | 266 => 168 | 314 => 229 | n => n, fun | 9 => 9 | 3 => 3 | 4 => 4 | 72 => 215 | 0 => 0 | 76 => 219 | 105 => 181 | 21 => 21 | 5 => 5 | 70 => 213 | 20 => 20 | 37 => 53 | 75 => 218 | 127 => 241 | 164 => 258 | 46 => 137 | 119 => 242 | 139 => 245 | 138 => 244 | 146 => 175 | 51 => 174 | 80 => 110 | n => n, fun | 1 => 0 | 3 => 4 | 4 => 5 | n => n⟩
theorem Tryz.lays155 : Go.Proofs.Lays.n155 Tryz.prog Tryz.lays155_ren := {
  mixed := by kernel_rfl
  f138 := Tryz.func200.trans (congrArg some (by kernel_rfl))
  f143 := Tryz.func201.trans (congrArg some (by kernel_rfl))
  f154 := Tryz.func189.trans (congrArg some (by kernel_rfl))
  f155 := Tryz.func159.trans (congrArg some (by kernel_rfl))
  f165 := Tryz.func162.trans (congrArg some (by kernel_rfl))
  f166 := Tryz.func163.trans (congrArg some (by kernel_rfl))
  f169 := Tryz.func164.trans (congrArg some (by kernel_rfl))
  f195 := Tryz.func213.trans (congrArg some (by kernel_rfl))
  f197 := Tryz.func131.trans (congrArg some (by kernel_rfl))
  f217 := Tryz.func136.trans (congrArg some (by kernel_rfl))
  f218 := Tryz.func214.trans (congrArg some (by kernel_rfl))
  f219 := Tryz.func215.trans (congrArg some (by kernel_rfl))
  f224 := Tryz.func85.trans (congrArg some (by kernel_rfl))
  f225 := Tryz.func167.trans (congrArg some (by kernel_rfl))
  f240 := Tryz.func190.trans (congrArg some (by kernel_rfl))
  f241 := Tryz.func191.trans (congrArg some (by kernel_rfl))
  f260 := Tryz.func165.trans (congrArg some (by kernel_rfl))
  f266 := Tryz.func168.trans (congrArg some (by kernel_rfl))
  f267 := Tryz.func225.trans (congrArg some (by kernel_rfl))
  f276 := Tryz.func202.trans (congrArg some (by kernel_rfl))
  f277 := Tryz.func203.trans (congrArg some (by kernel_rfl))
  f314 := Tryz.func229.trans (congrArg some (by kernel_rfl))
  t0 := Tryz.underlying0
  a0 := Tryz.isAgg0
  z0 := Tryz.sizeOf0
  v0 := Tryz.zeroValue0
  t3 := Tryz.underlying3
  a3 := Tryz.isAgg3
  z3 := Tryz.sizeOf3
  v3 := Tryz.zeroValue3
  t4 := Tryz.underlying4
  a4 := Tryz.isAgg4
  z4 := Tryz.sizeOf4
  v4 := Tryz.zeroValue4
  t5 := Tryz.underlying5
  a5 := Tryz.isAgg5
  z5 := Tryz.sizeOf5
  v5 := Tryz.zeroValue5
  t9 := Tryz.underlying9
  a9 := Tryz.isAgg9
  z9 := Tryz.sizeOf9
  v9 := Tryz.zeroValue9
  t20 := Tryz.underlying20
  a20 := Tryz.isAgg20
  z20 := Tryz.sizeOf20
  v20 := Tryz.zeroValue20
  t21 := Tryz.underlying21
  a21 := Tryz.isAgg21
  z21 := Tryz.sizeOf21
  v21 := Tryz.zeroValue21
  t37 := Tryz.underlying53
  a37 := Tryz.isAgg53
  z37 := Tryz.sizeOf53
  v37 := Tryz.zeroValue53
  t46 := Tryz.underlying137
  a46 := Tryz.isAgg137
  z46 := Tryz.sizeOf137
  v46 := Tryz.zeroValue137
  t51 := Tryz.underlying174
  a51 := Tryz.isAgg174
  z51 := Tryz.sizeOf174
  v51 := Tryz.zeroValue174
  t70 := Tryz.underlying213
  a70 := Tryz.isAgg213
  z70 := Tryz.sizeOf213
  v70 := Tryz.zeroValue213
  t72 := Tryz.underlying215
  a72 := Tryz.isAgg215
  z72 := Tryz.sizeOf215
  v72 := Tryz.zeroValue215
  t75 := Tryz.underlying218
  a75 := Tryz.isAgg218
  z75 := Tryz.sizeOf218
  v75 := Tryz.zeroValue218
  t76 := Tryz.underlying219
  a76 := Tryz.isAgg219
  z76 := Tryz.sizeOf219
  v76 := Tryz.zeroValue219
  t105 := Tryz.underlying181
  a105 := Tryz.isAgg181
  z105 := Tryz.sizeOf181
  v105 := Tryz.zeroValue181
  t119 := Tryz.underlying242
  a119 := Tryz.isAgg242
  z119 := Tryz.sizeOf242
  t127 := Tryz.underlying241
  a127 := Tryz.isAgg241
  z127 := Tryz.sizeOf241
  v127 := Tryz.zeroValue241
  t138 := Tryz.underlying244
  a138 := Tryz.isAgg244
  z138 := Tryz.sizeOf244
  v138 := Tryz.zeroValue244
  t139 := Tryz.underlying245
  a139 := Tryz.isAgg245
  z139 := Tryz.sizeOf245
  v139 := Tryz.zeroValue245
  t146 := Tryz.underlying175
  a146 := Tryz.isAgg175
  z146 := Tryz.sizeOf175
  v146 := Tryz.zeroValue175
  t164 := Tryz.underlying258
  a164 := Tryz.isAgg258
  z164 := Tryz.sizeOf258
  v164 := Tryz.zeroValue258
  g1 := by kernel_rfl
  g3 := by kernel_rfl
  g4 := by kernel_rfl }
theorem Tryz.Builder_Extra_155 : Builder.Extra Tryz.prog Tryz.lays155_ren := {
  sizeBuilder := by kernel_rfl
  liesBuilder := by kernel_rfl
  t5 := Tryz.underlying5
  a5 := Tryz.isAgg5
  z5 := Tryz.sizeOf5
  v5 := Tryz.zeroValue5
  infoByte := by kernel_rfl
  cellsByte := by kernel_rfl
  sizeByte := by kernel_rfl
  neB5 := by decide }
open Go.RowKit Go.Lib in
theorem Tryz.strings_ReplaceAll (s old new : ByteArray) (m : Int) (w : World) (hs : s.size < 4294967281) (hm : w.cell? ⟨0, 0, none⟩ = some (.int .i64 m)) (h1 : 1 ≤ old.size) (hlen : s.size + Lib.countB s old * new.size ≤ 140737488355328) :
    Calls Tryz.prog 159 #[.string s, .string old, .string new] w fun e w' =>
      e = .returned (.string ⟨(Lib.replaceAll s.data.toList old.data.toList new.data.toList).toArray⟩) ∧ Below w.heap.size w w' := Any.strings_ReplaceAll Tryz.lays155 Tryz.Builder_Extra_155 s old new m w hs hm h1 hlen
end Go.Proofs
