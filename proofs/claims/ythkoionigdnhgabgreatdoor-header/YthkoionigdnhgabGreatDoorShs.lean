/-
  Rows laid behind each other as a header: how many are of the name Received.
-/
import Derived.Test.YthkoionigdnhgabGreatDoorHp18
import Derived.Shelf.Strings.Builder1
import Derived.Shelf.Strings.Builder2
import Derived.Shelf.Strings.OnBuilder
import Derived.Shelf.Small.Utf8
import Derived.Shelf.Small.Strs
import Derived.Shelf.Strconv.Itoa0
import Derived.Shelf.Strconv.Itoa1
import Derived.Shelf.LaysM
import Derived.Shelf.Strconv.Itoa2
import Derived.Shelf.Strconv.Itoa3
import Derived.Shelf.Strings.Search1
import Derived.Shelf.Strings.Search2
import Derived.Shelf.Strings.Search3
import Derived.Shelf.Strings.Count
import Derived.Shelf.Strings.Shaped
import Derived.Shelf.Strings.Prefix
import Derived.Shelf.Strings.Split
import Derived.Shelf.Strings.Replace
import Derived.Shelf.Strings.Runes
import Derived.Shelf.Strings.RuneCount
import Derived.Shelf.Strings.IndexAny
import Derived.Shelf.Strings.AsciiSet
import Derived.Shelf.Strings.IndexAnyAll
import Derived.Shelf.Unicode.DecodeSlow
import Derived.Shelf.Unicode.DecodeAny
import Derived.Shelf.Bytes.SlIndexSmall
import Derived.Shelf.Bytes.SlIndexAt
import Derived.Shelf.Bytes.SlSearch0
import Derived.Shelf.Bytes.SlSearch1
import Derived.Shelf.Bytes.SlSearch2
import Derived.Shelf.Bytes.SlIndexWhole
import Derived.Ground.SlbtProg
import Derived.Shelf.Bytes.SlCut
import Derived.Shelf.Bytes.Small
import Derived.Shelf.Bytes.IndexByte
import Derived.Test.YthkoionigdnhgabGreatDoorProg
namespace Go.Proofs.YthkoionigdnhgabGreatDoor

theorem noCR_noCL {l : List UInt8} (h : ∀ c ∈ l, c ≠ 13) : noCL (l ++ [13]) := by
  intro i a b
  have hb := (List.getElem?_eq_some_iff.1 b).1
  rw [List.length_append, List.length_singleton] at hb
  rw [List.getElem?_append_left (by omega)] at a
  exact h 13 (List.mem_of_getElem? a) rfl
theorem hops_row {l r : List UInt8} (h : ∀ c ∈ l, c ≠ 13) (h0 : l ≠ []) : hopsH (l ++ 13 :: 10 :: r) = (if rcvH l = true then 1 else 0) + hopsH r := by
  unfold hopsH
  rw [hops_cut rcvH (noCR_noCL h), if_neg h0]
theorem hops_end (r : List UInt8) : hopsH (13 :: 10 :: r) = 0 := by
  unfold hopsH
  have := hops_cut rcvH (l := []) (r := r) (noCR_noCL (by simp))
  rw [if_pos rfl] at this
  exact this
/-- A row that the statement makes of a text. -/
def rwX (s : List UInt8) : List UInt8 := (s.take 1024).filter fun c => c != 13 && c != 10
def hereL : List UInt8 := [82, 101, 99, 101, 105, 118, 101, 100, 58, 32, 104, 101, 114, 101]
def rowX (s : List UInt8) : List UInt8 := if rwX s = [] then hereL else 88 :: rwX s
def msgX (L : List (List UInt8)) : List UInt8 := L.flatMap fun s => rowX s ++ [13, 10]
def cntX (L : List (List UInt8)) : Nat := L.countP fun s => decide (rwX s = [])
theorem rwX_no (s : List UInt8) : ∀ c ∈ rwX s, c ≠ 13 := by
  intro c hc
  unfold rwX at hc
  have := (List.mem_filter.1 hc).2
  simp at this
  exact this.1
theorem rowX_no (s : List UInt8) : ∀ c ∈ rowX s, c ≠ 13 := by
  intro c hc
  unfold rowX at hc
  split at hc
  · have : ∀ c ∈ hereL, c ≠ 13 := by decide
    exact this c hc
  · rcases List.mem_cons.1 hc with rfl | h
    · decide
    · exact rwX_no s c h
theorem rowX_ne (s : List UInt8) : rowX s ≠ [] := by
  unfold rowX
  split
  · decide
  · simp
theorem rcv_here : rcvH hereL = true := by decide +kernel
theorem rcv_X (r : List UInt8) : rcvH (88 :: r) = false := by
  unfold rcvH
  have : sameB (hS ((88 :: r).take 8)) nmRcv = false := by
    unfold sameB
    rw [beq_eq_false_iff_ne]
    intro e
    rw [ByteArray.toList_eq, ByteArray.toList_eq] at e
    have e2 := congrArg (fun l : List UInt8 => l.head?) e
    have h1 : (upS (hS ((88 :: r).take 8))).data.toList = upL ((88 :: r).take 8) := rfl
    have h2 : (upS nmRcv).data.toList = [82, 69, 67, 69, 73, 86, 69, 68] := by decide +kernel
    rw [h1, h2] at e2
    simp [upL] at e2
    exact absurd e2 (by decide)
  rw [this]
  simp
theorem rcv_row (s : List UInt8) : rcvH (rowX s) = decide (rwX s = []) := by
  unfold rowX
  by_cases h : rwX s = []
  · rw [if_pos h, rcv_here]; simp [h]
  · rw [if_neg h, rcv_X]; simp [h]
theorem hops_msg : ∀ (L : List (List UInt8)) (t : List UInt8), hopsH (msgX L ++ t) = cntX L + hopsH t
  | [], t => by simp [msgX, cntX]
  | s :: L, t => by
    have e : msgX (s :: L) ++ t = rowX s ++ 13 :: 10 :: (msgX L ++ t) := by simp [msgX]
    rw [e, hops_row (rowX_no s) (rowX_ne s), hops_msg L t, rcv_row]
    unfold cntX
    rw [List.countP_cons]
    omega
theorem hops_nilH : hopsH [] = 0 := hops_nil rcvH rcv_nil
theorem hops_alone (L : List (List UInt8)) : hopsH (msgX L) = cntX L := by
  have := hops_msg L []
  rw [List.append_nil, hops_nilH] at this
  omega
theorem hops_more (L : List (List UInt8)) (r : List UInt8) : hopsH (msgX L ++ [13, 10] ++ r) = cntX L := by
  have := hops_msg L (13 :: 10 :: r)
  rw [hops_end] at this
  rw [show msgX L ++ [13, 10] ++ r = msgX L ++ 13 :: 10 :: r by simp]
  omega
theorem rwX_len (s : List UInt8) : (rwX s).length ≤ 1024 := by
  unfold rwX
  have := List.length_filter_le (fun c => c != 13 && c != 10) (s.take 1024)
  have h2 : (s.take 1024).length ≤ 1024 := by rw [List.length_take]; omega
  omega
theorem rowX_len (s : List UInt8) : (rowX s).length ≤ 1025 := by
  have := rwX_len s
  unfold rowX
  split
  · decide
  · simp; omega
theorem msgX_len : ∀ L : List (List UInt8), (msgX L).length ≤ 1027 * L.length
  | [] => by simp [msgX]
  | s :: L => by
    have h1 := msgX_len L
    have h2 := rowX_len s
    have e : msgX (s :: L) = rowX s ++ [13, 10] ++ msgX L := by simp [msgX]
    rw [e]
    simp only [List.length_append, List.length_cons, List.length_nil]
    omega
theorem msgX_next (L : List (List UInt8)) (k : Nat) (h : k < L.length) : msgX (L.take (k + 1)) = msgX (L.take k) ++ rowX L[k] ++ [13, 10] := by
  unfold msgX
  rw [← List.take_append_getElem h, List.flatMap_append]
  simp only [List.flatMap_cons, List.flatMap_nil, List.append_nil, List.append_assoc]
theorem cntX_next (L : List (List UInt8)) (k : Nat) (h : k < L.length) : cntX (L.take (k + 1)) = cntX (L.take k) + if rwX L[k] = [] then 1 else 0 := by
  rw [← List.take_append_getElem h]
  unfold cntX
  rw [List.countP_append, List.countP_cons, List.countP_nil]
  by_cases e : rwX L[k] = []
  · simp [e]
  · simp [e]
theorem cntX_le (L : List (List UInt8)) : cntX L ≤ L.length := List.countP_le_length
/-- The inner loop: one byte more. -/
theorem rwX_at (s : List UInt8) (k : Nat) (h1 : k < s.length) : (s.take (k + 1)).filter (fun c => c != 13 && c != 10) = (s.take k).filter (fun c => c != 13 && c != 10) ++ if s[k] != 13 && s[k] != 10 then [s[k]] else [] := by
  rw [← List.take_append_getElem h1, List.filter_append]
  congr 1
  by_cases e : (s[k] != 13 && s[k] != 10) = true
  · simp [e]
  · simp [e]
theorem rwX_done (s : List UInt8) (k : Nat) (h : s.length ≤ k ∨ k = 1024) (hk : k ≤ 1024) : (s.take k).filter (fun c => c != 13 && c != 10) = rwX s := by
  unfold rwX
  rcases h with h | rfl
  · rw [List.take_of_length_le h, List.take_of_length_le (by omega)]
  · rfl
end Go.Proofs.YthkoionigdnhgabGreatDoor
/-
  The library's contracts that are asked for here, laid at this program.
-/
namespace Go.Proofs

def Tryz.lays156_ren : Go.Shelf.Ren := ⟨fun | 156 => 129 | 165 => 162 | 166 => 163 | 169 => 164 | 240 => 190 | 241 => 191 | 276 => 202 | 277 => 203 | n => n, fun | 31 => 59 | 9 => 9 | 3 => 3 | 4 => 4 | 0 => 0 | 20 => 20 | 72 => 215 | 76 => 219 | 70 => 213 | 37 => 53 | 75 => 218 | 127 => 241 | 164 => 258 | 5 => 5 | 80 => 110 | n => n, fun | n => n⟩
theorem Tryz.lays156 : Go.Proofs.Lays.n156 Tryz.prog Tryz.lays156_ren := {
  mixed := by kernel_rfl
  f156 := Tryz.func129.trans (congrArg some (by kernel_rfl))
  f165 := Tryz.func162.trans (congrArg some (by kernel_rfl))
  f166 := Tryz.func163.trans (congrArg some (by kernel_rfl))
  f169 := Tryz.func164.trans (congrArg some (by kernel_rfl))
  f240 := Tryz.func190.trans (congrArg some (by kernel_rfl))
  f241 := Tryz.func191.trans (congrArg some (by kernel_rfl))
  f276 := Tryz.func202.trans (congrArg some (by kernel_rfl))
  f277 := Tryz.func203.trans (congrArg some (by kernel_rfl))
  t0 := Tryz.underlying0
  a0 := Tryz.isAgg0
  z0 := Tryz.sizeOf0
  v0 := Tryz.zeroValue0
  t3 := Tryz.underlying3
  a3 := Tryz.isAgg3
  z3 := Tryz.sizeOf3
  v3 := Tryz.zeroValue3
  t4 := Tryz.underlying4
  a4 := Tryz.isAgg4
  z4 := Tryz.sizeOf4
  v4 := Tryz.zeroValue4
  t9 := Tryz.underlying9
  a9 := Tryz.isAgg9
  z9 := Tryz.sizeOf9
  v9 := Tryz.zeroValue9
  t20 := Tryz.underlying20
  a20 := Tryz.isAgg20
  z20 := Tryz.sizeOf20
  v20 := Tryz.zeroValue20
  t31 := Tryz.underlying59
  a31 := Tryz.isAgg59
  z31 := Tryz.sizeOf59
  v31 := Tryz.zeroValue59
  t37 := Tryz.underlying53
  a37 := Tryz.isAgg53
  z37 := Tryz.sizeOf53
  v37 := Tryz.zeroValue53
  t70 := Tryz.underlying213
  a70 := Tryz.isAgg213
  z70 := Tryz.sizeOf213
  v70 := Tryz.zeroValue213
  t72 := Tryz.underlying215
  a72 := Tryz.isAgg215
  z72 := Tryz.sizeOf215
  v72 := Tryz.zeroValue215
  t75 := Tryz.underlying218
  a75 := Tryz.isAgg218
  z75 := Tryz.sizeOf218
  v75 := Tryz.zeroValue218
  t76 := Tryz.underlying219
  a76 := Tryz.isAgg219
  z76 := Tryz.sizeOf219
  v76 := Tryz.zeroValue219
  t127 := Tryz.underlying241
  a127 := Tryz.isAgg241
  z127 := Tryz.sizeOf241
  v127 := Tryz.zeroValue241
  t164 := Tryz.underlying258
  a164 := Tryz.isAgg258
  z164 := Tryz.sizeOf258
  v164 := Tryz.zeroValue258 }
theorem Tryz.Builder_Extra_156 : Builder.Extra Tryz.prog Tryz.lays156_ren := {
  sizeBuilder := by kernel_rfl
  liesBuilder := by kernel_rfl
  t5 := Tryz.underlying5
  a5 := Tryz.isAgg5
  z5 := Tryz.sizeOf5
  v5 := Tryz.zeroValue5
  infoByte := by kernel_rfl
  cellsByte := by kernel_rfl
  sizeByte := by kernel_rfl
  neB5 := by decide }
open Go.RowKit in
theorem Tryz.strings_Join_none (a : Option Addr) (c : Nat) (sep : ByteArray) (w : World) :
    Calls Tryz.prog 129 #[.slice a 0 c, .string sep] w fun e w' => e = .returned (.string ⟨#[]⟩) ∧ w' = w := Any.strings_Join_none Tryz.lays156 Tryz.Builder_Extra_156 a c sep w
open Go.RowKit in
theorem Tryz.strings_Join (bk o c : Nat) (xs : List ByteArray) (sep : ByteArray) (w : World) (hcells : ∀ (j : Nat) x, xs[j]? = some x → w.cell? ⟨bk, o + j, none⟩ = some (.string x)) (hbk : bk < w.heap.size) (hN : xs.length ≤ 140737488355328) (hcap : xs.length ≤ c) (hlen : (Lib.join (xs.map (·.data.toList)) sep.data.toList).length ≤ 140737488355328) :
    Calls Tryz.prog 129 #[.slice (some ⟨bk, o, none⟩) xs.length c, .string sep] w fun e w' => e = .returned (.string ⟨(Lib.join (xs.map (·.data.toList)) sep.data.toList).toArray⟩) ∧ Below w.heap.size w w' := Any.strings_Join Tryz.lays156 Tryz.Builder_Extra_156 bk o c xs sep w hcells hbk hN hcap hlen
def Tryz.lays137_ren : Go.Shelf.Ren := ⟨fun | 137 => 98 | 217 => 136 | 266 => 168 | n => n, fun | 9 => 9 | 5 => 5 | 3 => 3 | n => n, fun | n => n⟩
theorem Tryz.lays137 : Go.Proofs.Lays.n137 Tryz.prog Tryz.lays137_ren := {
  mixed := by kernel_rfl
  f137 := Tryz.func98.trans (congrArg some (by kernel_rfl))
  f217 := Tryz.func136.trans (congrArg some (by kernel_rfl))
  f266 := Tryz.func168.trans (congrArg some (by kernel_rfl))
  t3 := Tryz.underlying3
  a3 := Tryz.isAgg3
  z3 := Tryz.sizeOf3
  v3 := Tryz.zeroValue3
  t5 := Tryz.underlying5
  a5 := Tryz.isAgg5
  z5 := Tryz.sizeOf5
  v5 := Tryz.zeroValue5
  t9 := Tryz.underlying9
  a9 := Tryz.isAgg9
  z9 := Tryz.sizeOf9
  v9 := Tryz.zeroValue9 }
open Go.RowKit in
theorem Tryz.strings_IndexByte (s : ByteArray) (c : Int) (w : World) :
    Calls Tryz.prog 98 #[.string s, .int .u8 c] w fun e w' => e = .returned (.int .i64 (Lib.indexByte s.data.toList c.toNat.toUInt8)) ∧ w' = w := Any.strings_IndexByte Tryz.lays137 s c w
end Go.Proofs
