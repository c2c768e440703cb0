/-
  Statuses: none, isPart, isStatus, classOf, part.
-/
import Derived.Test.YtbfgefgadplcjaaDoorPl12
import Derived.Test.YtbfgefgadplcjaaDoorBase
import Derived.Test.YtbfgefgadplcjaaDoorNumb
import Derived.Test.YtbfgefgadplcjaaDoorRyP
namespace Go.Proofs.YtbfgefgadplcjaaDoor
open Go.RowKit

/-- A status as a value. -/
def stV (s : Stt) : Value := .agg #[.int .i64 s.1, .int .i64 s.2.1, .int .i64 s.2.2]
theorem ret_row {P : Program} {fn : Func} {p : Tmp} {ty : TypeId} (h : fn.results = #[.cell p ty]) {R : Ending → World → Prop} {tmps : Array Value} {w : World} (g : Nat) (t : TypeId) (cs : Array Value) (d : TypeDesc)
    (hp : tmps.getD p undef = .pointer (some ⟨g, 0, none⟩)) (hg : Lies w g cs t) (hu : P.underlying ty = some d) (hd : (match d with | .struct _ | .array _ _ => true | _ => false) = true) (hi : (P.info? ty).map (·.size) = some cs.size)
    (hR : R (.returned (.agg cs)) w) : bodyPost P fn R .ret { tmps := tmps, defers := [] } w :=
  bodyPost_ret (results_cell_row h tmps w g t cs (0, 0) d hp hg hu hd hi) rfl hR
theorem infoST : (Tryd.prog.info? 48).map (·.size) = some 3 := by kernel_rfl
set_option maxHeartbeats 400000 in
theorem none_any (w : World) : Calls Tryd.prog 37 #[] w fun e w' => e = .returned (stV (0, 0, 0)) ∧ Below w.heap.size w w' := by
  unfold stV
  go_enter Tryd.func37, Tryd.ntmps37
  go_wp2
  exact ret_row rfl w.heap.size 48 #[.int .i64 0, .int .i64 0, .int .i64 0] _ rfl (Lies.new w _ _) Tryd.underlying48 rfl infoST ⟨rfl, (Below.refl _ _).alloc (Nat.le_refl _) _⟩
def ptB (n : Int) : Bool := decide (0 ≤ n) && decide (n ≤ 999)
set_option maxHeartbeats 400000 in
theorem ispart_any (n : Int) (w : World) : Calls Tryd.prog 70 #[.int .i64 n] w fun e w' => e = .returned (.bool (ptB n)) ∧ w' = w := by
  unfold ptB
  go_enter Tryd.func70, Tryd.ntmps70
  go_wp2
  all_goals go_ret
  all_goals exact ⟨ret_bool (by rw [eq_comm]; simp; omega), rfl⟩
set_option maxHeartbeats 400000 in
theorem class_any (n : Int) (h : 0 ≤ n) (h2 : n ≤ 9223372036854775807) (w : World) : Calls Tryd.prog 51 #[.int .i64 n] w fun e w' => e = .returned (.int .i64 (n / 100)) ∧ w' = w := by
  go_enter Tryd.func51, Tryd.ntmps51
  go_wp2
  go_ret
  exact ⟨rfl, rfl⟩
set_option maxHeartbeats 1000000 in
theorem isst_any (s : Stt) (w : World) : Calls Tryd.prog 50 #[stV s] w fun e w' => e = .returned (.bool (isSt s)) ∧ Below w.heap.size w w' := by
  have HI : Hid (∀ n w, Calls Tryd.prog 70 #[.int .i64 n] w fun e w' => e = .returned (.bool (ptB n)) ∧ w' = w) := ispart_any
  have e1 : isSt s = ((s.1 == 2 || s.1 == 4 || s.1 == 5) && ptB s.2.1 && ptB s.2.2) := rfl
  rw [e1]
  clear e1
  unfold stV
  generalize s.1 = a at *
  generalize s.2.1 = b at *
  generalize s.2.2 = c at *
  go_enter Tryd.func50, Tryd.ntmps50
  go_wp2_with (go_at_call 70; refine (HI.out _ _).mono ?_; rintro e wd ⟨rfl, rfl⟩)
  all_goals go_ret
  all_goals exact ⟨ret_bool (by simp_all), (Below.refl _ _).alloc (Nat.le_refl _) _⟩
theorem prt_lo (l : List UInt8) : 0 ≤ prt l ∧ prt l ≤ 999 := by
  unfold prt numVal
  split
  · split
    · omega
    · omega
  · omega
set_option maxHeartbeats 1000000 in
theorem part_any (s : ByteArray) (w : World) (ht : Table w) (hs : s.size ≤ 140737488355328) : Calls Tryd.prog 73 #[.string s] w fun e w' => e = .returned (.int .i64 (prt s.data.toList)) ∧ w' = w := by
  have HN := number_any s 999 w ht (by unfold maxLen; omega) (by decide) (by decide)
  have h1 := prt_lo s.data.toList
  have e1 : numVal s.data.toList 999 = prt s.data.toList := rfl
  rw [e1] at HN
  obtain ⟨h1, h2⟩ := h1
  clear e1 ht
  generalize prt s.data.toList = n at *
  generalize numCode s.data.toList 999 = m at *
  go_enter Tryd.func73, Tryd.ntmps73
  go_wp2_with (go_at_call 63; refine HN.mono ?_; clear HN; rintro e wd ⟨rfl, rfl⟩)
  go_ret
  exact ⟨rfl, rfl⟩
end Go.Proofs.YtbfgefgadplcjaaDoor
/-
  Small laws on bytes, texts and lists.
-/
namespace Go.Proofs.YtbfgefgadplcjaaDoor
open Go.RowKit

theorem pad_eq (c : UInt8) : ((c.toNat : Int) == 61) = decide (c = 61) := by
  rw [Bool.eq_iff_iff]
  simp only [beq_iff_eq, decide_eq_true_eq]
  constructor
  · intro h
    exact UInt8.toNat_inj.1 (by simpa using (by omega : c.toNat = 61))
  · intro h
    rw [h]
    rfl
theorem pad_ne (c : UInt8) : ((c.toNat : Int) != 61) = !decide (c = 61) := by
  rw [bne, pad_eq]

theorem ext_list (s : ByteArray) (a b : Nat) : (s.extract a b).data.toList = (s.data.toList.take b).drop a := by
  simp [ByteArray.data_extract, List.drop_take]
theorem len_list (s : ByteArray) : s.data.toList.length = s.size := by rw [Array.length_toList]; rfl
theorem at_list (s : ByteArray) (k : Nat) (h : k < s.size) : s.data.toList[k]'(by rw [len_list]; exact h) = s[k] := rfl

/-- Three bytes that have just been laid. -/
theorem three_bts (w : World) (t : TypeId) (x y z : Int) (a b c : UInt8) (hx : x = (a.toNat : Int)) (hy : y = (b.toNat : Int)) (hz : z = (c.toNat : Int)) (n : Nat) :
    Bts (some ⟨w.heap.size, 0, none⟩) ([a, b, c].take n) (w.alloc (.cells #[.int .u8 x, .int .u8 y, .int .u8 z] t)) := by
  subst hx hy hz
  refine Bts.take (.inr ⟨w.heap.size, 0, rfl, by simp, fun j hj => ?_⟩) n
  have h3 : j < 3 := hj
  match j, h3 with
  | 0, _ => simp
  | 1, _ => simp
  | 2, _ => simp

theorem take4 (l : List UInt8) (k : Nat) (h : k + 3 < l.length) : l.take (k + 4) = l.take k ++ [l[k], l[k + 1], l[k + 2], l[k + 3]] := by
  have e3 := List.take_succ_eq_append_getElem (l := l) (i := k + 3) (by omega)
  have e2 := List.take_succ_eq_append_getElem (l := l) (i := k + 2) (by omega)
  have e1 := List.take_succ_eq_append_getElem (l := l) (i := k + 1) (by omega)
  have e0 := List.take_succ_eq_append_getElem (l := l) (i := k) (by omega)
  rw [show l.take (k + 4) = _ from e3, show l.take (k + 3) = _ from e2, show l.take (k + 2) = _ from e1, e0]
  simp only [List.append_assoc, List.cons_append, List.nil_append]
theorem own_nil (w : World) (B : Nat) : w.ownsRow B 5 1 (.slice none 0 0) ([] : List UInt8).length (cellsB []) := ⟨rfl, .inl ⟨rfl, rfl⟩⟩

end Go.Proofs.YtbfgefgadplcjaaDoor
/-
  Texts as lists of bytes.
-/
namespace Go.Proofs.YtbfgefgadplcjaaDoor
open Go.RowKit

def tx (l : List UInt8) : ByteArray := ⟨l.toArray⟩
theorem tx_size (l : List UInt8) : (tx l).size = l.length := List.size_toArray ..
theorem tx_cat (x y : List UInt8) : tx x ++ tx y = tx (x ++ y) := by
  apply ByteArray.ext
  rw [ByteArray.data_append]
  simp [tx]
theorem tx_back (s : ByteArray) : tx s.data.toList = s := by
  simp [tx]
theorem tx_list (l : List UInt8) : (tx l).data.toList = l := by simp [tx]
theorem tx_ext (s : ByteArray) (a b : Nat) : s.extract a b = tx ((s.data.toList.take b).drop a) := by rw [← ext_list, tx_back]
theorem tx_inj {x y : List UInt8} (h : tx x = tx y) : x = y := by have := congrArg (fun s => s.data.toList) h; simpa [tx] using this
theorem below_drN (w : World) (n : Nat) : Below w.heap.size w (w.drewN n) := ⟨rfl, rfl, rfl, Nat.le_refl _, fun _ _ => rfl⟩
theorem below_dN {B : Nat} {a w : World} (h : Below B a w) (n : Nat) : Below B a (w.drewN n) := ⟨h.os, h.tape, h.output, h.size, h.block⟩
end Go.Proofs.YtbfgefgadplcjaaDoor
/-
  A reply as a ring holds it: the code, the status, where its lines lie.
-/
namespace Go.Proofs.YtbfgefgadplcjaaDoor

structure Rx where
  c : Int
  s : Stt
  a : Option Addr
  n : Nat
  k : Nat
def Rx.nil : Rx := ⟨0, (0, 0, 0), none, 0, 0⟩
end Go.Proofs.YtbfgefgadplcjaaDoor
/-
  Worlds that have grown, one behind the other.
-/
namespace Go.Proofs.YtbfgefgadplcjaaDoor
open Go.RowKit

theorem grown_on {w w1 w2 : World} {row row2 : Option Nat} (h1 : w.grownBy w1 row) (h2 : w1.grownBy w2 row2) (h : ∀ k, row2 = some k → some k = row ∨ w.heap.size ≤ k) : w.grownBy w2 row :=
  ⟨h2.os.trans h1.os, h2.tape.trans h1.tape, h2.output.trans h1.output, Nat.le_trans h1.size h2.size, fun k hk hne => (h2.block k (Nat.lt_of_lt_of_le hk h1.size) (fun e => by
    rcases h k e.symm with h' | h'
    · exact hne h'
    · omega)).trans (h1.block k hk hne)⟩
theorem two_alloc {w w' : World} (a b : Obj) {r : Option Nat} (h : ((w.alloc a).alloc b).grownBy w' r) : w.grownBy w' r :=
  grown_on (grown_on (World.grownBy_alloc w a r) (World.grownBy_alloc _ b r) (fun _ h => .inl h.symm)) h (fun _ h => .inl h.symm)
theorem base_le {w : World} {base base' e size n : Nat} {v : Value} {xs : List Value} (h : w.ownsRow base e size v n xs) (hb : base' ≤ base) : w.ownsRow base' e size v n xs := by
  obtain ⟨h1, h2⟩ := h
  refine ⟨h1, ?_⟩
  rcases h2 with h2 | ⟨g, cap, cur, hv, hg, r⟩
  · exact .inl h2
  · exact .inr ⟨g, cap, cur, hv, by omega, r⟩
theorem bcell {W w1 : World} (hb : Below W.heap.size W w1) : (∀ b o, b < W.heap.size → w1.cell? ⟨b, o, none⟩ = W.cell? ⟨b, o, none⟩) ∧ (∀ b o, b < W.heap.size → w1.frozen? ⟨b, o, none⟩ = W.frozen? ⟨b, o, none⟩) :=
  ⟨fun b o h => hb.cell (p := ⟨b, o, none⟩) h, fun b o h => hb.frozen (p := ⟨b, o, none⟩) h⟩
theorem own_conv {w : World} {base n : Nat} {v : Value} {l : List UInt8} (h : w.ownsRow base 5 1 v n (cellsB l)) : (convert 31 9 v).run Tryd.prog w = .ok (.string ⟨l.toArray⟩) w := by
  obtain ⟨a, cap, rfl, hb, hl, _⟩ := own_bts h
  subst hl
  exact bts_back hb cap
end Go.Proofs.YtbfgefgadplcjaaDoor
