/-
  The script that came in: its steps, their bytes, and how many they are.
-/
import Derived.Test.YtedgimkffkflbaaDoorOpen4
import Derived.Lib.SmallJoins
import Derived.Deep.Strs
import Derived.Test.YtedgimkffkflbaaDoorBase
namespace Go.Proofs.YtedgimkffkflbaaDoor
open Go.ChangeShapes Go.WideShapes Go.ChangeAt Go.RowKit

/-- One step of the script. -/
structure Stp where
  who : Int
  act : Int
  ap : Option Addr
  bytes : List UInt8
  cp : Nat
/-- The script. -/
def Steps (a : Option Addr) (st : List Stp) (w : World) : Prop := st = [] ∨ ∃ g o, a = some ⟨g, o, none⟩ ∧ g < w.heap.size ∧ ∀ j, (h : j < st.length) →
  w.cell? ⟨g, o + j * 3, none⟩ = some (.int .i64 st[j].who) ∧ w.cell? ⟨g, o + j * 3 + 1, none⟩ = some (.int .i64 st[j].act) ∧
  w.cell? ⟨g, o + j * 3 + 2, none⟩ = some (.slice st[j].ap st[j].bytes.length st[j].cp) ∧ Bts st[j].ap st[j].bytes w ∧ (st[j].ap = none → st[j].cp = 0)
def tot (st : List Stp) (k : Nat) : Nat := ((st.take k).map fun t => t.bytes.length).sum
theorem tot_next (st : List Stp) (k : Nat) (h : k < st.length) : tot st (k + 1) = tot st k + st[k].bytes.length := by
  unfold tot
  rw [List.take_succ_eq_append_getElem h, List.map_append, List.sum_append]
  simp
theorem tot_le (st : List Stp) (k : Nat) : tot st k ≤ tot st st.length := by
  unfold tot
  rw [List.take_length]
  conv => rhs; rw [← List.take_append_drop k st, List.map_append, List.sum_append]
  omega

theorem cells_at {w : World} {base n : Nat} {a : Addr} {cs : List Value} (h : w.cells? base a n = some cs) (i : Nat) (hi : i < n) : w.cell? (a.add i) = cs[i]? := by
  unfold World.cells? at h
  split at h
  · exact mapM_some_get h i i (by simp [hi])
  · cases h

/-- How many bytes a step's datum holds. -/
def blen {H : Type} : DataW H → Nat
  | .agg [_, _, .slice el _] => el.length
  | _ => 0
theorem blen_le {H : Type} (d : DataW H) : blen d ≤ Rows.uptoBulk d := by
  unfold blen
  split
  · rename_i a b el sp
    have := bulk_len el
    simp only [Rows.uptoBulk, Rows.uptoBulkAll]
    omega
  · exact Nat.zero_le _
theorem blens_le {H : Type} : ∀ l : List (DataW H), (l.map blen).sum ≤ Rows.uptoBulkAll l
  | [] => Nat.zero_le _
  | d :: r => by
    have h1 := blen_le d
    have h2 := blens_le r
    simp only [List.map_cons, List.sum_cons, Rows.uptoBulkAll]
    omega

set_option maxRecDepth 100000 in
theorem open_step {H : Type} {enc : TypeId × Value → H} {W : World} {fuel : Nat} {cs : List Value} {x : DataW H × List MemPlace}
    (h : DataW.trod enc Tryd.prog W 0 (fun _ => true) true fuel 58 cs = some x) :
    ∃ t : Stp, cs = [.int .i64 t.who, .int .i64 t.act, .slice t.ap t.bytes.length t.cp] ∧ Bts t.ap t.bytes W ∧ (t.ap = none → t.cp = 0) ∧ t.bytes.length = blen x.1 := by
  obtain ⟨y0, y1, y3, n, rfl, hl, h0, h1, h3⟩ := Go.Deep.trod_struct3 Tryd.underlying58 h
  have c4 : Tryd.prog.cellsOf 58 = 3 := by kernel_rfl
  have c1 : Tryd.prog.cellsOf 3 = 1 := by kernel_rfl
  have cb : Tryd.prog.cellsOf 27 = 1 := by kernel_rfl
  rw [c4] at hl
  match cs, hl with
  | [k0, k1, k3], _ =>
    simp only [c1, cb, List.drop_zero, List.drop_succ_cons, List.take_succ_cons, List.take_zero] at h0 h1 h3
    obtain ⟨n0, e0, _, _⟩ := DataW.trod_int Tryd.underlying3 h0
    obtain ⟨n1, e1, _, _⟩ := DataW.trod_int Tryd.underlying3 h1
    obtain ⟨a, len, cap, e3⟩ : ∃ a len cap, k3 = .slice a len cap := by
      rcases DataW.trod_slice Tryd.underlying27 h3 with ⟨e, _⟩ | ⟨a, len, cap, _, _, _, _, e, _⟩
      · injection e with e _
        exact ⟨_, _, _, e⟩
      · injection e with e _
        exact ⟨_, _, _, e⟩
    subst e3
    have ht : DataW.Trod enc Tryd.prog W 0 (fun _ => true) true 27 (.slice a len cap) y3.1 y3.2 := ⟨n, h3⟩
    obtain ⟨l, hl, hb, _, hd⟩ := open_bytes ht
    have hn := open_none ht
    injection e0 with e0 _
    injection e1 with e1 _
    refine ⟨⟨n0, n1, a, l, cap⟩, ?_, hb, hn, ?_⟩
    · rw [e0, e1, hl]
    · show l.length = _
      rw [hl]
      rcases hd with ⟨el, sp, e, hel⟩ | ⟨e, h0⟩
      · rw [e]
        exact hel.symm
      · rw [e]
        exact h0

set_option maxRecDepth 100000 in
theorem open_ops {H : Type} {enc : TypeId × Value → H} {W : World} {a : Option Addr} {len cap : Nat} {d : DataW H} {p : List MemPlace}
    (h : DataW.Trod enc Tryd.prog W 0 (fun _ => true) true 46 (.slice a len cap) d p) :
    ∃ st : List Stp, st.length = len ∧ Steps a st W ∧ st.length ≤ Rows.uptoBulk d ∧ tot st st.length ≤ Rows.uptoBulk d := by
  obtain ⟨fuel, hf⟩ := h
  have c4 : Tryd.prog.cellsOf 58 = 3 := by kernel_rfl
  rcases DataW.trod_slice Tryd.underlying46 hf with ⟨e, _⟩ | ⟨ad, l, c, elems, rest, n, _, e, hx, hb, hl, hm, hlen, hel, _⟩
  · simp [Value.cells] at e
    obtain ⟨rfl, rfl, rfl⟩ := e
    exact ⟨[], rfl, .inl rfl, Nat.zero_le _, Nat.zero_le _⟩
  · simp [Value.cells] at e
    obtain ⟨rfl, rfl, rfl⟩ := e
    simp only [Prod.mk.injEq] at hx
    obtain ⟨rfl, _⟩ := hx
    have each : ∀ i : Fin len, ∃ t : Stp, (∀ j, j < 3 → W.cell? ((ad.add (i.val * 3)).add j) = [Value.int .i64 t.who, .int .i64 t.act, .slice t.ap t.bytes.length t.cp][j]?) ∧ Bts t.ap t.bytes W ∧ (t.ap = none → t.cp = 0) ∧ some t.bytes.length = (elems[i.val]?).map (fun y => blen y.1) := fun i => by
      have h1 := hel i.val i.isLt
      rw [c4] at h1
      have hi : i.val < elems.length := by rw [hlen]; exact i.isLt
      rw [List.getElem?_eq_getElem hi, Option.bind_eq_some_iff] at h1
      obtain ⟨cs, hc, ht⟩ := h1
      obtain ⟨t, rfl, h2, h3, h4⟩ := open_step ht
      exact ⟨t, fun j hj => cells_at hc j hj, h2, h3, by rw [List.getElem?_eq_getElem hi, h4]; rfl⟩
    obtain ⟨f, hfs⟩ : ∃ f : Fin len → Stp, ∀ i, (∀ j, j < 3 → W.cell? ((ad.add (i.val * 3)).add j) = [Value.int .i64 (f i).who, .int .i64 (f i).act, .slice (f i).ap (f i).bytes.length (f i).cp][j]?) ∧ Bts (f i).ap (f i).bytes W ∧ ((f i).ap = none → (f i).cp = 0) ∧ some (f i).bytes.length = (elems[i.val]?).map (fun y => blen y.1) := ⟨fun i => (each i).choose, fun i => (each i).choose_spec⟩
    clear each
    refine ⟨List.ofFn f, List.length_ofFn, ?_, ?_, ?_⟩
    · by_cases h0 : len = 0
      · left
        exact List.eq_nil_of_length_eq_zero (by rw [List.length_ofFn]; exact h0)
      · right
        obtain ⟨b, off, spot⟩ := ad
        have hc := (hfs ⟨0, by omega⟩).1 0 (by omega)
        have hspot : spot = none := by simpa [Addr.add] using World.cell?_spot hc
        subst hspot
        have hcell : ∀ (i : Fin len) j, j < 3 → W.cell? ⟨b, off + i.val * 3 + j, none⟩ = [Value.int .i64 (f i).who, .int .i64 (f i).act, .slice (f i).ap (f i).bytes.length (f i).cp][j]? := fun i j hj => by
          have := (hfs i).1 j hj
          rw [Addr.add_lit, Addr.add_lit] at this
          exact this
        refine ⟨b, off, rfl, ?_, fun j hj => ?_⟩
        · exact World.block_lt_of_cell? W _ (hcell ⟨0, by omega⟩ 0 (by omega))
        · have hj' : j < len := by rw [List.length_ofFn] at hj; exact hj
          rw [List.getElem_ofFn]
          have s := hfs ⟨j, hj'⟩
          exact ⟨hcell ⟨j, hj'⟩ 0 (by omega), hcell ⟨j, hj'⟩ 1 (by omega), hcell ⟨j, hj'⟩ 2 (by omega), s.2.1, s.2.2.1⟩
    · rw [List.length_ofFn]
      have := bulk_len (elems.map (·.1))
      rw [List.length_map, hlen] at this
      simp only [Rows.uptoBulk]
      omega
    · have e : ((List.ofFn f).map fun t => t.bytes.length) = (elems.map (·.1)).map blen := by
        apply List.ext_getElem?
        intro j
        rcases Nat.lt_or_ge j len with hj | hj
        · have s := (hfs ⟨j, hj⟩).2.2.2
          have hj2 : j < elems.length := by omega
          rw [List.getElem?_eq_getElem hj2] at s
          simp only [Option.map_some, Option.some.injEq] at s
          rw [List.getElem?_eq_getElem (by rw [List.length_map, List.length_ofFn]; exact hj), List.getElem?_eq_getElem (by rw [List.length_map, List.length_map]; exact hj2)]
          simp only [List.getElem_map, List.getElem_ofFn]
          rw [s]
        · rw [List.getElem?_eq_none (by rw [List.length_map, List.length_ofFn]; exact hj), List.getElem?_eq_none (by rw [List.length_map, List.length_map]; omega)]
      unfold tot
      rw [List.take_length, e]
      have := blens_le (elems.map (·.1))
      simp only [Rows.uptoBulk]
      omega
end Go.Proofs.YtedgimkffkflbaaDoor
/-
  Worlds that have grown, one behind the other.
-/
namespace Go.Proofs.YtedgimkffkflbaaDoor
open Go.RowKit

theorem grown_on {w w1 w2 : World} {row row2 : Option Nat} (h1 : w.grownBy w1 row) (h2 : w1.grownBy w2 row2) (h : ∀ k, row2 = some k → some k = row ∨ w.heap.size ≤ k) : w.grownBy w2 row :=
  ⟨h2.os.trans h1.os, h2.tape.trans h1.tape, h2.output.trans h1.output, Nat.le_trans h1.size h2.size, fun k hk hne => (h2.block k (Nat.lt_of_lt_of_le hk h1.size) (fun e => by
    rcases h k e.symm with h' | h'
    · exact hne h'
    · omega)).trans (h1.block k hk hne)⟩
theorem two_alloc {w w' : World} (a b : Obj) {r : Option Nat} (h : ((w.alloc a).alloc b).grownBy w' r) : w.grownBy w' r :=
  grown_on (grown_on (World.grownBy_alloc w a r) (World.grownBy_alloc _ b r) (fun _ h => .inl h.symm)) h (fun _ h => .inl h.symm)
theorem base_le {w : World} {base base' e size n : Nat} {v : Value} {xs : List Value} (h : w.ownsRow base e size v n xs) (hb : base' ≤ base) : w.ownsRow base' e size v n xs := by
  obtain ⟨h1, h2⟩ := h
  refine ⟨h1, ?_⟩
  rcases h2 with h2 | ⟨g, cap, cur, hv, hg, r⟩
  · exact .inl h2
  · exact .inr ⟨g, cap, cur, hv, by omega, r⟩
theorem bcell {W w1 : World} (hb : Below W.heap.size W w1) : (∀ b o, b < W.heap.size → w1.cell? ⟨b, o, none⟩ = W.cell? ⟨b, o, none⟩) ∧ (∀ b o, b < W.heap.size → w1.frozen? ⟨b, o, none⟩ = W.frozen? ⟨b, o, none⟩) :=
  ⟨fun b o h => hb.cell (p := ⟨b, o, none⟩) h, fun b o h => hb.frozen (p := ⟨b, o, none⟩) h⟩
theorem own_conv {w : World} {base n : Nat} {v : Value} {l : List UInt8} (h : w.ownsRow base 5 1 v n (cellsB l)) : (convert 27 9 v).run Tryd.prog w = .ok (.string ⟨l.toArray⟩) w := by
  obtain ⟨a, cap, rfl, hb, hl, _⟩ := own_bts h
  subst hl
  exact bts_back hb cap
end Go.Proofs.YtedgimkffkflbaaDoor
