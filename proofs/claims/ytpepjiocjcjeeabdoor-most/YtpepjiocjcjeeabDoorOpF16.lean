/-
  Fields that came in: how they lie, and how great they are.
-/
import Derived.Test.YtpepjiocjcjeeabDoorFe16
import Derived.ProofKit
import Derived.ChangeMaps5
import Derived.OpenShut
import Derived.SizedLaws
import Derived.Lib.SmallJoins
import Derived.Deep.Strs
namespace Go.Proofs.YtpepjiocjcjeeabDoor
open Go.ChangeShapes Go.WideShapes Go.ChangeAt Go.RowKit

theorem cellsF_at10 {w : World} {base n : Nat} {a : Addr} {cs : List Value} (h : w.cells? base a n = some cs) (i : Nat) (hi : i < n) : w.cell? (a.add i) = cs[i]? := by
  unfold World.cells? at h
  split at h
  · exact mapM_some_get h i i (by simp [hi])
  · cases h
/-- A field's datum. -/
def dtF {H : Type} (t : Fd) : DataW H := .agg [.lit (.string t.name), .lit (.string t.body)]
theorem cells9 : Tryd.prog.cellsOf 9 = 1 := by kernel_rfl
set_option maxRecDepth 100000 in
theorem open_fd {H : Type} {enc : TypeId × Value → H} {W : World} {fuel : Nat} {cs : List Value} {x : DataW H × List MemPlace}
    (h : DataW.trod enc Tryd.prog W 0 (fun _ => true) true fuel 32 cs = some x) :
    ∃ t : Fd, cs = [.string (tx t.name), .string (tx t.body)] ∧ x.1 = dtF t := by
  obtain ⟨ys, n, _, hx, hl, hyl, hfd⟩ := DataW.trod_struct Tryd.underlying32 h
  have c2 : Tryd.prog.cellsOf 32 = 2 := by kernel_rfl
  rw [c2] at hl
  have hy2 : ys.length = 2 := hyl
  obtain ⟨y0, y1, rfl⟩ : ∃ a b, ys = [a, b] := by
    match ys, hy2 with
    | [a, b], _ => exact ⟨a, b, rfl⟩
  have g0 : _ = some y0 := hfd 0 _ rfl
  have g1 : _ = some y1 := hfd 1 _ rfl
  match cs, hl with
  | [k0, k1], _ =>
    obtain ⟨s0, e0, d0, _⟩ := DataW.trod_string Tryd.underlying9 g0
    obtain ⟨s1, e1, d1, _⟩ := DataW.trod_string Tryd.underlying9 g1
    have r0 : k0 = .string s0 := by
      have := congrArg (fun l => l[0]?) e0
      simpa [cells9] using this
    have r1 : k1 = .string s1 := by
      have := congrArg (fun l => l[0]?) e1
      simpa [cells9] using this
    refine ⟨⟨s0.data.toList, s1.data.toList⟩, ?_, ?_⟩
    · rw [r0, r1, tx_back, tx_back]
    · have q0 : y0.1 = .lit (.string s0.data.toList) := congrArg Prod.fst d0
      have q1 : y1.1 = .lit (.string s1.data.toList) := congrArg Prod.fst d1
      have hd : x.1 = .agg [y0.1, y1.1] := congrArg Prod.fst hx
      rw [hd, q0, q1]
      rfl
set_option maxRecDepth 100000 in
theorem open_fds {H : Type} {enc : TypeId × Value → H} {W : World} {a : Option Addr} {len cap : Nat} {d : DataW H} {p : List MemPlace}
    (h : DataW.Trod enc Tryd.prog W 0 (fun _ => true) true 24 (.slice a len cap) d p) :
    ∃ st : List Fd, st.length = len ∧ Fds a st W ∧ (a = none → cap = 0) ∧ ((st = [] ∧ d = .nil) ∨ ∃ sp, d = .slice (st.map dtF) sp) := by
  obtain ⟨fuel, hf⟩ := h
  have c4 : Tryd.prog.cellsOf 32 = 2 := by kernel_rfl
  rcases DataW.trod_slice Tryd.underlying24 hf with ⟨e, hx⟩ | ⟨ad, l, c, elems, rest, n, _, e, hx, hb, hl, hm, hlen, hel, _⟩
  · simp [Value.cells] at e
    obtain ⟨rfl, rfl, rfl⟩ := e
    exact ⟨[], rfl, .inl rfl, fun _ => rfl, .inl ⟨rfl, congrArg Prod.fst hx⟩⟩
  · simp [Value.cells] at e
    obtain ⟨rfl, rfl, rfl⟩ := e
    simp only [Prod.mk.injEq] at hx
    obtain ⟨rfl, _⟩ := hx
    have each : ∀ i : Fin len, ∃ t : Fd, (∀ j, j < 2 → W.cell? ((ad.add (i.val * 2)).add j) = [Value.string (tx t.name), .string (tx t.body)][j]?) ∧ some (dtF t) = (elems[i.val]?).map (fun y => y.1) := fun i => by
      have h1 := hel i.val i.isLt
      rw [c4] at h1
      have hi : i.val < elems.length := by rw [hlen]; exact i.isLt
      rw [List.getElem?_eq_getElem hi, Option.bind_eq_some_iff] at h1
      obtain ⟨cs, hc, ht⟩ := h1
      obtain ⟨t, rfl, h4⟩ := open_fd ht
      exact ⟨t, fun j hj => cellsF_at10 hc j hj, by rw [List.getElem?_eq_getElem hi, ← h4]; rfl⟩
    obtain ⟨f, hfs⟩ : ∃ f : Fin len → Fd, ∀ i, (∀ j, j < 2 → W.cell? ((ad.add (i.val * 2)).add j) = [Value.string (tx (f i).name), .string (tx (f i).body)][j]?) ∧ some (dtF (f i)) = (elems[i.val]?).map (fun y => y.1) := ⟨fun i => (each i).choose, fun i => (each i).choose_spec⟩
    clear each
    refine ⟨List.ofFn f, List.length_ofFn, ?_, (fun e => by cases e), .inr ⟨rest.map (·.1), ?_⟩⟩
    · by_cases h0 : len = 0
      · left
        exact List.eq_nil_of_length_eq_zero (by rw [List.length_ofFn]; exact h0)
      · right
        obtain ⟨b, off, spot⟩ := ad
        have hc := (hfs ⟨0, by omega⟩).1 0 (by omega)
        have hspot : spot = none := by simpa [Addr.add] using World.cell?_spot hc
        subst hspot
        have hcell : ∀ (i : Fin len) j, j < 2 → W.cell? ⟨b, off + i.val * 2 + j, none⟩ = [Value.string (tx (f i).name), .string (tx (f i).body)][j]? := fun i j hj => by
          have := (hfs i).1 j hj
          rw [Addr.add_lit, Addr.add_lit] at this
          exact this
        refine ⟨b, off, rfl, World.block_lt_of_cell? W _ (hcell ⟨0, by omega⟩ 0 (by omega)), fun j u hj => ?_⟩
        have hjl : j < (cellsF (List.ofFn f)).length := by
          rcases Nat.lt_or_ge j (cellsF (List.ofFn f)).length with h' | h'
          · exact h'
          · rw [List.getElem?_eq_none h'] at hj; cases hj
        rw [cellsF_length, List.length_ofFn] at hjl
        have hi : j / 2 < len := by omega
        obtain ⟨q0, q1⟩ := cellsF_at (List.ofFn f) (j / 2) (by rw [List.length_ofFn]; exact hi)
        rw [List.getElem_ofFn] at q0 q1
        have hm := hcell ⟨j / 2, hi⟩ (j % 2) (by omega)
        have hd3 : j = j / 2 * 2 + j % 2 := by omega
        rw [show off + j = off + j / 2 * 2 + j % 2 by omega]
        have h3 : j % 2 = 0 ∨ j % 2 = 1 := by omega
        rcases h3 with h3 | h3
        · rw [h3] at hm hd3 ⊢
          rw [hm]
          rw [hd3, Nat.add_zero, q0] at hj
          exact hj
        · rw [h3] at hm hd3 ⊢
          rw [hm]
          rw [hd3, q1] at hj
          exact hj
    · have e : (List.ofFn f).map dtF = elems.map (·.1) := by
        apply List.ext_getElem?
        intro j
        rcases Nat.lt_or_ge j len with hj | hj
        · have s := (hfs ⟨j, hj⟩).2
          have hj2 : j < elems.length := by omega
          rw [List.getElem?_map, List.getElem?_map, ← s]
          rw [List.getElem?_eq_getElem (by rw [List.length_ofFn]; exact hj), List.getElem_ofFn]
          rfl
        · rw [List.getElem?_eq_none (by rw [List.length_map, List.length_ofFn]; exact hj), List.getElem?_eq_none (by rw [List.length_map]; omega)]
      rw [e]
theorem weights_allF {H : Type} {P : Program} {e : TypeId} {n : Nat} {d : DataW H} : ∀ {ds : List (DataW H)}, d ∈ ds → n ∈ d.weights P e → n ∈ DataW.weightsAll P e ds
  | x :: r, h, hn => by
    rw [DataW.weightsAll, List.mem_append]
    rcases List.mem_cons.1 h with rfl | h
    · exact .inl hn
    · exact .inr (weights_allF h hn)
theorem bytesF : Tryd.prog.bytesOf 32 = 32 := by kernel_rfl
theorem fds_size {H : Type} {ts : List TypeId} {ds : List (DataW H)} {d : DataW H} {st : List Fd} {j : Nat} (h : (DataW.weightsEach Tryd.prog ts ds).all (· ≤ reachBytes) = true) (ht : ts[j]? = some 24) (hd : ds[j]? = some d)
    (e : (st = [] ∧ d = .nil) ∨ ∃ sp, d = .slice (st.map dtF) sp) : st.length ≤ 4398046511000 ∧ ∀ t ∈ st, t.name.length ≤ 140737488351232 ∧ t.body.length ≤ 140737488351232 := by
  rcases e with ⟨rfl, _⟩ | ⟨sp, rfl⟩
  · exact ⟨Nat.zero_le _, fun t ht => by cases ht⟩
  have key : ∀ n, n ∈ (DataW.slice (st.map (dtF (H := H))) sp).weights Tryd.prog 24 → n ≤ 140737488351232 := fun n hn => by
    have h0 := List.all_eq_true.1 h _ (DataW.weights_mem_each ht hd _ hn)
    simp only [reachBytes] at h0
    exact of_decide_eq_true h0
  refine ⟨?_, fun t htt => ⟨key _ ?_, key _ ?_⟩⟩
  · have := sized_slice h ht hd Tryd.underlying24
    rw [bytesF, List.length_map] at this
    simp only [reachBytes] at this
    omega
  · unfold DataW.weights
    rw [Tryd.underlying24]
    refine List.mem_cons_of_mem _ (List.mem_append.2 (.inl (weights_allF (List.mem_map.2 ⟨t, htt, rfl⟩) ?_)))
    unfold dtF DataW.weights
    rw [Tryd.underlying32]
    exact DataW.weights_mem_each (j := 0) (t := 9) (d := .lit (.string t.name)) rfl rfl _ (by simp [DataW.weights])
  · unfold DataW.weights
    rw [Tryd.underlying24]
    refine List.mem_cons_of_mem _ (List.mem_append.2 (.inl (weights_allF (List.mem_map.2 ⟨t, htt, rfl⟩) ?_)))
    unfold dtF DataW.weights
    rw [Tryd.underlying32]
    exact DataW.weights_mem_each (j := 1) (t := 9) (d := .lit (.string t.body)) rfl rfl _ (by simp [DataW.weights])
end Go.Proofs.YtpepjiocjcjeeabDoor
