/-
  The reply that right rows say.
-/
import Derived.Test.YtbfgefgadplcjaaDoorSc12
import Derived.Test.YtbfgefgadplcjaaDoorGrown
import Derived.Lib.SplitLaws
namespace Go.Proofs.YtbfgefgadplcjaaDoor
open Go.RowKit

/-- A row of texts as cells; the first i of them changed. -/
def cellsT (L : List (List UInt8)) : Array Value := (L.map fun l => Value.string (tx l)).toArray
def mixL (f : List UInt8 → List UInt8) (L : List (List UInt8)) (i : Nat) : List (List UInt8) := (L.take i).map f ++ L.drop i
theorem mixL_length (f : List UInt8 → List UInt8) (L : List (List UInt8)) (i : Nat) (h : i ≤ L.length) : (mixL f L i).length = L.length := by simp [mixL]; omega
theorem mixL_zero (f : List UInt8 → List UInt8) (L : List (List UInt8)) : mixL f L 0 = L := by simp [mixL]
theorem mixL_all (f : List UInt8 → List UInt8) (L : List (List UInt8)) (i : Nat) (h : L.length ≤ i) : mixL f L i = L.map f := by simp [mixL, List.take_of_length_le h, List.drop_eq_nil_of_le h]
theorem mixL_at (f : List UInt8 → List UInt8) (L : List (List UInt8)) (i : Nat) (h : i < L.length) : (mixL f L i)[i]? = some L[i] := by
  unfold mixL
  rw [List.getElem?_append_right (by simp; omega), List.getElem?_drop, List.getElem?_eq_getElem (by simp; omega)]
  congr 2
  simp
  omega
theorem cellsT_at (L : List (List UInt8)) (i : Nat) (l : List UInt8) (h : L[i]? = some l) : (cellsT L)[i]? = some (.string (tx l)) := by
  unfold cellsT
  rw [List.getElem?_toArray, List.getElem?_map, h]
  rfl
theorem mixL_set (f : List UInt8 → List UInt8) (L : List (List UInt8)) (i : Nat) (h : i < L.length) : (cellsT (mixL f L i)).setIfInBounds i (.string (tx (f L[i]))) = cellsT (mixL f L (i + 1)) := by
  unfold cellsT
  rw [List.setIfInBounds_toArray, ← List.map_set]
  congr 2
  unfold mixL
  rw [List.set_append, if_neg (by simp; omega), List.take_succ_eq_append_getElem h, List.map_append, List.append_assoc]
  congr 1
  rw [List.length_map, List.length_take, Nat.min_eq_left (Nat.le_of_lt h), Nat.sub_self, List.drop_eq_getElem_cons h]
  rfl
theorem split_tx (s : ByteArray) : (Lib.splitB ⟨#[13, 10]⟩ 0 (Lib.countB s ⟨#[13, 10]⟩) s).map Value.string = (Lib.split s.data.toList [13, 10]).map (fun l => Value.string (tx l)) ∧ Lib.countB s ⟨#[13, 10]⟩ + 1 = (Lib.split s.data.toList [13, 10]).length := by
  have h1 := Lib.splitB_data ⟨#[13, 10]⟩ 0 (Lib.countB s ⟨#[13, 10]⟩) s
  have h2 := Lib.splitB_all ⟨#[13, 10]⟩ (by decide) 0 _ s rfl
  have h3 : Lib.split s.data.toList [13, 10] = Lib.splitK [13, 10] 0 (Lib.countB s ⟨#[13, 10]⟩) s.data.toList := rfl
  rw [h3]
  have h4 : Lib.splitK [13, 10] 0 (Lib.countB s ⟨#[13, 10]⟩) s.data.toList = (Lib.splitB ⟨#[13, 10]⟩ 0 (Lib.countB s ⟨#[13, 10]⟩) s).map (·.data.toList) := h1.symm
  rw [h4]
  refine ⟨?_, by rw [List.length_map, h2]⟩
  rw [List.map_map]
  apply List.map_congr_left
  intro b _
  simp only [Function.comp, tx_back]
theorem splitK_short (sep : List UInt8) : ∀ (k : Nat) (s : List UInt8), ∀ l ∈ Lib.splitK sep 0 k s, l.length ≤ s.length
  | 0, s, l, h => by
    simp [Lib.splitK] at h
    subst h
    exact Nat.le_refl _
  | k + 1, s, l, h => by
    unfold Lib.splitK at h
    split at h
    · simp at h
      subst h
      exact Nat.le_refl _
    · rcases List.mem_cons.1 h with h | h
      · subst h
        rw [List.length_take]
        omega
      · have := splitK_short sep k _ l h
        rw [List.length_drop] at this
        omega
theorem rowsT_short (t : List UInt8) : (∀ l ∈ rowsT t, l.length ≤ t.length) ∧ (rowsT t).length ≤ t.length + 1 := by
  have h0 : (Lib.trimSuffix t [13, 10]).length ≤ t.length := by
    unfold Lib.trimSuffix
    split
    · rw [List.length_take]; omega
    · exact Nat.le_refl _
  constructor
  · intro l hl
    exact Nat.le_trans (splitK_short _ _ _ l hl) h0
  · have h1 := (split_tx (tx (Lib.trimSuffix t [13, 10]))).2
    rw [tx_list] at h1
    have h2 := Lib.countB_le ⟨#[13, 10]⟩ (by decide) _ (tx (Lib.trimSuffix t [13, 10])) (Nat.le_refl _)
    rw [tx_size] at h2
    unfold rowsT
    omega
/-- A reply in memory. -/
def RyAt (w : World) (x : Rx) (r : Ry) : Prop := x.c = r.code ∧ x.s = r.st ∧ x.n = r.ls.length ∧ ∃ g, x.a = some ⟨g, 0, none⟩ ∧ Lies w g (cellsT r.ls) 9
def rxV (x : Rx) : Value := .agg #[.int .i64 x.c, .int .i64 x.s.1, .int .i64 x.s.2.1, .int .i64 x.s.2.2, .slice x.a x.n x.k]
def rxC (x : Rx) : Array Value := #[.int .i64 x.c, .int .i64 x.s.1, .int .i64 x.s.2.1, .int .i64 x.s.2.2, .slice x.a x.n x.k]
theorem rxC_cells {w : World} {g : Nat} {x : Rx} {t : TypeId} (h : Lies w g (rxC x) t) : w.cell? ⟨g, 0, none⟩ = some (.int .i64 x.c) ∧ w.cell? ⟨g, 1, none⟩ = some (.int .i64 x.s.1) ∧ w.cell? ⟨g, 2, none⟩ = some (.int .i64 x.s.2.1) ∧ w.cell? ⟨g, 3, none⟩ = some (.int .i64 x.s.2.2) ∧ w.cell? ⟨g, 4, none⟩ = some (.slice x.a x.n x.k) ∧ w.frozen? ⟨g, 0, none⟩ = false ∧ w.frozen? ⟨g, 1, none⟩ = false ∧ w.frozen? ⟨g, 2, none⟩ = false ∧ w.frozen? ⟨g, 3, none⟩ = false ∧ w.frozen? ⟨g, 4, none⟩ = false :=
  ⟨h.cell 0, h.cell 1, h.cell 2, h.cell 3, h.cell 4, h.frozen 0, h.frozen 1, h.frozen 2, h.frozen 3, h.frozen 4⟩
/-- A reply laid over another one. -/
def rxSet (w : World) (g : Nat) (x : Rx) : World := ((((w.setCell ⟨g, 0, none⟩ (.int .i64 x.c)).setCell ⟨g, 1, none⟩ (.int .i64 x.s.1)).setCell ⟨g, 2, none⟩ (.int .i64 x.s.2.1)).setCell ⟨g, 3, none⟩ (.int .i64 x.s.2.2)).setCell ⟨g, 4, none⟩ (.slice x.a x.n x.k)
theorem rxSet_lies {w : World} {g : Nat} {x : Rx} {t : TypeId} (h : Lies w g (rxC x) t) (y : Rx) : Lies (rxSet w g y) g (rxC y) t := ((((h.set 0 _).set 1 _).set 2 _).set 3 _).set 4 _
theorem rxSet_other {w : World} {g q : Nat} {cs : Array Value} {t : TypeId} (h : Lies w q cs t) (hne : q ≠ g) (y : Rx) : Lies (rxSet w g y) q cs t := ((((h.set_other hne _).set_other hne _).set_other hne _).set_other hne _).set_other hne _
theorem rxSet_below {w w0 : World} {B g : Nat} (h : Below B w0 w) (hg : B ≤ g) (y : Rx) : Below B w0 (rxSet w g y) := ((((h.setCell (p := ⟨g, 0, none⟩) hg _).setCell (p := ⟨g, 1, none⟩) hg _).setCell (p := ⟨g, 2, none⟩) hg _).setCell (p := ⟨g, 3, none⟩) hg _).setCell (p := ⟨g, 4, none⟩) hg _
/-- A reply's status set. -/
def stSet1 (w : World) (g : Nat) (s : Stt) : World := ((w.setCell ⟨g, 1, none⟩ (.int .i64 s.1)).setCell ⟨g, 2, none⟩ (.int .i64 s.2.1)).setCell ⟨g, 3, none⟩ (.int .i64 s.2.2)
theorem infoRY : (Tryd.prog.info? 50).map (·.size) = some 5 := by kernel_rfl
theorem min_int (n : Nat) : (if (n : Int) < 4 then (n : Int) else 4) = ((min 4 n : Nat) : Int) := by
  split <;> omega
set_option maxHeartbeats 4000000 in
set_option maxRecDepth 20000 in
theorem repof_any (t : List UInt8) (h3 : 3 ≤ t.length) (hl : t.length ≤ 100000) (w : World) (ht : Tb w) :
    Calls Tryd.prog 44 #[.string (tx t)] w fun e w' => ∃ g, (∃ k, e = .returned (rxV ⟨(repOf t).code, (repOf t).st, some ⟨g, 0, none⟩, (repOf t).ls.length, k⟩)) ∧ w.heap.size ≤ g ∧ Lies w' g (cellsT (repOf t).ls) 9 ∧ Below w.heap.size w w' := by
  have HT : Hid (Tb w) := ht
  have HTR : Hid (∀ w', Calls Tryd.prog 62 #[.string (tx t), .string ⟨#[13, 10]⟩] w' fun e w2 => e = .returned (.string (tx (Lib.trimSuffix t [13, 10]))) ∧ w2 = w') := fun w' => by
    have := Tryd.strings_TrimSuffix (tx t) ⟨#[13, 10]⟩ w' (by rw [tx_size]; omega)
    rwa [tx_list] at this
  have htl : (Lib.trimSuffix t [13, 10]).length ≤ t.length := by
    unfold Lib.trimSuffix
    split
    · rw [List.length_take]; omega
    · exact Nat.le_refl _
  have HSP : Hid (∀ w', Below w.heap.size w w' → Calls Tryd.prog 61 #[.string (tx (Lib.trimSuffix t [13, 10])), .string ⟨#[13, 10]⟩] w' fun e w2 => e = .returned (.slice (some ⟨w'.heap.size, 0, none⟩) (rowsT t).length (rowsT t).length) ∧ w2 = w'.alloc (.cells (cellsT (rowsT t)) 9)) := fun w' hb => by
    obtain ⟨m, hm⟩ := (ht.on hb).mx
    have := Tryd.strings_Split (tx (Lib.trimSuffix t [13, 10])) ⟨#[13, 10]⟩ m w' (by rw [tx_size]; omega) hm (by decide)
    obtain ⟨k1, k2⟩ := split_tx (tx (Lib.trimSuffix t [13, 10]))
    rw [k1, k2, tx_list] at this
    exact this
  obtain ⟨hr1, hr2⟩ := rowsT_short t
  have HRS : Hid (∀ l ∈ rowsT t, l.length ≤ t.length) := hr1
  have HTX : Hid (textsT t = (rowsT t).map (·.drop 4)) := rfl
  have HTY : Hid (∀ l ∈ textsT t, l.length ≤ t.length) := fun l hl => by
    unfold textsT at hl
    obtain ⟨r, h1, rfl⟩ := List.mem_map.1 hl
    have := hr1 r h1
    rw [List.length_drop]
    omega
  have hrl : (rowsT t).length ≤ 200000 := by omega
  have hsz : (tx t).size = t.length := tx_size t
  have htz : (textsT t).length = (rowsT t).length := by unfold textsT; rw [List.length_map]
  have HNU : Hid (∀ w', Below w.heap.size w w' → Calls Tryd.prog 63 #[.string ((tx t).extract 0 3), .int .u64 999] w' fun e w2 => e = .returned (.tuple #[.int .u64 (numVal (t.take 3) 999), .int .i64 (numCode (t.take 3) 999)]) ∧ w2 = w') := fun w' hb => by
    have := number_any ((tx t).extract 0 3) 999 w' (ht.on hb).cls (by rw [tx_ext, tx_size]; simp; unfold maxLen; omega) (by decide) (by decide)
    rw [show ((tx t).extract 0 3).data.toList = t.take 3 by rw [tx_ext, tx_list, tx_list, List.drop_zero]] at this
    exact this
  clear ht hr1 hr2
  generalize tx (Lib.trimSuffix t [13, 10]) = TT at *
  obtain ⟨W, hW⟩ : ∃ W, W = w.alloc (.cells (rxC Rx.nil) 50) := ⟨_, rfl⟩
  have HB0 : Hid (Below w.heap.size w W) := by subst hW; exact (Below.refl _ _).alloc (Nat.le_refl _) _
  have HR0 : Hid (Lies W w.heap.size (rxC Rx.nil) 50) := by subst hW; exact Lies.new w _ _
  have HWW : Hid (w.alloc (.cells #[.int .i64 0, .int .i64 0, .int .i64 0, .int .i64 0, .slice none 0 0] 50) = W) := hW.symm
  clear hW
  go_enter Tryd.func44, Tryd.ntmps44
  go_wp2_with fail
  rw [HWW.out]
  refine (HTR.out W).mono ?_
  rintro e w1 ⟨rfl, rfl⟩
  go_wp2_with fail
  refine (HSP.out _ HB0.out).mono ?_
  rintro e w2 ⟨rfl, rfl⟩
  have HB2 : Hid (Below w.heap.size w (w1.alloc (.cells (cellsT (rowsT t)) 9))) := HB0.out.alloc HB0.out.size _
  have HR2 : Hid (Lies (w1.alloc (.cells (cellsT (rowsT t)) 9)) w.heap.size (rxC Rx.nil) 50) := HR0.out.alloc _
  have HL2 : Hid (Lies (w1.alloc (.cells (cellsT (rowsT t)) 9)) w1.heap.size (cellsT (mixL (·.drop 4) (rowsT t) 0)) 9) := by rw [mixL_zero]; exact Lies.new w1 _ _
  have HGE : Hid (w.heap.size ≤ w1.heap.size) := HB0.out.size
  have HNE : Hid (w.heap.size ≠ w1.heap.size) := by have := HR0.out.lt; show _ ≠ _; omega
  generalize w1.alloc (.cells (cellsT (rowsT t)) 9) = V at *
  generalize w1.heap.size = G at *
  clear HB0 HR0 HWW HTR HSP
  go_wp2_with fail
  go_loopw [4, 5, 16] (fun _ _ iv wr => ∃ i : Nat, i ≤ (rowsT t).length ∧ iv = .int .i64 i ∧ Hid (Below w.heap.size w wr) ∧ Hid (Lies wr w.heap.size (rxC Rx.nil) 50) ∧ Hid (Lies wr G (cellsT (mixL (·.drop 4) (rowsT t) i)) 9)) (fun _ _ iv _ => (rowsT t).length - (intOf iv).toNat)
  case atStart => exact ⟨0, Nat.zero_le _, rfl, HB2.out, HR2.out, HL2.out⟩
  case round =>
    obtain ⟨i, hi, rfl, HB, HR, HL⟩ := hrel
    clear HB2 HR2 HL2
    by_cases hlt : i < (rowsT t).length
    · have hlt' : (i : Int) < ((rowsT t).length : Int) := by omega
      have hce : wr.cell? ⟨G, i, none⟩ = some (.string (tx (rowsT t)[i])) := by rw [HL.out.cell]; exact cellsT_at _ _ _ (mixL_at _ _ _ hlt)
      have hfr := HL.out.frozen i
      have hys := tx_size (rowsT t)[i]
      have hyl := HRS.out _ (List.getElem_mem hlt)
      have HON : Hid (∀ w', w' = wr.setCell ⟨G, i, none⟩ (.string (tx ((rowsT t)[i].drop 4))) → Below w.heap.size w w' ∧ Lies w' w.heap.size (rxC Rx.nil) 50 ∧ Lies w' G (cellsT (mixL (·.drop 4) (rowsT t) (i + 1))) 9) := fun w' e => by
        subst e
        refine ⟨HB.out.setCell (p := ⟨G, i, none⟩) HGE.out _, HR.out.set_other HNE.out _, ?_⟩
        have := HL.out.set i (.string (tx ((rowsT t)[i].drop 4)))
        rwa [mixL_set (·.drop 4) (rowsT t) i hlt] at this
      obtain ⟨m, hm⟩ : ∃ m : Nat, m = min 4 (rowsT t)[i].length := ⟨_, rfl⟩
      have hex : (tx (rowsT t)[i]).extract m (tx (rowsT t)[i]).size = tx ((rowsT t)[i].drop 4) := by
        rw [tx_ext, tx_list, hys, List.take_length]
        by_cases h4 : 4 ≤ (rowsT t)[i].length
        · rw [hm, Nat.min_eq_left h4]
        · rw [hm, Nat.min_eq_right (by omega), List.drop_length, List.drop_eq_nil_of_le (by omega)]
      have hm1 : (if ((tx (rowsT t)[i]).size : Int) < 4 then ((tx (rowsT t)[i]).size : Int) else 4) = (m : Int) := by rw [hys, min_int, hm]
      have hm2 : min (4 : Int) ((tx (rowsT t)[i]).size : Int) = (m : Int) := by rw [hys, hm]; omega
      have hm3 : m ≤ (tx (rowsT t)[i]).size := by rw [hys, hm]; exact Nat.min_le_right _ _
      have hsl : (tx (rowsT t)[i]).size ≤ 100000 := by rw [hys]; omega
      rw [← hex] at HON
      clear hm hex hys hyl HB HR HL
      generalize tx (rowsT t)[i] = Y at *
      go_wp2_with fail
      go_round
      case rel =>
        obtain ⟨k1, k2, k3⟩ := HON.out _ rfl
        exact ⟨i + 1, hlt, by go_num, k1, k2, k3⟩
      case measure => simp [intOf]; omega
    · have hlt' : ¬ (i : Int) < ((rowsT t).length : Int) := by omega
      have HL3 : Hid (Lies wr G (cellsT (textsT t)) 9) := by have := HL.out; rwa [mixL_all _ _ _ (by omega), ← HTX.out] at this
      clear HL
      have htz2 : (textsT t).length ≤ 200000 := by omega
      rw [← htz] at *
      obtain ⟨N, hN⟩ : ∃ N, N = numVal (t.take 3) 999 := ⟨_, rfl⟩
      have hN0 : 0 ≤ N ∧ N ≤ 999 := by rw [hN]; exact prt_lo _
      have HNU1 := HNU.out _ HB.out
      rw [← hN] at HNU1
      obtain ⟨hN0, hN1⟩ := hN0
      have HCM : Hid (∀ w', Below wr.heap.size wr w' → Calls Tryd.prog 38 #[.int .i64 N, .slice (some ⟨G, 0, none⟩) (textsT t).length (textsT t).length] w' fun e w2 => e = .returned (stV (comSt N (textsT t))) ∧ Below w'.heap.size w' w2) := fun w' hb =>
        com_any N hN0 hN1 _ (textsT t) _ _ rfl (by omega) (fun l hl => by have := HTY.out l hl; omega) w' (.inr ⟨G, 0, rfl, Nat.lt_of_lt_of_le HL3.out.lt hb.size, fun j hj => by
          have h1 := (HL3.out.below hb HL3.out.lt).cell (0 + j)
          rw [Nat.zero_add] at h1 ⊢
          rw [h1]
          exact cellsT_at _ _ _ (List.getElem?_eq_getElem hj)⟩) (HT.out.on (HB.out.trans (hb.mono HB.out.size)))
      clear HNU
      have HRP : Hid (repOf t = if comSt N (textsT t) ≠ (0, 0, 0) then ⟨N, comSt N (textsT t), (textsT t).map (cutB · 32)⟩ else ⟨N, comSt N (textsT t), textsT t⟩) := by show _ = _; rw [hN]; rfl
      generalize numCode (t.take 3) 999 = NC at *
      have HTY2 : Hid (∀ l ∈ textsT t, l.length ≤ 100000) := fun l hl2 => Nat.le_trans (HTY.out l hl2) hl
      clear hN hi hlt HTX HRS HTY
      generalize textsT t = X at *
      generalize comSt N X = C at *
      generalize rowsT t = X0 at *
      go_wp2_with fail
      refine HNU1.mono ?_
      rintro e w3 ⟨rfl, rfl⟩
      clear HNU1
      go_wp2_with fail
      have HB4 : Hid (Below w.heap.size w (w3.alloc (.cells (rxC ⟨N, (0, 0, 0), some ⟨G, 0, none⟩, X.length, X.length⟩) 50))) := HB.out.alloc HB.out.size _
      have HR4 : Hid (Lies (w3.alloc (.cells (rxC ⟨N, (0, 0, 0), some ⟨G, 0, none⟩, X.length, X.length⟩) 50)) w.heap.size (rxC Rx.nil) 50) := HR.out.alloc _
      have HL4 : Hid (Lies (w3.alloc (.cells (rxC ⟨N, (0, 0, 0), some ⟨G, 0, none⟩, X.length, X.length⟩) 50)) G (cellsT X) 9) := HL3.out.alloc _
      have HP4 : Hid (Lies (w3.alloc (.cells (rxC ⟨N, (0, 0, 0), some ⟨G, 0, none⟩, X.length, X.length⟩) 50)) w3.heap.size (rxC ⟨N, (0, 0, 0), some ⟨G, 0, none⟩, X.length, X.length⟩) 50) := Lies.new w3 _ _
      have HC4 := HCM.out _ ((Below.refl _ w3).alloc (Nat.le_refl _) (.cells (rxC ⟨N, (0, 0, 0), some ⟨G, 0, none⟩, X.length, X.length⟩) 50))
      have HPN : Hid (w3.heap.size ≠ w.heap.size ∧ w3.heap.size ≠ G ∧ w.heap.size ≤ w3.heap.size) := by have h1 := HR.out.lt; have h2 := HL3.out.lt; show _ ∧ _ ∧ _; omega
      clear HB HR HL3 HCM
      unfold rxC at HC4
      dsimp only at HC4
      refine HC4.mono ?_
      clear HC4
      rintro e w5 ⟨rfl, hB5⟩
      have HB5 : Hid (Below w.heap.size w w5) := HB4.out.trans (hB5.mono HB4.out.size)
      have HR5 : Hid (Lies w5 w.heap.size (rxC Rx.nil) 50) := HR4.out.below hB5 HR4.out.lt
      have HL5 : Hid (Lies w5 G (cellsT X) 9) := HL4.out.below hB5 HL4.out.lt
      have HP5 : Hid (Lies w5 w3.heap.size (rxC ⟨N, (0, 0, 0), some ⟨G, 0, none⟩, X.length, X.length⟩) 50) := HP4.out.below hB5 HP4.out.lt
      clear hB5 HB4 HR4 HL4 HP4
      generalize w3.heap.size = P at *
      have p1 : w5.cell? ⟨P, 1, none⟩ = some (.int .i64 0) := HP5.out.cell 1
      have p2 : w5.cell? ⟨P, 2, none⟩ = some (.int .i64 0) := HP5.out.cell 2
      have p3 : w5.cell? ⟨P, 3, none⟩ = some (.int .i64 0) := HP5.out.cell 3
      have q1 := HP5.out.frozen 1
      have q2 := HP5.out.frozen 2
      have q3 := HP5.out.frozen 3
      unfold stV
      have HRX : Hid (∀ w', w' = stSet1 w5 P C → Below w.heap.size w w' ∧ Lies w' w.heap.size (rxC Rx.nil) 50 ∧ Lies w' G (cellsT X) 9 ∧ Lies w' P (rxC ⟨N, C, some ⟨G, 0, none⟩, X.length, X.length⟩) 50) := fun w' e => by
        subst e
        obtain ⟨n1, n2, n3⟩ := HPN.out
        refine ⟨((HB5.out.setCell (p := ⟨P, 1, none⟩) n3 _).setCell (p := ⟨P, 2, none⟩) n3 _).setCell (p := ⟨P, 3, none⟩) n3 _, ((HR5.out.set_other (Ne.symm n1) _).set_other (Ne.symm n1) _).set_other (Ne.symm n1) _, ((HL5.out.set_other (Ne.symm n2) _).set_other (Ne.symm n2) _).set_other (Ne.symm n2) _, ((HP5.out.set 1 _).set 2 _).set 3 _⟩
      go_wp2_with fail
      obtain ⟨W6, hW6⟩ : ∃ W6, W6 = stSet1 w5 P C := ⟨_, rfl⟩
      obtain ⟨HB6, HR6, HL6, HP6⟩ := HRX.out _ hW6
      have HB6 : Hid (Below w.heap.size w W6) := HB6
      have HR6 : Hid (Lies W6 w.heap.size (rxC Rx.nil) 50) := HR6
      have HL6 : Hid (Lies W6 G (cellsT X) 9) := HL6
      have HP6 : Hid (Lies W6 P (rxC ⟨N, C, some ⟨G, 0, none⟩, X.length, X.length⟩) 50) := HP6
      unfold stSet1 at hW6
      rw [← hW6]
      clear hW6 HRX p1 p2 p3 q1 q2 q3 HB5 HR5 HL5 HP5
      have p1 : W6.cell? ⟨P, 1, none⟩ = some (.int .i64 C.1) := HP6.out.cell 1
      have p2 : W6.cell? ⟨P, 2, none⟩ = some (.int .i64 C.2.1) := HP6.out.cell 2
      have p3 : W6.cell? ⟨P, 3, none⟩ = some (.int .i64 C.2.2) := HP6.out.cell 3
      have hgq := grdStt
      have heq := eqStt' C (0, 0, 0)
      by_cases hC : C = (0, 0, 0)
      · have HRQ : Hid (repOf t = ⟨N, C, X⟩) := by have := HRP.out; rwa [if_neg (fun h => h hC)] at this
        rw [decide_eq_true hC] at heq
        clear HRP hC
        refine wp_region_late (fun wx => wx.cell? ⟨P, 1, none⟩ = some (.int .i64 C.1) ∧ wx.cell? ⟨P, 2, none⟩ = some (.int .i64 C.2.1) ∧ wx.cell? ⟨P, 3, none⟩ = some (.int .i64 C.2.2)) 4 (by kernel_rfl) ⟨p1, p2, p3⟩ (fun hHeld => ?_)
        refine wpAnyE_tk (i := 0) (d := some 45) (v := ?_) rfl (by kernel_rfl) (by kernel_rfl) (by kernel_rfl) rfl (fun _ _ _ h => h) rfl rfl ?hy (by first | assumption | go_simp) ?_
        case hy => (intro w' hSw; (try dsimp only at hSw); go_simp <;> (first | with_reducible rfl | omega | skip))
        simp only [Act.put, List.setIfInBounds_toArray, List.set_cons_zero, List.set_cons_succ]
        refine wpAnyE_tk (i := 1) (d := some 46) (v := ?_) rfl (by kernel_rfl) (by kernel_rfl) (by kernel_rfl) rfl (fun _ _ _ h => h) rfl rfl ?hy (by first | assumption | go_simp) ?_
        case hy => (intro w' hSw; (try dsimp only at hSw); go_simp <;> (first | with_reducible rfl | omega | skip))
        simp only [Act.put, List.setIfInBounds_toArray, List.set_cons_zero, List.set_cons_succ]
        refine wpAnyE_on (i := 2) (by kernel_rfl) rfl rfl ?_
        go_simp
        refine Calls.mono (none_any W6.drew) ?_
        rintro e w7 ⟨rfl, hB7⟩
        have HB7 : Hid (Below w.heap.size w w7) := (below_dN HB6.out 1).trans (hB7.mono HB6.out.size)
        have HR7 : Hid (Lies w7 w.heap.size (rxC Rx.nil) 50) := (HR6.out.drewN 1).below hB7 HR6.out.lt
        have HL7 : Hid (Lies w7 G (cellsT X) 9) := (HL6.out.drewN 1).below hB7 HL6.out.lt
        have HP7 : Hid (Lies w7 P (rxC ⟨N, C, some ⟨G, 0, none⟩, X.length, X.length⟩) 50) := (HP6.out.drewN 1).below hB7 HP6.out.lt
        have hS7 : w7.cell? ⟨P, 1, none⟩ = some (.int .i64 C.1) ∧ w7.cell? ⟨P, 2, none⟩ = some (.int .i64 C.2.1) ∧ w7.cell? ⟨P, 3, none⟩ = some (.int .i64 C.2.2) := ⟨HP7.out.cell 1, HP7.out.cell 2, HP7.out.cell 3⟩
        refine ⟨hS7, ?_⟩
        clear hB7 HB6 HR6 HL6 HP6 p1 p2 p3
        unfold stV
        refine wpAnyE_tk (i := 3) (d := some 48) (v := .bool false) rfl (by kernel_rfl) (by kernel_rfl) (by kernel_rfl) rfl (fun _ _ _ h => h) rfl rfl ?hy (by first | assumption | go_simp) ?_
        case hy => (intro w' hSw; (try dsimp only at hSw); go_simp <;> (first | with_reducible rfl | omega | skip))
        simp only [Act.put, List.setIfInBounds_toArray, List.set_cons_zero, List.set_cons_succ]
        refine wpAnyE_done (by kernel_rfl) ?_ _
        clear hHeld hS7
        obtain ⟨r0, r1, r2, r3, r4, g0, g1, g2, g3, g4⟩ := rxC_cells HR7.out
        obtain ⟨s0, s1, s2, s3, s4, -, -, -, -, -⟩ := rxC_cells HP7.out
        have hpn := HPN.out.1
        have hpn2 := Ne.symm hpn
        go_wp2
        exact ret_row rfl w.heap.size 50 (rxC ⟨N, C, some ⟨G, 0, none⟩, X.length, X.length⟩) _ rfl (rxSet_lies HR7.out ⟨N, C, some ⟨G, 0, none⟩, X.length, X.length⟩) Tryd.underlying50 rfl infoRY ⟨G, ⟨X.length, by rw [HRQ.out]; rfl⟩, HGE.out, by rw [HRQ.out]; exact rxSet_other HL7.out (Ne.symm HNE.out) ⟨N, C, some ⟨G, 0, none⟩, X.length, X.length⟩, rxSet_below HB7.out (Nat.le_refl _) ⟨N, C, some ⟨G, 0, none⟩, X.length, X.length⟩⟩
      · have HRQ : Hid (repOf t = ⟨N, C, X.map (cutB · 32)⟩) := by have := HRP.out; rwa [if_pos hC] at this
        rw [decide_eq_false hC] at heq
        clear HRP hC
        refine wp_region_late (fun wx => wx.cell? ⟨P, 1, none⟩ = some (.int .i64 C.1) ∧ wx.cell? ⟨P, 2, none⟩ = some (.int .i64 C.2.1) ∧ wx.cell? ⟨P, 3, none⟩ = some (.int .i64 C.2.2)) 4 (by kernel_rfl) ⟨p1, p2, p3⟩ (fun hHeld => ?_)
        refine wpAnyE_tk (i := 0) (d := some 45) (v := ?_) rfl (by kernel_rfl) (by kernel_rfl) (by kernel_rfl) rfl (fun _ _ _ h => h) rfl rfl ?hy (by first | assumption | go_simp) ?_
        case hy => (intro w' hSw; (try dsimp only at hSw); go_simp <;> (first | with_reducible rfl | omega | skip))
        simp only [Act.put, List.setIfInBounds_toArray, List.set_cons_zero, List.set_cons_succ]
        refine wpAnyE_tk (i := 1) (d := some 46) (v := ?_) rfl (by kernel_rfl) (by kernel_rfl) (by kernel_rfl) rfl (fun _ _ _ h => h) rfl rfl ?hy (by first | assumption | go_simp) ?_
        case hy => (intro w' hSw; (try dsimp only at hSw); go_simp <;> (first | with_reducible rfl | omega | skip))
        simp only [Act.put, List.setIfInBounds_toArray, List.set_cons_zero, List.set_cons_succ]
        refine wpAnyE_on (i := 2) (by kernel_rfl) rfl rfl ?_
        go_simp
        refine Calls.mono (none_any W6.drew) ?_
        rintro e w7 ⟨rfl, hB7⟩
        have HB7 : Hid (Below w.heap.size w w7) := (below_dN HB6.out 1).trans (hB7.mono HB6.out.size)
        have HR7 : Hid (Lies w7 w.heap.size (rxC Rx.nil) 50) := (HR6.out.drewN 1).below hB7 HR6.out.lt
        have HL7 : Hid (Lies w7 G (cellsT X) 9) := (HL6.out.drewN 1).below hB7 HL6.out.lt
        have HP7 : Hid (Lies w7 P (rxC ⟨N, C, some ⟨G, 0, none⟩, X.length, X.length⟩) 50) := (HP6.out.drewN 1).below hB7 HP6.out.lt
        have hS7 : w7.cell? ⟨P, 1, none⟩ = some (.int .i64 C.1) ∧ w7.cell? ⟨P, 2, none⟩ = some (.int .i64 C.2.1) ∧ w7.cell? ⟨P, 3, none⟩ = some (.int .i64 C.2.2) := ⟨HP7.out.cell 1, HP7.out.cell 2, HP7.out.cell 3⟩
        refine ⟨hS7, ?_⟩
        clear hB7 HB6 HR6 HL6 HP6 p1 p2 p3
        unfold stV
        refine wpAnyE_tk (i := 3) (d := some 48) (v := .bool true) rfl (by kernel_rfl) (by kernel_rfl) (by kernel_rfl) rfl (fun _ _ _ h => h) rfl rfl ?hy (by first | assumption | go_simp) ?_
        case hy => (intro w' hSw; (try dsimp only at hSw); go_simp <;> (first | with_reducible rfl | omega | skip))
        simp only [Act.put, List.setIfInBounds_toArray, List.set_cons_zero, List.set_cons_succ]
        refine wpAnyE_done (by kernel_rfl) ?_ _
        clear hHeld hS7
        clear heq hgq
        have HBE : Hid (∀ l : List UInt8, l.length ≤ 100000 → ∀ w', Below w.heap.size w w' → Calls Tryd.prog 64 #[.string (tx l)] w' fun e w2 => e = .returned (.string (tx (cutB l 32))) ∧ ∃ n, w2 = w'.drewN n) := fun l hl2 w' hb => beh_any l (by omega) w' (HT.out.on hb)
        have HL8 : Hid (Lies w7 G (cellsT (mixL (cutB · 32) X 0)) 9) := by rw [mixL_zero]; exact HL7.out
        clear HL7
        go_wp2_with fail
        go_loopw [9, 10, 51] (fun _ _ iv wr => ∃ i : Nat, i ≤ X.length ∧ iv = .int .i64 i ∧ Hid (Below w.heap.size w wr) ∧ Hid (Lies wr w.heap.size (rxC Rx.nil) 50) ∧ Hid (Lies wr P (rxC ⟨N, C, some ⟨G, 0, none⟩, X.length, X.length⟩) 50) ∧ Hid (Lies wr G (cellsT (mixL (cutB · 32) X i)) 9)) (fun _ _ iv _ => X.length - (intOf iv).toNat)
        case atStart => exact ⟨0, Nat.zero_le _, rfl, HB7.out, HR7.out, HP7.out, HL8.out⟩
        case round =>
          obtain ⟨i, hi, rfl, HB9, HR9, HP9, HL9⟩ := hrel
          clear HB7 HR7 HP7 HL8
          by_cases hlt : i < X.length
          · have hlt2 : (i : Int) < (X.length : Int) := by omega
            have hce : wr.cell? ⟨G, i, none⟩ = some (.string (tx X[i])) := by rw [HL9.out.cell]; exact cellsT_at _ _ _ (mixL_at _ _ _ hlt)
            have HBE1 := HBE.out X[i] (HTY2.out _ (List.getElem_mem hlt)) wr HB9.out
            have HON : Hid (∀ n w', w' = (wr.drewN n).setCell ⟨G, i, none⟩ (.string (tx (cutB X[i] 32))) → Below w.heap.size w w' ∧ Lies w' w.heap.size (rxC Rx.nil) 50 ∧ Lies w' P (rxC ⟨N, C, some ⟨G, 0, none⟩, X.length, X.length⟩) 50 ∧ Lies w' G (cellsT (mixL (cutB · 32) X (i + 1))) 9) := fun n w' e => by
              subst e
              refine ⟨(below_dN HB9.out n).setCell (p := ⟨G, i, none⟩) HGE.out _, (HR9.out.drewN n).set_other HNE.out _, (HP9.out.drewN n).set_other HPN.out.2.1 _, ?_⟩
              have := (HL9.out.drewN n).set i (.string (tx (cutB X[i] 32)))
              rwa [mixL_set (cutB · 32) X i hlt] at this
            have HFC : Hid (∀ n, (wr.drewN n).cell? ⟨G, i, none⟩ = some (.string (tx X[i])) ∧ (wr.drewN n).frozen? ⟨G, i, none⟩ = false) := fun n => ⟨hce, HL9.out.frozen i⟩
            clear HB9 HR9 HP9 HL9
            generalize tx (cutB X[i] 32) = Z at *
            generalize tx X[i] = Y at *
            go_wp2_with fail
            refine HBE1.mono ?_
            rintro e w9 ⟨rfl, n, rfl⟩
            obtain ⟨hce2, hfr2⟩ := HFC.out n
            clear hce
            go_wp2_with fail
            go_round
            case rel =>
              obtain ⟨k1, k2, k3, k4⟩ := HON.out n _ rfl
              exact ⟨i + 1, hlt, by go_num, k1, k2, k3, k4⟩
            case measure => simp [intOf]; omega
          · have hlt2 : ¬ (i : Int) < (X.length : Int) := by omega
            have HL9 : Hid (Lies wr G (cellsT (X.map (cutB · 32))) 9) := by have := HL9.out; rwa [mixL_all _ _ _ (by omega)] at this
            obtain ⟨r0, r1, r2, r3, r4, g0, g1, g2, g3, g4⟩ := rxC_cells HR9.out
            obtain ⟨s0, s1, s2, s3, s4, -, -, -, -, -⟩ := rxC_cells HP9.out
            have hpn := HPN.out.1
            have hpn2 := Ne.symm hpn
            go_wp2
            exact ret_row rfl w.heap.size 50 (rxC ⟨N, C, some ⟨G, 0, none⟩, X.length, X.length⟩) _ rfl (rxSet_lies HR9.out ⟨N, C, some ⟨G, 0, none⟩, X.length, X.length⟩) Tryd.underlying50 rfl infoRY ⟨G, ⟨X.length, by rw [HRQ.out]; simp only [List.length_map]; rfl⟩, HGE.out, by rw [HRQ.out]; exact rxSet_other HL9.out (Ne.symm HNE.out) ⟨N, C, some ⟨G, 0, none⟩, X.length, X.length⟩, rxSet_below HB9.out (Nat.le_refl _) ⟨N, C, some ⟨G, 0, none⟩, X.length, X.length⟩⟩
end Go.Proofs.YtbfgefgadplcjaaDoor
