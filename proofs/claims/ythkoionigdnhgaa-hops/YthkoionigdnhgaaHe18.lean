/-
  The document's Header, IsOf, Hops.
-/
import Derived.Test.YthkoionigdnhgaaHd18
namespace Go.Proofs.Ythkoionigdnhgaa
open Go.RowKit

theorem hS_take (s : ByteArray) (k : Nat) : s.extract 0 k = hS (s.data.toList.take k) := by
  apply ByteArray.ext
  apply Array.toList_inj.1
  rw [ByteArray.data_extract]
  simp [hS]
set_option maxRecDepth 100000 in
set_option maxHeartbeats 2000000 in
theorem visof_any (s : ByteArray) (w : World) (hl : s.size ≤ 140737488351232) :
    Calls Try.prog 9 #[.string s, .string ⟨#[82, 101, 99, 101, 105, 118, 101, 100]⟩] w fun e w' => e = .returned (.bool (rcvH s.data.toList)) ∧ Below w.heap.size w w' := by
  have HS : Hid (∀ w', Calls Try.prog 13 #[.string (hS (s.data.toList.take 8)), .string ⟨#[82, 101, 99, 101, 105, 118, 101, 100]⟩] w' fun e w2 => e = .returned (.bool (sameB (hS (s.data.toList.take 8)) nmR)) ∧ Below w'.heap.size w' w2) := fun w' => rsameH_any _ _ w' (by rw [hS_size, List.length_take]; omega) (by decide)
  have hz := len_list s
  have hx := hS_take s 8
  by_cases h8 : 8 < s.size
  · have h8I : (8 : Int) < (s.size : Int) := by omega
    have h8t : 8 ≤ s.size := by omega
    have hq : s.data.toList[8]? = some s[8] := List.getElem?_eq_getElem (by omega)
    have HR2 : Hid (rcvH s.data.toList = (sameB (hS (s.data.toList.take 8)) nmR && ((s[8].toNat : Int) == 58))) := by
      show rcvH _ = _
      unfold rcvH
      rw [hq]
      by_cases h58 : s[8] = 58
      · have := u8vH (m := 58) h58
        rw [this]
        simp [h8, h58, hz]
      · have := u8wH (m := 58) h58
        rw [this]
        simp [h58]
    generalize rcvH s.data.toList = R at *
    generalize hS (s.data.toList.take 8) = T at *
    clear hq hz
    cases hS : sameB T nmR with
    | true =>
      rw [hS] at HS HR2
      go_enter Try.func9, Try.ntmps9
      go_wp2_with (first | rw [hx] | (go_at_call 13; refine (HS.out _).mono ?_; rintro e w1 ⟨rfl, hB1⟩))
      all_goals go_ret
      all_goals exact ⟨by rw [HR2.out]; rfl, hB1⟩
    | false =>
      rw [hS] at HS HR2
      go_enter Try.func9, Try.ntmps9
      go_wp2_with (first | rw [hx] | (go_at_call 13; refine (HS.out _).mono ?_; rintro e w1 ⟨rfl, hB1⟩))
      all_goals go_ret
      all_goals exact ⟨by rw [HR2.out]; rfl, hB1⟩
  · have h8I : ¬ (8 : Int) < (s.size : Int) := by omega
    have HR2 : Hid (rcvH s.data.toList = false) := by
      show rcvH _ = false
      unfold rcvH
      rw [hz]
      simp [h8]
    generalize rcvH s.data.toList = R at *
    clear HS
    go_enter Try.func9, Try.ntmps9
    go_wp2_with fail
    go_ret
    exact ⟨by rw [HR2.out]; rfl, Below.refl _ _⟩
set_option maxRecDepth 100000 in
set_option maxHeartbeats 2000000 in
theorem vheader_any (a : Option Addr) (l : List UInt8) (n c : Nat) (hn : n = l.length) (hc : n ≤ c) (w : World) (hb : Bts a l w) (hl : l.length ≤ 1099511627776) (L : List (List UInt8)) (hL : lnsH l = L) :
    Calls Try.prog 8 #[.slice a n c] w fun e w' => ∃ b cp, e = .returned (.slice b (hdrL L).length cp) ∧ (hdrL L).length ≤ cp ∧ (hdrL L ≠ [] → ∃ g, b = some ⟨g, 0, none⟩ ∧ ∀ j x, (hdrL L)[j]? = some x → w'.cell? ⟨g, j, none⟩ = some (.string (hS x))) ∧ Below w.heap.size w w' := by
  subst hn
  have HL := vlines_any a l l.length c rfl hc w hb hl
  clear hb
  go_enter Try.func8, Try.ntmps8
  go_wp2_with fail
  refine HL.mono ?_
  rintro e w1 ⟨v, rfl, hO, hB⟩
  have HB : Hid (Below w.heap.size w w1) := hB
  rw [hL] at hO
  obtain ⟨-, b, cp, rfl, hcp, hcm, hcell⟩ := own_shapeH hO
  have hlen : L.length ≤ l.length + 1 := by
    rw [← hL]
    unfold lnsH
    have := (hlF_len l ([], [])).2
    rw [List.length_append, List.length_singleton]
    simp only [List.length_nil, Nat.zero_add] at this
    omega
  clear hL
  have HCELL : Hid (L ≠ [] → ∃ g, b = some ⟨g, 0, none⟩ ∧ g < w1.heap.size ∧ ∀ j x, L[j]? = some x → w1.cell? ⟨g, j, none⟩ = some (.string (hS x))) := hcell
  clear HL hO hB hcell
  go_wp2_with fail
  go_loopw [4] (fun iv wr => ∃ k : Nat, k ≤ L.length ∧ iv = .int .i64 (k : Int) ∧ wr = w1 ∧ Hid (∀ j, j < k → L[j]? ≠ some [])) (fun iv _ => L.length - (intOf iv).toNat)
  case atStart => exact ⟨0, Nat.zero_le _, rfl, rfl, fun j hj => absurd hj (Nat.not_lt_zero _)⟩
  case round =>
    obtain ⟨k, hk, rfl, rfl, HN⟩ := hrel
    by_cases hlt : k < L.length
    · have hltI : (k : Int) < (L.length : Int) := by omega
      obtain ⟨g, rfl, hg, hcell⟩ := HCELL.out (fun e => by rw [e] at hlt; simp at hlt)
      have hq : L[k]? = some L[k] := List.getElem?_eq_getElem hlt
      have hck := hcell k L[k] hq
      have HH : Hid (L[k] = [] → hdrL L = L.take k) := fun e => hdr_at L k hlt HN.out (by rw [hq, e])
      have HCL : Hid (∀ j x, L[j]? = some x → wr.cell? ⟨g, j, none⟩ = some (.string (hS x))) := hcell
      have HN2 : Hid (L[k] ≠ [] → ∀ j, j < k + 1 → L[j]? ≠ some []) := fun e j hj => by
        rcases Nat.lt_or_eq_of_le (Nat.le_of_lt_succ hj) with h | h
        · exact HN.out j h
        · subst h; rw [hq]; exact fun h2 => e (Option.some.inj h2)
      have hkc : k ≤ cp := by omega
      clear HN HCELL hq hcell
      by_cases he : L[k] = []
      · have HH2 := HH.out he
        rw [he] at hck
        have hlk : (L.take k).length = k := by rw [List.length_take]; omega
        have hem : (hS []).toList.isEmpty = true := by rw [ByteArray.toList_eq]; rfl
        clear HH HN2
        go_wp2_with fail
        go_ret
        exact ⟨some ⟨g, 0, none⟩, cp, by rw [HH2, hlk]; rfl, by rw [HH2, hlk]; exact hkc, fun _ => ⟨g, rfl, fun j x hx => HCL.out j x (by rw [HH2, List.getElem?_take] at hx; by_cases hj : j < k; { rw [if_pos hj] at hx; exact hx }; { rw [if_neg hj] at hx; cases hx })⟩, HB.out⟩
      · have HNN := HN2.out he
        have hne : (hS L[k]).toList.isEmpty = false := by
          rw [ByteArray.toList_eq]
          show L[k].isEmpty = false
          cases hq : L[k] with
          | nil => exact absurd hq he
          | cons x y => rfl
        clear HH HN2
        generalize L[k] = y at *
        go_wp2_with fail
        go_roundw
        case rel => exact ⟨k + 1, by omega, by go_num, trivial, HNN⟩
        case measure => simp [intOf]; omega
    · obtain rfl : k = L.length := by omega
      have hH : hdrL L = L := hdr_all L HN.out
      go_wp2_with fail
      go_ret
      exact ⟨b, cp, by rw [hH]; rfl, by rw [hH]; exact hcp, fun h => by rw [hH] at h ⊢; obtain ⟨g, h1, _, h2⟩ := HCELL.out h; exact ⟨g, h1, h2⟩, HB.out⟩
theorem hdr_len : ∀ L : List (List UInt8), (hdrL L).length ≤ L.length
  | [] => Nat.le_refl _
  | l :: r => by
    unfold hdrL
    split
    · exact Nat.zero_le _
    · simp only [List.length_cons]; have := hdr_len r; omega
theorem lns_short (l x : List UInt8) (h : x ∈ hdrL (lnsH l)) : x.length ≤ l.length := by
  have h1 : ∀ (L : List (List UInt8)), x ∈ hdrL L → x ∈ L := by
    intro L
    induction L with
    | nil => exact id
    | cons y r ih =>
      intro hx
      unfold hdrL at hx
      split at hx
      · cases hx
      · rcases List.mem_cons.1 hx with h | h
        · exact List.mem_cons.2 (.inl h)
        · exact List.mem_cons.2 (.inr (ih h))
  have h2 : ∀ (k : Nat), k ≤ l.length → ∀ y ∈ (hlF ([], []) (l.take k)).1, y.length ≤ l.length := by
    intro k
    induction k with
    | zero => intro _ y hy; simp [hlF] at hy
    | succ k ih =>
      intro hk y hy
      rw [hlF_next l k (by omega)] at hy
      have ho := (hlF_open k l (by omega)).2
      unfold hlS at hy
      split at hy
      · rcases List.mem_append.1 hy with h | h
        · exact ih (by omega) y h
        · obtain rfl := List.mem_singleton.1 h
          rw [List.length_dropLast]
          omega
      · exact ih (by omega) y hy
  have h3 := h1 _ h
  unfold lnsH at h3
  rcases List.mem_append.1 h3 with h4 | h4
  · exact h2 l.length (Nat.le_refl _) x (by rw [List.take_length]; exact h4)
  · obtain rfl := List.mem_singleton.1 h4
    have := (hlF_len l ([], [])).1
    simpa using this
set_option maxRecDepth 100000 in
set_option maxHeartbeats 2000000 in
theorem vhops_any (a : Option Addr) (l : List UInt8) (n c : Nat) (hn : n = l.length) (hc : n ≤ c) (w : World) (hb : Bts a l w) (hl : l.length ≤ 1099511627776) :
    Calls Try.prog 4 #[.slice a n c] w fun e w' => e = .returned (.int .i64 (hopsH l : Nat)) ∧ Below w.heap.size w w' := by
  subst hn
  have HL := vheader_any a l l.length c rfl hc w hb hl _ rfl
  have HSH : Hid (∀ x ∈ hdrL (lnsH l), x.length ≤ l.length) := fun x hx => lns_short l x hx
  have HCO : Hid ((hdrL (lnsH l)).countP rcvH = hopsH l) := hdr_hops rcvH (lnsH l)
  have hlen : (hdrL (lnsH l)).length ≤ l.length + 1 := by
    have h1 := hdr_len (lnsH l)
    have h2 : (lnsH l).length ≤ l.length + 1 := by
      unfold lnsH
      have := (hlF_len l ([], [])).2
      rw [List.length_append, List.length_singleton]
      simp only [List.length_nil, Nat.zero_add] at this
      omega
    omega
  generalize hdrL (lnsH l) = H at *
  clear hb
  go_enter Try.func4, Try.ntmps4
  go_wp2_with fail
  refine HL.mono ?_
  rintro e w1 ⟨b, cp, rfl, hcp, hcell, hB⟩
  have HB : Hid (Below w.heap.size w w1) := hB
  have HB2 : Hid (∀ g j v, w1.cell? ⟨g, j, none⟩ = some v → g < w1.heap.size) := fun g j v h => lt_of_cellH h
  have HCELL : Hid (H ≠ [] → ∃ g, b = some ⟨g, 0, none⟩ ∧ ∀ j x, H[j]? = some x → w1.cell? ⟨g, j, none⟩ = some (.string (hS x))) := hcell
  clear HL hB hcell
  go_wp2_with fail
  go_loopw [4, 5] (fun nv iv wr => ∃ k : Nat, k ≤ H.length ∧ iv = .int .i64 (k : Int) ∧ nv = .int .i64 (((H.take k).countP rcvH : Nat) : Int) ∧ Hid (Below w1.heap.size w1 wr)) (fun _ iv _ => H.length - (intOf iv).toNat)
  case atStart => exact ⟨0, Nat.zero_le _, rfl, rfl, Below.refl _ _⟩
  case round =>
    obtain ⟨k, hk, rfl, rfl, HBW⟩ := hrel
    by_cases hlt : k < H.length
    · have hltI : (k : Int) < (H.length : Int) := by omega
      obtain ⟨g, rfl, hcell⟩ := HCELL.out (fun e => by rw [e] at hlt; simp at hlt)
      have hq : H[k]? = some H[k] := List.getElem?_eq_getElem hlt
      have hck := (HBW.out.cell (p := ⟨g, k, none⟩) (HB2.out _ _ _ (hcell k H[k] hq))).trans (hcell k H[k] hq)
      have HIS := visof_any (hS H[k]) wr (by rw [hS_size]; have := HSH.out H[k] (List.getElem_mem hlt); omega)
      rw [hS_list] at HIS
      have HTK : Hid ((H.take (k + 1)).countP rcvH = (H.take k).countP rcvH + if rcvH H[k] = true then 1 else 0) := by
        show _ = _
        rw [← List.take_append_getElem hlt, List.countP_append, List.countP_cons, List.countP_nil, Nat.zero_add]
      have hcl : (H.take k).countP rcvH ≤ k := by
        have h1 := List.countP_le_length (p := rcvH) (l := H.take k)
        rw [List.length_take] at h1
        omega
      clear hq hcell
      generalize rcvH H[k] = R at *
      generalize H[k] = y at *
      generalize (H.take k).countP rcvH = N at *
      go_wp2_with fail
      refine HIS.mono ?_
      rintro e w2 ⟨rfl, hB2⟩
      have HBW2 : Hid (Below w1.heap.size w1 w2) := HBW.out.trans (hB2.mono HBW.out.size)
      clear HIS hB2 HBW hck
      cases R with
      | true =>
        go_wp2_with fail
        go_roundw
        case rel => exact ⟨k + 1, by omega, by go_num, by rw [HTK.out]; simp, HBW2.out⟩
        case measure => simp [intOf]; omega
      | false =>
        go_wp2_with fail
        go_roundw
        case rel => exact ⟨k + 1, by omega, by go_num, by rw [HTK.out]; simp, HBW2.out⟩
        case measure => simp [intOf]; omega
    · obtain rfl : k = H.length := by omega
      have hH : (H.take H.length).countP rcvH = hopsH l := by rw [List.take_length]; exact HCO.out
      rw [hH]
      go_wp2_with fail
      go_ret
      exact ⟨rfl, HB.out.trans (HBW.out.mono HB.out.size)⟩
end Go.Proofs.Ythkoionigdnhgaa
