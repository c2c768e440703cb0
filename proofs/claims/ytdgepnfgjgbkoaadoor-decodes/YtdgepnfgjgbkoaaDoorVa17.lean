/-
  A text that is written among others: the plain part.
-/
import Derived.Test.YtdgepnfgjgbkoaaDoorBkP
import Derived.Test.YtdgepnfgjgbkoaaDoorScP
import Derived.Test.YtdgepnfgjgbkoaaDoorSpan4
namespace Go.Proofs.YtdgepnfgjgbkoaaDoor

theorem scan_in (m : Nat) : ∀ (l : List UInt8) (f k : Nat), f ≤ k → k + l.length ≤ m → ∀ p ∈ scan f k l, f ≤ p.1 ∧ p.1 < p.2 ∧ p.2 ≤ m
  | [], f, k, h, hm => by
    intro p hp
    rw [scan_nil] at hp
    simp only [List.length_nil] at hm
    split at hp
    · rw [List.mem_singleton] at hp
      subst hp
      dsimp only
      omega
    · cases hp
  | c :: t, f, k, h, hm => by
    intro p hp
    simp only [List.length_cons] at hm
    rw [scan_cons] at hp
    have h1 := scan_in m t (k + 1) (k + 1) (Nat.le_refl _) (by omega)
    split at hp
    · split at hp
      · rcases List.mem_cons.1 hp with rfl | hp
        · dsimp only; omega
        · have := h1 p hp; omega
      · have := h1 p hp; omega
    · exact scan_in m t f (k + 1) (by omega) (by omega) p hp
theorem cut_left (a r : List UInt8) (f t : Nat) (ht : t ≤ a.length) : cutW (a ++ r) f t = cutW a f t := by
  unfold cutW
  by_cases hf : f ≤ a.length
  · rw [List.drop_append_of_le_length hf, List.take_append_of_le_length (by rw [List.length_drop]; omega)]
  · rw [show t - f = 0 by omega]
    simp
theorem cut_right (a r : List UInt8) (f t : Nat) : cutW (a ++ r) (f + a.length) (t + a.length) = cutW r f t := by
  unfold cutW
  rw [Nat.add_comm f, ← List.drop_drop, List.drop_left, show t + a.length - (a.length + f) = t - f by omega]
theorem need_none {l : List UInt8} (h : needW l = false) : ∀ p ∈ scan 0 0 l, pW (cutW l p.1 p.2) = none := by
  intro p hp
  unfold needW at h
  simp only [Bool.or_eq_false_iff, List.any_eq_false] at h
  rw [wdsA_scan] at h
  have := h.2 p hp
  cases hx : pW (cutW l p.1 p.2) with
  | none => rfl
  | some x => rw [hx] at this; simp at this
theorem dc_skip (l : List UInt8) (R : List (Nat × Nat)) : ∀ (A : List (Nat × Nat)) (out : List UInt8) (done : Nat), (∀ p ∈ A, pW (cutW l p.1 p.2) = none) → dcS l (A ++ R) out done false = dcS l R out done false
  | [], _, _, _ => rfl
  | (f, t) :: A, out, done, h => by
    have h1 := h (f, t) (by simp)
    rw [List.cons_append, dcS, h1]
    exact dc_skip l R A out done (fun p hp => h p (by simp [hp]))
/-- What is written among others is read as it was. -/
theorem dec_among (a s b : List UInt8) (q : Bool) (ha : needW a = false) (hb : needW b = false) (hs : badU s = s.length) (hne : s ≠ []) : decW (a ++ 32 :: (wrT q s ++ 32 :: b)) = (a ++ 32 :: (s ++ 32 :: b), 0, 0) := by
  have hf := bsT_flat q s hs
  have hbs : bsT q s ≠ [] := fun e => by rw [e] at hf; exact hne hf.symm
  unfold decW
  rw [wdsA_scan, scan_app _ 32 (by decide), scan_app _ 32 (by decide)]
  generalize hL : a ++ 32 :: (wrT q s ++ 32 :: b) = L
  have hL1 : L = (a ++ [32]) ++ jnW ((bsT q s).map (wrd q)) ++ (32 :: b) := by rw [← hL, wrT_bs]; simp
  have hL2 : L = (a ++ [32] ++ wrT q s ++ [32]) ++ b := by rw [← hL]; simp
  have hA : ∀ p ∈ scan 0 0 a, pW (cutW L p.1 p.2) = none := fun p hp => by
    have h1 := scan_in a.length a 0 0 (Nat.le_refl _) (by omega) p hp
    rw [← hL, cut_left _ _ _ _ h1.2.2]
    exact need_none ha p hp
  have hB : ∀ p ∈ scan (0 + a.length + 1 + (wrT q s).length + 1) (0 + a.length + 1 + (wrT q s).length + 1) b, pW (cutW L p.1 p.2) = none := fun p hp => by
    have hd : 0 + a.length + 1 + (wrT q s).length + 1 = 0 + (a ++ [32] ++ wrT q s ++ [32]).length := by simp; omega
    rw [hd, scan_shift] at hp
    obtain ⟨p', hp', rfl⟩ := List.mem_map.1 hp
    rw [hL2]
    dsimp only
    rw [cut_right]
    exact need_none hb p' hp'
  rw [dc_skip L _ _ [] 0 hA]
  have hn : (a ++ [32] : List UInt8).length = 0 + a.length + 1 := by simp
  have := dc_bs q L (scan (0 + a.length + 1 + (wrT q s).length + 1) (0 + a.length + 1 + (wrT q s).length + 1) b) (32 :: b) (bsT q s) (a ++ [32]) hbs (fun x hx => (bsT_good q s x hx).1) hL1 [] 0 false
  rw [← wrT_bs, hn] at this
  rw [this, hf, dc_none L _ _ _ _ hB]
  have e1 : cutW L 0 (0 + a.length + 1) = a ++ [32] := by
    rw [hL1, List.append_assoc, ← hn, cut_left _ _ _ _ (Nat.le_refl _)]
    unfold cutW
    rw [List.drop_zero, Nat.sub_zero, List.take_length]
  have e2 : L.drop (0 + a.length + 1 + (wrT q s).length) = 32 :: b := by
    rw [hL1, ← wrT_bs, ← hn, ← List.length_append, List.drop_left]
  rw [e1, e2]
  simp
theorem dec_among_enc (a s b : List UInt8) (sh : Bool) (ha : needW a = false) (hb : needW b = false) (hs : badU s = s.length) (hne : s ≠ []) : decW (a ++ 32 :: (encW s sh ++ 32 :: b)) = (a ++ 32 :: (s ++ 32 :: b), 0, 0) := by
  unfold encW
  rw [if_neg (by omega)]
  split
  · exact dec_among a s b true ha hb hs hne
  · exact dec_among a s b false ha hb hs hne
end Go.Proofs.YtdgepnfgjgbkoaaDoor
/-
  Texts in small letters, charsets' names, two digits: the plain part of the document's reading.
-/
namespace Go.Proofs.YtdgepnfgjgbkoaaDoor

def smB (c : UInt8) : UInt8 := if 65 ≤ c.toNat ∧ c.toNat ≤ 90 then UInt8.ofNat (c.toNat + 32) else c
def sml (s : List UInt8) : List UInt8 := s.map smB
/-- Small letters and capitals say the same. -/
theorem sm_up (b : UInt8) (hb : b ∈ [(117 : UInt8), 116, 102, 45, 56, 115, 97, 99, 105, 111, 53, 57, 49, 98, 113]) (c : UInt8) : smB c = b ↔ upB c = upB b := by
  have : ∀ b ∈ [(117 : UInt8), 116, 102, 45, 56, 115, 97, 99, 105, 111, 53, 57, 49, 98, 113], ∀ i : Fin 256, (smB (UInt8.ofNat i.val) = b ↔ upB (UInt8.ofNat i.val) = upB b) := by decide +kernel
  have h := this b hb ⟨c.toNat, c.toNat_lt⟩
  simpa using h
theorem sml_up : ∀ (t l : List UInt8), (∀ b ∈ t, b ∈ [(117 : UInt8), 116, 102, 45, 56, 115, 97, 99, 105, 111, 53, 57, 49, 98, 113]) → (sml l = t ↔ upL l = upL t)
  | [], [], _ => by simp [sml, upL]
  | [], a :: l, _ => by simp [sml, upL]
  | b :: t, [], _ => by simp [sml, upL]
  | b :: t, a :: l, h => by
    have h1 := sm_up b (h b (by simp)) a
    have h2 := sml_up t l (fun x hx => h x (by simp [hx]))
    simp only [sml, upL, List.map_cons, List.cons.injEq] at h2 ⊢
    rw [h1, h2]
def snU : List UInt8 := [117, 116, 102, 45, 56]
def snA : List UInt8 := [117, 115, 45, 97, 115, 99, 105, 105]
def snI : List UInt8 := [105, 115, 111, 45, 56, 56, 53, 57, 45, 49]
theorem sn_u (l : List UInt8) : sml l = snU ↔ upL l = nmU := sml_up snU l (by decide)
theorem sn_a (l : List UInt8) : sml l = snA ↔ upL l = nmA := sml_up snA l (by decide)
theorem sn_i (l : List UInt8) : sml l = snI ↔ upL l = nmI := sml_up snI l (by decide)
theorem sn_b (l : List UInt8) : sml l = [98] ↔ upL l = [66] := sml_up [98] l (by decide)
theorem sn_no (l : List UInt8) : (csNo l = 1 ↔ sml l = snU) ∧ (csNo l = 2 ↔ sml l = snA) ∧ (csNo l = 3 ↔ sml l = snI) := by
  have h1 := sn_u l
  have h2 := sn_a l
  have h3 := sn_i l
  have n1 : nmU ≠ nmA := by decide
  have n2 : nmU ≠ nmI := by decide
  have n3 : nmA ≠ nmI := by decide
  unfold csNo
  by_cases c1 : upL l = nmU
  · rw [if_pos c1, h1, h2, h3, c1]
    exact ⟨by simp, by simp [n1], by simp [n2]⟩
  · rw [if_neg c1]
    by_cases c2 : upL l = nmA
    · rw [if_pos c2, h1, h2, h3, c2]
      exact ⟨by simp [n1.symm], by simp, by simp [n3]⟩
    · rw [if_neg c2]
      by_cases c3 : upL l = nmI
      · rw [if_pos c3, h1, h2, h3, c3]
        exact ⟨by simp [n2.symm], by simp [n3.symm], by simp⟩
      · rw [if_neg c3, h1, h2, h3]
        exact ⟨by simp [c1], by simp [c2], by simp [c3]⟩
theorem csNo_lt (l : List UInt8) : csNo l = 0 ∨ csNo l = 1 ∨ csNo l = 2 ∨ csNo l = 3 := by
  unfold csNo
  split
  · simp
  · split
    · simp
    · split <;> simp
/-- The place of a small digit among the digits; below 0: it is none. -/
def hxI (c : UInt8) : Int := Lib.indexByte [48, 49, 50, 51, 52, 53, 54, 55, 56, 57, 97, 98, 99, 100, 101, 102] (smB c)
theorem hx_is (c : UInt8) : (0 ≤ hxI c ↔ isB 4 (c.toNat : Int) = true) ∧ hxI c ≤ 15 ∧ -1 ≤ hxI c := by
  have := u8_all (p := fun c => decide ((0 ≤ hxI c ↔ isB 4 (c.toNat : Int) = true) ∧ hxI c ≤ 15 ∧ -1 ≤ hxI c)) (by decide +kernel) c
  exact of_decide_eq_true this
theorem hx_bad (a b : UInt8) : badN 4 [a, b] = 2 ↔ (0 ≤ hxI a ∧ 0 ≤ hxI b) := by
  rw [(hx_is a).1, (hx_is b).1]
  unfold badN
  by_cases h1 : isB 4 (a.toNat : Int) = true
  · rw [if_pos h1]
    unfold badN
    by_cases h2 : isB 4 (b.toNat : Int) = true
    · rw [if_pos h2]; simp [badN, h1, h2]
    · rw [if_neg h2]; simp [h2]
  · rw [if_neg h1]; simp [h1]
end Go.Proofs.YtdgepnfgjgbkoaaDoor
/-
  The document's small: a text in small letters.
-/
namespace Go.Proofs.YtdgepnfgjgbkoaaDoor
open Go.RowKit

def smS (s : ByteArray) : ByteArray := ⟨(sml s.data.toList).toArray⟩
theorem smB_no (b : UInt8) (h : ¬ (65 ≤ b.toNat ∧ b.toNat ≤ 90)) : smB b = b := if_neg h
theorem smB_yes (b : UInt8) (h1 : 65 ≤ b.toNat) (h2 : b.toNat ≤ 90) : (smB b).toNat = b.toNat + 32 := by
  unfold smB
  rw [if_pos ⟨h1, h2⟩]
  simp
  omega
/-- The first k bytes in small letters, the others as they are: the byte at j. -/
def smAt (l : List UInt8) (k j : Nat) : UInt8 := if j < k then smB (l.getD j 0) else l.getD j 0
theorem smAt_zero (l : List UInt8) (j : Nat) : smAt l 0 j = l.getD j 0 := by simp [smAt]
theorem smAt_self (l : List UInt8) (k : Nat) : smAt l k k = l.getD k 0 := by simp [smAt]
theorem smAt_step (l : List UInt8) (k : Nat) : smAt l (k + 1) k = smB (l.getD k 0) := by simp [smAt]
theorem smAt_other (l : List UInt8) (k j : Nat) (h : j ≠ k) : smAt l (k + 1) j = smAt l k j := by
  unfold smAt
  by_cases h1 : j < k
  · rw [if_pos h1, if_pos (by omega)]
  · rw [if_neg h1, if_neg (by omega)]
theorem smAt_all (l : List UInt8) (n j : Nat) (hn : n = l.length) (h : j < (sml l).length) : smAt l n j = (sml l)[j] := by
  have h' : j < l.length := by simpa [sml] using h
  subst hn
  simp [smAt, sml, h', List.getD_eq_getElem?_getD]
/-- The bytes in the new row, when k of them are done. -/
structure SmRel (s : ByteArray) (B : Nat) (w : World) (k : Nat) (wr : World) : Prop where
  cell : ∀ j, j < s.size → wr.cell? ⟨B, j, none⟩ = some (.int .u8 ((smAt s.data.toList k j).toNat : Int))
  free : ∀ j, j < s.size → wr.frozen? ⟨B, j, none⟩ = false
  below : Below B w wr

theorem SmRel.same {s : ByteArray} {B : Nat} {w wr : World} {k : Nat} (h : SmRel s B w k wr) (hn : ¬ (65 ≤ (s.data.toList.getD k 0).toNat ∧ (s.data.toList.getD k 0).toNat ≤ 90)) : SmRel s B w (k + 1) wr := by
  refine ⟨fun j hj => ?_, h.free, h.below⟩
  rw [h.cell j hj]
  by_cases e : j = k
  · subst e
    rw [smAt_self, smAt_step, smB_no _ hn]
  · rw [smAt_other _ _ _ e]

theorem SmRel.put {s : ByteArray} {B : Nat} {w wr : World} {k : Nat} (h : SmRel s B w k wr) (hk : k < s.size) (h1 : 65 ≤ (s.data.toList.getD k 0).toNat) (h2 : (s.data.toList.getD k 0).toNat ≤ 90) :
    SmRel s B w (k + 1) (wr.setCell ⟨B, k, none⟩ (.int .u8 (((s.data.toList.getD k 0).toNat : Int) - 65 + 97))) := by
  refine ⟨fun j hj => ?_, fun j hj => ?_, h.below.setCell (Nat.le_refl _) _⟩
  · by_cases e : j = k
    · subst e
      rw [World.cell?_setCell_same _ _ _ (h.cell j hj), smAt_step, smB_yes _ h1 h2]
      congr 2
      omega
    · rw [World.cell?_setCell_other _ _ _ _ (by intro h'; injection h' with _ h'; omega), h.cell j hj, smAt_other _ _ _ e]
  · rw [World.frozen?_setCell]
    exact h.free j hj

theorem SmRel.start (s : ByteArray) (w : World) (cap : Nat) (n : Nat) (hn : n = (bytesRow s cap).size) : SmRel s w.heap.size w 0 (w.alloc (.cells (bytesRow s cap) 5 (n, n + 1))).drew := by
  refine ⟨fun j hj => ?_, fun j hj => ?_, ((Below.refl _ _).alloc (Nat.le_refl _) _).drew⟩
  · have := World.cell?_alloc_mark w (bytesRow s cap) 5 (n, n + 1) j
    rw [bytesRow_at s cap j hj] at this
    rw [smAt_zero]
    refine Eq.trans this ?_
    rw [List.getD_eq_getElem?_getD, Array.getElem?_toList, Array.getElem?_eq_getElem hj, Option.getD_some]
  · have := World.frozen?_alloc_mark w (bytesRow s cap) 5 n (n + 1) j
    refine Eq.trans this ?_
    have h2 := bytes_lt s cap
    have h3 : s.size = s.data.size := rfl
    rw [decide_eq_false (by omega), Bool.false_and]

theorem SmRel.back {s : ByteArray} {B : Nat} {w wr : World} (h : SmRel s B w s.size wr) (cap : Nat) :
    (convert 38 9 (.slice (some ⟨B, 0, none⟩) s.size cap)).run Tryd.prog wr = .ok (.string (smS s)) wr := by
  have hl : (sml s.data.toList).length = s.size := by rw [sml, List.length_map, Array.length_toList]; rfl
  have := run_convert_bytes_back (P := Tryd.prog) wr 38 9 5 ⟨B, 0, none⟩ cap (sml s.data.toList) Tryd.underlying38 Tryd.underlying5 Tryd.underlying9 (fun j hj => by
    have hj' : j < s.size := by omega
    have he : (⟨B, 0, none⟩ : Addr).add j = ⟨B, j, none⟩ := by rw [Addr.add_lit, Nat.zero_add]
    rw [he, h.cell j hj']
    rw [smAt_all s.data.toList s.size j (by rw [Array.length_toList]; rfl) hj])
  rw [hl] at this
  exact this

theorem SmRel.put2 {s : ByteArray} {B : Nat} {w wr : World} {k : Nat} (h : SmRel s B w k wr) (hk : k < s.size) (h1 : 65 ≤ (s.data.toList.getD k 0).toNat) (h2 : (s.data.toList.getD k 0).toNat ≤ 90) :
    SmRel s B w (k + 1) (wr.setCell ⟨B, k, none⟩ (.int .u8 (((s.data.toList.getD k 0).toNat : Int) + 32))) := by
  have := h.put hk h1 h2
  rw [show ((s.data.toList.getD k 0).toNat : Int) - 65 + 97 = ((s.data.toList.getD k 0).toNat : Int) + 32 from by omega] at this
  exact this
set_option maxRecDepth 100000 in
set_option maxHeartbeats 1000000 in
theorem vsmall_any (s : ByteArray) (w : World) (hs : s.size ≤ maxLen) :
    Calls Tryd.prog 54 #[.string s] w fun e w' => e = .returned (.string (smS s)) ∧ Below w.heap.size w w' := by
  unfold maxLen at hs
  have hconv := run_bytes_of_string (P := Tryd.prog) w 9 38 5 s Tryd.underlying9 Tryd.underlying38 Tryd.underlying5
  obtain ⟨cap, hcap⟩ : ∃ c, c = grownCap w s.size 0 5 := ⟨_, rfl⟩
  rw [← hcap] at hconv
  obtain ⟨n, hn⟩ : ∃ n, n = (bytesRow s cap).size := ⟨_, rfl⟩
  rw [← hn] at hconv
  have HR : Hid (SmRel s w.heap.size w 0 (w.alloc (.cells (bytesRow s cap) 5 (n, n + 1))).drew) := SmRel.start s w cap n hn
  clear hcap hn
  go_enter Tryd.func54, Tryd.ntmps54
  go_wp2
  go_loopw [9] (fun i wr => ∃ k : Nat, k ≤ s.size ∧ i = .int .i64 k ∧ Hid (SmRel s w.heap.size w k wr)) (fun i _ => s.size - (intOf i).toNat)
  case atStart => exact ⟨0, Nat.zero_le _, rfl, HR⟩
  case round =>
    obtain ⟨k, hk, rfl, HK⟩ := hrel
    by_cases hlt : k < s.size
    · have hc := HK.out.cell k hlt
      have hf := HK.out.free k hlt
      rw [smAt_self] at hc
      obtain ⟨x, hx⟩ : ∃ x : UInt8, x = s.data.toList.getD k 0 := ⟨_, rfl⟩
      rw [← hx] at hc
      have HX : Hid (x = s.data.toList.getD k 0) := hx
      clear hx
      have hx1 : x.toNat < 256 := x.toNat_lt
      by_cases h1 : 65 ≤ x.toNat
      · by_cases h2 : x.toNat ≤ 90
        · have HN : Hid (SmRel s w.heap.size w (k + 1) (wr.setCell ⟨w.heap.size, k, none⟩ (.int .u8 ((x.toNat : Int) + 32)))) := by
            have := HK.out.put2 hlt (by rw [← HX.out]; exact h1) (by rw [← HX.out]; exact h2)
            rw [← HX.out] at this
            exact this
          clear HK
          go_wp2
          go_roundw
          case rel => exact ⟨k + 1, by omega, by go_num, HN⟩
          case measure => simp [intOf]; omega
        · have HN : Hid (SmRel s w.heap.size w (k + 1) wr) := HK.out.same (by rw [← HX.out]; omega)
          clear HK
          go_wp2
          go_roundw
          case rel => exact ⟨k + 1, by omega, by go_num, HN⟩
          case measure => simp [intOf]; omega
      · have HN : Hid (SmRel s w.heap.size w (k + 1) wr) := HK.out.same (by rw [← HX.out]; omega)
        clear HK
        go_wp2
        go_roundw
        case rel => exact ⟨k + 1, by omega, by go_num, HN⟩
        case measure => simp [intOf]; omega
    · have he : k = s.size := by omega
      subst he
      have hback := HK.out.back cap
      have HB : Hid (Below w.heap.size w wr) := HK.out.below
      clear HK
      go_wp2
      go_ret
      exact ⟨rfl, HB.out⟩
end Go.Proofs.YtdgepnfgjgbkoaaDoor
