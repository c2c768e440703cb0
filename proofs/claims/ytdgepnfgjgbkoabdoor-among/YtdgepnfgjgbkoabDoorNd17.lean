/-
  The document's Is: is a part an encoded word?
-/
import Derived.Test.YtdgepnfgjgbkoabDoorVp17
import Derived.Test.YtdgepnfgjgbkoabDoorNdP
namespace Go.Proofs.YtdgepnfgjgbkoabDoor
open Go.RowKit
set_option maxRecDepth 100000 in
theorem vis_any (a : Int) (s : ByteArray) (g : Bool) (hs : s.size ≤ 4294967000) (w : World) :
    Calls Tryd.prog 11 #[.agg #[.int .i64 a, .string s, .bool g]] w fun e w' => e = .returned (.bool ((vP s.data.toList).isSome && !g)) ∧ Below w.heap.size w w' := by
  have HP : Hid (∀ wx, Calls Tryd.prog 19 #[.string s] wx fun e w' => VpE s.data.toList e ∧ Below wx.heap.size wx w') := fun wx => vparts_any s hs wx
  go_enter Tryd.func11, Tryd.ntmps11
  go_wp2_with fail
  have hB1 : Below w.heap.size w (w.alloc (.cells #[.int .i64 a, .string s, .bool g] 36)) := (Below.refl _ _).alloc (Nat.le_refl _) _
  have HL1 : Hid (Lies (w.alloc (.cells #[.int .i64 a, .string s, .bool g] 36)) w.heap.size #[.int .i64 a, .string s, .bool g] 36) := Lies.new w _ _
  refine (HP.out _).mono ?_
  rintro e w2 ⟨⟨A, B, C, bb, rfl, hv, -⟩, hb2⟩
  have HV : Hid (bb = (vP s.data.toList).isSome) := hv
  have HL2 : Hid (Lies w2 w.heap.size #[.int .i64 a, .string s, .bool g] 36) := HL1.out.below hb2 HL1.out.lt
  have HB2 : Hid (Below w.heap.size w w2) := hB1.trans (hb2.mono hB1.size)
  have c2 := HL2.out.cell 2
  simp only [List.getElem?_toArray, List.getElem?_cons_zero, List.getElem?_cons_succ] at c2
  clear hv hb2 hB1 HP
  cases bb <;> cases g
  all_goals
    go_wp2_with fail
    go_ret
    exact ⟨by rw [← HV.out]; rfl, HB2.out⟩
end Go.Proofs.YtdgepnfgjgbkoabDoor
/-
  The document's Split.
-/
namespace Go.Proofs.YtdgepnfgjgbkoabDoor
open Go.RowKit

theorem Ow.set_at {α : Type} {cel : α → List Value} {t k : Nat} {w : World} {g n c : Nat} {l : List α} (h : Ow cel t k w (.slice (some ⟨g, 0, none⟩) n c) l) (i : Nat) (x : Value) (l' : List α) (hl : l'.length = l.length) (he : (l.flatMap cel).set i x = l'.flatMap cel) : Ow cel t k (w.setCell ⟨g, i, none⟩ x) (.slice (some ⟨g, 0, none⟩) n c) l' := by
  obtain ⟨h1, ⟨h2, _⟩ | ⟨g', cap, cur, h2, h3, h4, h5, h6, h7, h8⟩⟩ := h
  · cases h2
  · cases h2
    have hL : Lies w g cur t := h4
    have hS := hL.set i x
    refine ⟨by rw [← he, List.length_set, hl]; exact h1, .inr ⟨g, c, cur.setIfInBounds i x, by rw [hl], h3, hS, by rw [hl]; exact h5, h6, by rw [Array.size_setIfInBounds]; exact h7, ?_⟩⟩
    rw [Array.toList_setIfInBounds, List.take_set, hl, h8, he]
abbrev VPt := Nat × ByteArray × Bool
def celP (x : VPt) : List Value := [.int .i64 (x.1 : Int), .string x.2.1, .bool x.2.2]
theorem celP_len (x : VPt) : (celP x).length = 3 := rfl
def vbk (s : ByteArray) (k : Nat) : Bool := blk (s.data.toList.getD k 0)
/-- The words and gaps of the first k bytes. -/
def vS (s : ByteArray) : Nat → List VPt
  | 0 => []
  | k + 1 => match (vS s k).getLast? with
    | none => vS s k ++ [(k, s.extract k (k + 1), vbk s k)]
    | some y => if y.2.2 = vbk s k then (vS s k).dropLast ++ [(y.1, y.2.1 ++ s.extract k (k + 1), y.2.2)] else vS s k ++ [(k, s.extract k (k + 1), vbk s k)]
theorem vS_nil {s : ByteArray} {k : Nat} (h : vS s k = []) : vS s (k + 1) = vS s k ++ [(k, s.extract k (k + 1), vbk s k)] := by
  rw [vS, h]; rfl
theorem vS_new {s : ByteArray} {k : Nat} {M : List VPt} {y : VPt} (h : vS s k = M ++ [y]) (hy : y.2.2 ≠ vbk s k) : vS s (k + 1) = vS s k ++ [(k, s.extract k (k + 1), vbk s k)] := by
  rw [vS, h, List.getLast?_concat]
  exact if_neg hy
theorem vS_on {s : ByteArray} {k : Nat} {M : List VPt} {y : VPt} (h : vS s k = M ++ [y]) (hy : y.2.2 = vbk s k) : vS s (k + 1) = M ++ [(y.1, y.2.1 ++ s.extract k (k + 1), y.2.2)] := by
  rw [vS, h, List.getLast?_concat]
  dsimp only
  rw [if_pos hy, List.dropLast_concat]
theorem vS_cases (s : ByteArray) (k : Nat) : vS s k = [] ∨ ∃ M y, vS s k = M ++ [y] := by
  rcases List.eq_nil_or_concat (vS s k) with h | ⟨M, y, h⟩
  · exact .inl h
  · exact .inr ⟨M, y, by rw [h, List.concat_eq_append]⟩
theorem vS_len (s : ByteArray) : ∀ k, (vS s k).length ≤ k
  | 0 => Nat.le_refl _
  | k + 1 => by
    have ih := vS_len s k
    rcases vS_cases s k with h | ⟨M, y, h⟩
    · rw [vS_nil h]; simp; omega
    · by_cases hy : y.2.2 = vbk s k
      · rw [vS_on h hy]; rw [h] at ih; simp at ih ⊢; omega
      · rw [vS_new h hy]; simp; omega
theorem ext_le (s : ByteArray) (k : Nat) : (s.extract k (k + 1)).size ≤ 1 := by
  rw [ByteArray.size_extract]; omega
theorem vS_size (s : ByteArray) : ∀ k, ∀ x ∈ vS s k, x.2.1.size ≤ k
  | 0, x, hx => by cases hx
  | k + 1, x, hx => by
    have ih := vS_size s k
    have he := ext_le s k
    rcases vS_cases s k with h | ⟨M, y, h⟩
    · rw [vS_nil h] at hx
      rcases List.mem_append.1 hx with hx | hx
      · have := ih x hx; omega
      · rw [List.mem_singleton] at hx; subst hx; show (s.extract k (k + 1)).size ≤ _; omega
    · by_cases hy : y.2.2 = vbk s k
      · rw [vS_on h hy] at hx
        rcases List.mem_append.1 hx with hx | hx
        · have := ih x (by rw [h]; simp [hx]); omega
        · rw [List.mem_singleton] at hx
          subst hx
          have := ih y (by rw [h]; simp)
          show (y.2.1 ++ s.extract k (k + 1)).size ≤ _
          rw [ByteArray.size_append]
          omega
      · rw [vS_new h hy] at hx
        rcases List.mem_append.1 hx with hx | hx
        · have := ih x hx; omega
        · rw [List.mem_singleton] at hx; subst hx; show (s.extract k (k + 1)).size ≤ _; omega
theorem celP_set (M : List VPt) (y : VPt) (T : ByteArray) : ((M ++ [y]).flatMap celP).set (M.length * 3 + 1) (.string T) = (M ++ [(y.1, T, y.2.2)]).flatMap celP := by
  have hl : (M.flatMap celP).length = M.length * 3 := flat_length celP_len M
  rw [List.flatMap_append, List.flatMap_append, List.set_append, if_neg (by omega), hl, Nat.add_sub_cancel_left]
  rfl
theorem celP_at (M : List VPt) (y : VPt) (i : Nat) (hi : i < 3) : ((M ++ [y]).flatMap celP)[M.length * 3 + i]? = (celP y)[i]? := by
  have hl : (M.flatMap celP).length = M.length * 3 := flat_length celP_len M
  rw [List.flatMap_append, List.getElem?_append_right (by omega), hl, Nat.add_sub_cancel_left]
  simp
end Go.Proofs.YtdgepnfgjgbkoabDoor
/-
  The document's parts and the words.
-/
namespace Go.Proofs.YtdgepnfgjgbkoabDoor

def ptx (x : VPt) : List UInt8 := x.2.1.data.toList
theorem vfrm_le (l : List UInt8) : ∀ k, frm l k ≤ k
  | 0 => Nat.le_refl _
  | k + 1 => by
    have := vfrm_le l k
    rw [frm_suc]
    split <;> omega
theorem cutW_suc {l : List UInt8} {f k : Nat} (hf : f ≤ k) (hk : k < l.length) : cutW l f (k + 1) = cutW l f k ++ [l[k]] := by
  unfold cutW
  rw [show k + 1 - f = (k - f) + 1 from by omega, List.take_add_one, List.getElem?_drop, show f + (k - f) = k from by omega, List.getElem?_eq_getElem hk]
  rfl
theorem cutW_one {l : List UInt8} {k : Nat} (hk : k < l.length) : cutW l k (k + 1) = [l[k]] := by
  rw [cutW_suc (Nat.le_refl _) hk]
  simp [cutW]
theorem ext_one {s : ByteArray} {k : Nat} (hk : k < s.data.toList.length) : (s.extract k (k + 1)).data.toList = [s.data.toList[k]] := by
  rw [ext_cut, cutW_one hk]
theorem vbk_at {s : ByteArray} {k : Nat} (hk : k < s.data.toList.length) : vbk s k = blk s.data.toList[k] := by
  unfold vbk
  rw [List.getD_eq_getElem?_getD, List.getElem?_eq_getElem hk, Option.getD_some]
theorem stop_at {l : List UInt8} {k : Nat} (hk : k < l.length) : stopAt l k = blk l[k] := by
  unfold stopAt
  rw [List.getElem?_eq_getElem hk]
def wtx (L : List VPt) : List (List UInt8) := (L.filter fun x => !x.2.2).map ptx
theorem wtx_app (A B : List VPt) : wtx (A ++ B) = wtx A ++ wtx B := by simp [wtx]
/-- The parts of the first k bytes and the words that end ahead of k, with the one under way. -/
structure Vi (s : ByteArray) (k : Nat) : Prop where
  ws : wtx (vS s k) = (wds s.data.toList k).map (fun p => cutW s.data.toList p.1 p.2) ++ (if frm s.data.toList k < k then [cutW s.data.toList (frm s.data.toList k) k] else [])
  la : ∀ M y, vS s k = M ++ [y] → (y.2.2 = false ↔ frm s.data.toList k < k)
  nl : vS s k = [] → frm s.data.toList k = k
  gp : ∀ x ∈ vS s k, x.2.2 = true → ∃ c t, ptx x = c :: t ∧ blk c = true
  fr : ∀ x ∈ vS s k, x.2.2 = false → ∀ c ∈ ptx x, blk c = false
theorem Vi.zero (s : ByteArray) : Vi s 0 := ⟨rfl, fun M y h => (by simp [vS] at h), fun _ => rfl, fun x hx => (by cases hx), fun x hx => (by cases hx)⟩
theorem mem_snoc {M : List VPt} {y x : VPt} (h : x ∈ M ++ [y]) : x ∈ M ∨ x = y := by simpa using h
theorem Vi.new {s : ByteArray} {k : Nat} (H : Vi s k) (hk : k < s.data.toList.length) (hst : vS s (k + 1) = vS s k ++ [(k, s.extract k (k + 1), vbk s k)]) (hd : frm s.data.toList k < k → vbk s k = true) : Vi s (k + 1) := by
  have hv := vbk_at hk
  have hs := stop_at hk
  have hx := ext_one hk
  have hfl := vfrm_le s.data.toList k
  rw [← hv] at hs
  cases hb : vbk s k with
  | true =>
    rw [hb] at hs hst
    have hf : frm s.data.toList (k + 1) = k + 1 := by rw [frm_suc, if_pos hs]
    refine ⟨?_, fun M y h => ?_, fun h => (by rw [hst] at h; simp at h), fun x hx' => ?_, fun x hx' => ?_⟩
    · rw [hst, wtx_app, H.ws, hf, if_neg (show ¬ k + 1 < k + 1 from by omega), wds_suc]
      by_cases h : frm s.data.toList k < k
      · rw [if_pos h, if_pos ⟨hs, h⟩]; simp [wtx]
      · rw [if_neg h, if_neg (fun h2 => h h2.2)]; simp [wtx]
    · rw [hst] at h
      have := List.append_inj_right' h rfl
      cases this
      rw [hf]
      simp
    · rw [hst] at hx'
      rcases mem_snoc hx' with h | rfl
      · exact H.gp x h
      · intro _
        exact ⟨_, [], hx, by rw [← hv]; exact hb⟩
    · rw [hst] at hx'
      rcases mem_snoc hx' with h | rfl
      · exact H.fr x h
      · intro h; cases h
  | false =>
    rw [hb] at hs hst
    have hn : ¬ frm s.data.toList k < k := fun h => by rw [hd h] at hb; cases hb
    have hfk : frm s.data.toList k = k := by omega
    have hf : frm s.data.toList (k + 1) = k := by rw [frm_suc, if_neg (by rw [hs]; decide), hfk]
    refine ⟨?_, fun M y h => ?_, fun h => (by rw [hst] at h; simp at h), fun x hx' => ?_, fun x hx' => ?_⟩
    · rw [hst, wtx_app, H.ws, hf, if_pos (show k < k + 1 from by omega), if_neg hn, wds_suc, if_neg (fun h2 => by rw [hs] at h2; cases h2.1), cutW_one hk, List.append_nil]
      have e : wtx [(k, s.extract k (k + 1), false)] = [[s.data.toList[k]]] := by
        show [(s.extract k (k + 1)).data.toList] = _
        rw [hx]
      rw [e]
    · rw [hst] at h
      have := List.append_inj_right' h rfl
      cases this
      rw [hf]
      simp
    · rw [hst] at hx'
      rcases mem_snoc hx' with h | rfl
      · exact H.gp x h
      · intro h; cases h
    · rw [hst] at hx'
      rcases mem_snoc hx' with h | rfl
      · exact H.fr x h
      · intro _ c hc
        have hc : c ∈ (s.extract k (k + 1)).data.toList := hc
        rw [hx, List.mem_singleton] at hc
        rw [hc, ← hv]
        exact hb
theorem Vi.on {s : ByteArray} {k : Nat} (H : Vi s k) (hk : k < s.data.toList.length) {M : List VPt} {y : VPt} (he : vS s k = M ++ [y]) (hy : y.2.2 = vbk s k) : Vi s (k + 1) := by
  have hst := vS_on he hy
  have hv := vbk_at hk
  have hs := stop_at hk
  have hx := ext_one hk
  have hfl := vfrm_le s.data.toList k
  have hla := H.la M y he
  have hpt : ptx (y.1, y.2.1 ++ s.extract k (k + 1), y.2.2) = ptx y ++ [s.data.toList[k]] := by
    show (y.2.1 ++ s.extract k (k + 1)).data.toList = _
    rw [← hx]
    simp [ptx]
  have hws := H.ws
  rw [he, wtx_app] at hws
  rw [← hv] at hs
  cases hb : vbk s k with
  | true =>
    rw [hb] at hs hy
    have hf : frm s.data.toList (k + 1) = k + 1 := by rw [frm_suc, if_pos hs]
    have hn : ¬ frm s.data.toList k < k := fun h => by rw [hla.2 h] at hy; cases hy
    refine ⟨?_, fun M' y' h => ?_, fun h => (by rw [hst] at h; simp at h), fun x hx' => ?_, fun x hx' => ?_⟩
    · rw [if_neg hn] at hws
      rw [hst, wtx_app, hf, if_neg (show ¬ k + 1 < k + 1 from by omega), wds_suc, if_neg (fun h2 => hn h2.2), ← hws]
      simp [wtx, hy]
    · rw [hst] at h
      have := List.append_inj_right' h rfl
      cases this
      rw [hf]
      simp [hy]
    · rw [hst] at hx'
      rcases mem_snoc hx' with h | rfl
      · exact H.gp x (by rw [he]; simp [h])
      · intro _
        obtain ⟨c, t, e, hc⟩ := H.gp y (by rw [he]; simp) hy
        exact ⟨c, t ++ [s.data.toList[k]], by rw [hpt, e]; rfl, hc⟩
    · rw [hst] at hx'
      rcases mem_snoc hx' with h | rfl
      · exact H.fr x (by rw [he]; simp [h])
      · intro h
        have h : y.2.2 = false := h
        rw [hy] at h
        cases h
  | false =>
    rw [hb] at hs hy
    have hlt := hla.1 hy
    have hf : frm s.data.toList (k + 1) = frm s.data.toList k := by rw [frm_suc, if_neg (by rw [hs]; decide)]
    refine ⟨?_, fun M' y' h => ?_, fun h => (by rw [hst] at h; simp at h), fun x hx' => ?_, fun x hx' => ?_⟩
    · rw [if_pos hlt] at hws
      have e1 : wtx [y] = [ptx y] := by simp [wtx, hy]
      rw [e1] at hws
      have h2 := List.append_inj' hws rfl
      have h3 : ptx y = cutW s.data.toList (frm s.data.toList k) k := by simpa using h2.2
      rw [hst, wtx_app, hf, if_pos (show frm s.data.toList k < k + 1 from by omega), wds_suc, if_neg (fun h2 => by rw [hs] at h2; cases h2.1), cutW_suc hfl hk, ← h2.1, ← h3, ← hpt]
      simp [wtx, hy]
    · rw [hst] at h
      have := List.append_inj_right' h rfl
      cases this
      rw [hf]
      simp [hy]
      omega
    · rw [hst] at hx'
      rcases mem_snoc hx' with h | rfl
      · exact H.gp x (by rw [he]; simp [h])
      · intro h
        have h : y.2.2 = true := h
        rw [hy] at h
        cases h
    · rw [hst] at hx'
      rcases mem_snoc hx' with h | rfl
      · exact H.fr x (by rw [he]; simp [h])
      · intro _ c hc
        rw [hpt] at hc
        rcases List.mem_append.1 hc with hc | hc
        · exact H.fr y (by rw [he]; simp) hy c hc
        · rw [List.mem_singleton] at hc
          rw [hc, ← hv]
          exact hb
theorem Vi.all (s : ByteArray) : ∀ k, k ≤ s.data.toList.length → Vi s k
  | 0, _ => Vi.zero s
  | k + 1, h => by
    have H := Vi.all s k (by omega)
    rcases vS_cases s k with he | ⟨M, y, he⟩
    · exact H.new (by omega) (vS_nil he) (fun h2 => by have := H.nl he; omega)
    · by_cases hy : y.2.2 = vbk s k
      · exact H.on (by omega) he hy
      · have hla := H.la M y he
        refine H.new (by omega) (vS_new he hy) (fun h2 => ?_)
        have := hla.2 h2
        cases hb : vbk s k with
        | true => rfl
        | false => exact absurd (this.trans hb.symm) hy
/-- The words of a text are its parts that are no gaps. -/
theorem wtx_all (s : ByteArray) : wtx (vS s s.size) = (wdsA s.data.toList).map (fun p => cutW s.data.toList p.1 p.2) := by
  have hl : s.data.toList.length = s.size := by rw [Array.length_toList]; rfl
  have H := Vi.all s s.size (by omega)
  rw [H.ws, wdsA, hl, wds_suc]
  have hs : stopAt s.data.toList s.size = true := by unfold stopAt; rw [List.getElem?_eq_none (by omega)]
  by_cases h : frm s.data.toList s.size < s.size
  · rw [if_pos h, if_pos ⟨hs, h⟩]; simp
  · rw [if_neg h, if_neg (fun h2 => h h2.2)]; simp
/-- Has a text a part that is an encoded word? -/
theorem any_all (s : ByteArray) : ((vS s s.size).any fun x => (vP (ptx x)).isSome && !x.2.2) = (wdsA s.data.toList).any fun p => (pW (cutW s.data.toList p.1 p.2)).isSome := by
  have hl : s.data.toList.length = s.size := by rw [Array.length_toList]; rfl
  have H := Vi.all s s.size (by omega)
  have e1 : ((wdsA s.data.toList).any fun p => (pW (cutW s.data.toList p.1 p.2)).isSome) = (wtx (vS s s.size)).any fun t => (pW t).isSome := by
    rw [wtx_all, List.any_map]; rfl
  rw [e1]
  unfold wtx
  rw [List.any_map, List.any_filter]
  refine Bool.eq_iff_iff.2 ?_
  simp only [List.any_eq_true]
  constructor
  · rintro ⟨x, hx, h⟩
    refine ⟨x, hx, ?_⟩
    cases hg : x.2.2 with
    | true => rw [hg] at h; simp at h
    | false =>
      rw [hg] at h
      have := vP_pW (H.fr x hx hg)
      simp only [Function.comp, this, Option.isSome_map]
      simpa using h
  · rintro ⟨x, hx, h⟩
    refine ⟨x, hx, ?_⟩
    cases hg : x.2.2 with
    | true => rw [hg] at h; simp at h
    | false =>
      rw [hg] at h
      have := vP_pW (H.fr x hx hg)
      simp only [Function.comp, this, Option.isSome_map] at h
      simpa using h
end Go.Proofs.YtdgepnfgjgbkoabDoor
