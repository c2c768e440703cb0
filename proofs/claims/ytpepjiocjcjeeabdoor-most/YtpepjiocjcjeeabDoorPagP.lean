/-
  What is read and written again is the message's own bytes; what is read is right: plainly.
-/
import Derived.Test.YtpepjiocjcjeeabDoorPbqP
namespace Go.Proofs.YtpepjiocjcjeeabDoor

/-- Where Parse comes by: the row at f is next, ps is read. -/
inductive Rch (X : List UInt8) : Nat → List Plc → Prop
  | zero : Rch X 0 []
  | next {f : Nat} {ps qs : List Plc} (h : Rch X f ps) (he : f ≠ X.length) (hb : leH (X.drop f) = false) (ht : tkH X ps f (rwE X f) = .ok qs) : Rch X (rwE X f + 2) qs
theorem Rch.pdt {X : List UInt8} {f : Nat} {ps : List Plc} (h : Rch X f ps) : Pdt X f ps := by
  induction h with
  | zero => exact Pdt.zero X
  | next h he hb ht ih => exact ih.next he hb ht
/-- How Parse ends. -/
inductive Fin16 (X : List UInt8) : Nat → List Plc → Except (Nat × Nat) (List Plc × Nat) → Prop
  | out {f : Nat} {ps : List Plc} (he : f = X.length) : Fin16 X f ps (.ok (ps, f))
  | line {f : Nat} {ps : List Plc} (he : f ≠ X.length) (hb : leH (X.drop f) = true) : Fin16 X f ps (.ok (ps, f + 2))
  | bad {f : Nat} {ps : List Plc} {e : Nat × Nat} (he : f ≠ X.length) (hb : leH (X.drop f) = false) (ht : tkH X ps f (rwE X f) = .error e) : Fin16 X f ps (.error e)
theorem prs_end (X : List UInt8) : ∀ (n f : Nat) (ps : List Plc), X.length - f = n → Rch X f ps → ∃ f' ps', Rch X f' ps' ∧ Fin16 X f' ps' (prsF X) := by
  intro n
  induction n using Nat.strongRecOn with
  | ind n ih =>
    intro f ps hn h
    obtain ⟨k, hk⟩ := h.pdt.st
    by_cases he : f = X.length
    · exact ⟨f, ps, h, by rw [hk.endA he]; exact .out he⟩
    · cases hb : leH (X.drop f) with
      | true => exact ⟨f, ps, h, by rw [hk.endB he hb]; exact .line he hb⟩
      | false =>
        cases ht : tkH X ps f (rwE X f) with
        | error e => exact ⟨f, ps, h, by rw [hk.bad he hb ht]; exact .bad he hb ht⟩
        | ok qs =>
          have h1 := leH_lt X _ (tk_on ht)
          have h2 := rwE_ge X f
          exact ih (X.length - (rwE X f + 2)) (by omega) _ qs rfl (h.next he hb ht)
theorem prs_fin (X : List UInt8) : ∃ f ps, Rch X f ps ∧ Fin16 X f ps (prsF X) := prs_end X _ 0 [] rfl .zero
/-- A row that begins with a blank, or with a name. -/
theorem tk_ok {X : List UInt8} {ps qs : List Plc} {f t : Nat} (h : tkH X ps f t = .ok qs) : t - f ≤ 998 ∧ leH (X.drop t) = true ∧
    ((ps ≠ [] ∧ fldB (stE X f t) = true ∧ qs = setLast ps t) ∨
     (badN 11 (stE X f t) ≠ 0 ∧ badN 11 (stE X f t) ≠ t - f ∧ X[f + badN 11 (stE X f t)]? = some 58 ∧ ps.length ≠ 4096 ∧ qs = ps ++ [⟨f, f + badN 11 (stE X f t), t⟩])) := by
  by_cases h1 : 998 < t - f
  · rw [tk_long X ps f t h1] at h; cases h
  · rcases tk_cases X ps f t with h2 | h2 | ⟨h2, h2'⟩
    · rw [h2] at h; cases h
    · rw [h2] at h; cases h
    · refine ⟨by omega, h2, ?_⟩
      have h3 : foldH X ps f t = .ok qs ∨ begH X ps f t = .ok qs := by
        rcases h2' with e | e
        · rw [e] at h; exact .inl h
        · rw [e] at h; exact .inr h
      rcases h3 with h3 | h3
      · unfold foldH at h3
        by_cases h4 : ps = [] ∨ fldB (stE X f t) = false
        · rw [if_pos h4] at h3; cases h3
        · rw [if_neg h4] at h3
          cases h3
          exact .inl ⟨fun e => h4 (.inl e), by simpa using fun e => h4 (.inr e), rfl⟩
      · unfold begH at h3
        dsimp only at h3
        by_cases h4 : badN 11 (stE X f t) = 0 ∨ badN 11 (stE X f t) = t - f ∨ X[f + badN 11 (stE X f t)]? ≠ some 58
        · rw [if_pos h4] at h3; cases h3
        · rw [if_neg h4] at h3
          by_cases h5 : ps.length = 4096
          · rw [if_pos h5] at h3; cases h3
          · rw [if_neg h5] at h3
            cases h3
            refine .inr ⟨fun e => h4 (.inl e), fun e => h4 (.inr (.inl e)), ?_, h5, rfl⟩
            apply Classical.byContradiction
            intro e
            exact h4 (.inr (.inr e))
theorem badN_take' (k : Int) : ∀ l : List UInt8, badN k (l.take (badN k l)) = badN k l
  | [] => rfl
  | c :: r => by
    by_cases h : isB k (c.toNat : Int) = true
    · have e : badN k (c :: r) = badN k r + 1 := by rw [badN, if_pos h]
      rw [e, List.take_succ_cons, badN, if_pos h, badN_take' k r]
    · have e : badN k (c :: r) = 0 := by rw [badN, if_neg h]
      rw [e]
      rfl
theorem take_stE (X : List UInt8) (f t : Nat) (h : f ≤ t) : X.take f ++ stE X f t = X.take t := by
  unfold stE
  have := List.take_append_drop f (X.take t)
  rw [List.take_take, Nat.min_eq_left h] at this
  exact this
theorem noCR_drop {l : List UInt8} (h : noCR l) (k : Nat) : noCR (l.drop k) := fun c hc => h c (List.mem_of_mem_drop hc)
theorem okB_fold {nl : Nat} {bd r : List UInt8} (h : OkB nl bd) (hr : okR r) : OkB nl (bd ++ [13, 10] ++ r) := by
  obtain ⟨r0, rs, rfl, h1, h2, h3⟩ := h
  refine ⟨r0, rs ++ [r], ?_, h1, h2, fun q hq => ?_⟩
  · unfold bdR
    rw [List.flatMap_append, List.append_assoc, List.append_assoc]
    simp
  · rcases List.mem_append.1 hq with hq | hq
    · exact h3 q hq
    · rw [List.mem_singleton.1 hq]; exact hr
/-- What is read: right fields, and the message's own bytes. -/
structure Pag (X : List UInt8) (f : Nat) (ps : List Plc) : Prop where
  text : prL (ps.map (fdOf X)) = X.take f
  right : ∀ p ∈ ps, chkF (fdOf X p).name (fdOf X p).body = 0
theorem Rch.pag {X : List UInt8} {f : Nat} {ps : List Plc} (h : Rch X f ps) : Pag X f ps := by
  induction h with
  | zero => exact ⟨rfl, fun p hp => by cases hp⟩
  | @next f ps qs h he hb ht ih =>
    have hd := h.pdt
    obtain ⟨k, hk⟩ := hd.st
    have h1 := rwE_ge X f
    have h2 := rwE_le X f hk.low
    obtain ⟨hw, hl, hc⟩ := tk_ok ht
    have hlt := leH_lt X _ hl
    have hno := rwE_no X f
    have hsl : (stE X f (rwE X f)).length = rwE X f - f := stE_len X f _ h2
    rcases hc with ⟨hne, hfl, rfl⟩ | ⟨hn0, hnt, h58, h4, rfl⟩
    · obtain ⟨q, p, rfl⟩ := snoc_of ps hne
      obtain ⟨hpt, hpl⟩ := hd.la q p rfl
      have hpo := (hk.ok p (List.mem_append_right _ (List.mem_singleton.2 rfl))).1
      rw [setLast_snoc]
      have e1 := fd_fold X p f (rwE X f) hpo hpt hpl h1 h2
      have hpr := ih.right p (List.mem_append_right _ (List.mem_singleton.2 rfl))
      obtain ⟨hnm, hob⟩ := chk_ok hpr
      refine ⟨?_, fun x hx => ?_⟩
      · have e2 := ih.text
        rw [List.map_append, List.map_singleton] at e2 ⊢
        rw [e1]
        have e3 : X.take (rwE X f + 2) = X.take f ++ (stE X f (rwE X f) ++ [13, 10]) := by
          rw [← stE_crlf X _ hl, stE_app X f (rwE X f) (rwE X f + 2) h1 (by omega) (by omega), take_stE X f _ (by omega)]
        rw [e3, ← e2]
        unfold prL
        rw [List.flatMap_append, List.flatMap_append]
        simp [wrF]
      · rcases List.mem_append.1 hx with hx | hx
        · exact ih.right x (List.mem_append_left _ hx)
        · rw [List.mem_singleton.1 hx, e1]
          exact ok_chk hnm (okB_fold hob ⟨hno, hfl, by omega⟩)
    · have hbl := badN_le 11 (stE X f (rwE X f))
      have hat : (stE X f (rwE X f))[badN 11 (stE X f (rwE X f))]? = some 58 := by
        rw [← h58]
        unfold stE
        rw [List.getElem?_drop, List.getElem?_take_of_lt]
        have : badN 11 ((X.take (rwE X f)).drop f) = badN 11 (stE X f (rwE X f)) := rfl
        omega
      have hfd := fd_beg X f (badN 11 (stE X f (rwE X f))) (rwE X f) (by omega)
      have hcut : stE X f (rwE X f) = (stE X f (rwE X f)).take (badN 11 (stE X f (rwE X f))) ++ ([58] ++ (stE X f (rwE X f)).drop (badN 11 (stE X f (rwE X f)) + 1)) := by
        have hlt : badN 11 (stE X f (rwE X f)) < (stE X f (rwE X f)).length := by omega
        conv => lhs; rw [← List.take_append_drop (badN 11 (stE X f (rwE X f))) (stE X f (rwE X f))]
        rw [List.drop_eq_getElem_cons hlt]
        rw [List.getElem?_eq_getElem hlt] at hat
        rw [Option.some.inj hat]
        rfl
      refine ⟨?_, fun x hx => ?_⟩
      · rw [List.map_append, List.map_singleton, hfd]
        have e3 : X.take (rwE X f + 2) = X.take f ++ (stE X f (rwE X f) ++ [13, 10]) := by
          rw [← stE_crlf X _ hl, stE_app X f (rwE X f) (rwE X f + 2) h1 (by omega) (by omega), take_stE X f _ (by omega)]
        have key : ∀ (row : List UInt8) (a : Nat), row = row.take a ++ ([58] ++ row.drop (a + 1)) → wrF ⟨row.take a, row.drop (a + 1)⟩ = row ++ [13, 10] := fun row a h => by
          conv => rhs; rw [h]
          simp [wrF]
        rw [e3, ← ih.text, ← key _ _ hcut]
        unfold prL
        rw [List.flatMap_append]
        simp
      · rcases List.mem_append.1 hx with hx | hx
        · exact ih.right x hx
        · rw [List.mem_singleton.1 hx, hfd]
          have hnl : ((stE X f (rwE X f)).take (badN 11 (stE X f (rwE X f)))).length = badN 11 (stE X f (rwE X f)) := by
            rw [List.length_take]
            omega
          refine ok_chk ?_ ⟨(stE X f (rwE X f)).drop (badN 11 (stE X f (rwE X f)) + 1), [], ?_, noCR_drop hno _, ?_, fun q hq => by cases hq⟩
          · show nmB ((stE X f (rwE X f)).take (badN 11 (stE X f (rwE X f)))) = true
            unfold nmB
            rw [hnl, badN_take']
            have : ((stE X f (rwE X f)).take (badN 11 (stE X f (rwE X f)))).isEmpty = false := by
              rw [List.isEmpty_eq_false_iff]
              intro e
              rw [e] at hnl
              simp at hnl
              omega
            rw [this]
            simp
          · show (stE X f (rwE X f)).drop _ = _
            simp [bdR]
          · show _ + (((stE X f (rwE X f)).take (badN 11 (stE X f (rwE X f)))).length + 1) ≤ 998
            rw [hnl, List.length_drop]
            omega
theorem errF_all : ∀ l : List Fd, (∀ p ∈ l, chkF p.name p.body = 0) → errF l = 0
  | [], _ => rfl
  | p :: r, h => by
    rw [errF, if_pos (h p (List.mem_cons_self ..))]
    exact errF_all r (fun q hq => h q (List.mem_cons_of_mem _ hq))
/-- What Parse tells of any message. -/
theorem again_all (X : List UInt8) : (∃ ps a, prsF X = .ok (ps, a) ∧ prE (ps.map (fdOf X)) = 0 ∧ (∀ p ∈ ps, chkF (fdOf X p).name (fdOf X p).body = 0) ∧ a ≤ X.length ∧ (prL (ps.map (fdOf X))).length ≤ a ∧
      prL (ps.map (fdOf X)) = X.take (prL (ps.map (fdOf X))).length ∧ ((a = (prL (ps.map (fdOf X))).length ∧ a = X.length) ∨ (a = (prL (ps.map (fdOf X))).length + 2 ∧ leH (X.drop (prL (ps.map (fdOf X))).length) = true))) ∨
    (∃ e, prsF X = .error e ∧ (e.1 = 160 ∨ e.1 = 161) ∧ e.2 ≤ X.length) := by
  obtain ⟨f, ps, h, hf⟩ := prs_fin X
  obtain ⟨k, hk⟩ := h.pdt.st
  have hg := h.pag
  have hlen : (prL (ps.map (fdOf X))).length = f := by
    rw [hg.text, List.length_take]
    have := hk.low
    omega
  have hpe : prE (ps.map (fdOf X)) = 0 := by
    unfold prE
    rw [if_neg (by rw [List.length_map]; have := hk.few; omega)]
    refine errF_all _ fun p hp => ?_
    obtain ⟨q, hq, rfl⟩ := List.mem_map.1 hp
    exact hg.right q hq
  generalize hR : prsF X = R at hf
  cases hf with
  | out he => exact .inl ⟨ps, f, rfl, hpe, hg.right, by omega, by omega, by rw [hlen]; exact hg.text, .inl ⟨by omega, he⟩⟩
  | line he hb =>
    have := leH_lt X f hb
    exact .inl ⟨ps, f + 2, rfl, hpe, hg.right, by omega, by omega, by rw [hlen]; exact hg.text, .inr ⟨by omega, by rw [hlen]; exact hb⟩⟩
  | @bad e he hb ht =>
    have h2 := rwE_le X f hk.low
    have h1 := rwE_ge X f
    refine .inr ⟨e, rfl, tk_err ht, ?_⟩
    by_cases h5 : 998 < rwE X f - f
    · rw [tk_long X ps f _ h5] at ht
      cases ht
      dsimp only
      omega
    · cases h6 : leH (X.drop (rwE X f)) with
      | false =>
        rw [tk_open X ps f _ (by omega) h6] at ht
        cases ht
        exact h2
      | true =>
        have hlt : f < X.length := by have := hk.low; omega
        have h3 : foldH X ps f (rwE X f) = .error e ∨ begH X ps f (rwE X f) = .error e := by
          rw [tk_blank X ps f _ X[f] (List.getElem?_eq_getElem hlt) (by omega) h6] at ht
          by_cases hb : blB X[f] = true
          · rw [if_pos hb] at ht; exact .inl ht
          · rw [if_neg hb] at ht; exact .inr ht
        rcases h3 with h3 | h3
        · rcases fold_cases X ps f (rwE X f) with h5 | ⟨_, h5⟩
          · rw [h5] at h3
            cases h3
            exact hk.low
          · rw [h5] at h3
            cases h3
        · have hbl := badN_le 11 (stE X f (rwE X f))
          rw [stE_len X f _ h2] at hbl
          unfold begH at h3
          dsimp only at h3
          by_cases h4 : badN 11 (stE X f (rwE X f)) = 0 ∨ badN 11 (stE X f (rwE X f)) = rwE X f - f ∨ X[f + badN 11 (stE X f (rwE X f))]? ≠ some 58
          · rw [if_pos h4] at h3
            cases h3
            dsimp only
            omega
          · rw [if_neg h4] at h3
            by_cases h5 : ps.length = 4096
            · rw [if_pos h5] at h3
              cases h3
              exact hk.low
            · rw [if_neg h5] at h3
              cases h3
end Go.Proofs.YtpepjiocjcjeeabDoor
