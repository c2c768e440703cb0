/-
  What is written is read as it was: the plain part.
-/
import Derived.Test.YtdgepnfgjgbkoaaDoorPcP
import Derived.Test.YtdgepnfgjgbkoaaDoorScP
namespace Go.Proofs.YtdgepnfgjgbkoaaDoor

theorem fullN (c : Int) : ∀ (l : List UInt8), (∀ b ∈ l, isB c (b.toNat : Int) = true) → badN c l = l.length
  | [], _ => rfl
  | x :: t, h => by
    have h1 := h x (by simp)
    have h2 := fullN c t (fun b hb => h b (by simp [hb]))
    have := badN_yes c (x :: t) 0 (by simp) h1
    simpa [h2] using this
/-- A byte that may stand in a word's text. -/
def tok (c : UInt8) : Bool := decide (33 ≤ c.toNat) && decide (c.toNat ≤ 126) && c != 63
theorem qB_tok (c : UInt8) : ∀ x ∈ qB c, tok x = true := by
  have := u8_all (p := fun c => (qB c).all tok) (by decide +kernel) c
  simpa using this
theorem qL_tok (l : List UInt8) : ∀ x ∈ qL l, tok x = true := by
  intro x hx
  simp only [qL, List.mem_flatMap] at hx
  obtain ⟨c, _, hx⟩ := hx
  exact qB_tok c x hx
theorem next_tok (d : Nat) (c : UInt8) (h : (nextD d c).isSome) : tok c = true := by
  have h1 : 0 ≤ numI c ∨ c = 61 := by
    unfold nextD at h
    split at h
    · left; assumption
    · split at h
      · right; assumption
      · cases h
  have := u8_all (p := fun c => decide ((0 ≤ numI c ∨ c = 61) → tok c = true)) (by decide +kernel) c
  exact (of_decide_eq_true this) h1
theorem ok_tok : ∀ (l : List UInt8) (d : Nat), okN d l = l.length → ∀ x ∈ l, tok x = true
  | [], _, _ => by simp
  | c :: t, d, h => by
    unfold okN at h
    intro x hx
    cases hn : nextD d c with
    | none => rw [hn] at h; simp at h
    | some d' =>
      rw [hn] at h
      simp only [List.length_cons, Nat.add_right_cancel_iff] at h
      rcases List.mem_cons.1 hx with rfl | hx
      · exact next_tok d x (by rw [hn]; rfl)
      · exact ok_tok t d' (by omega) x hx
theorem txW_tok (q : Bool) (b : List UInt8) : ∀ x ∈ txW q b, tok x = true := by
  cases q
  · exact ok_tok _ 0 (enc_okN b)
  · exact qL_tok b
theorem tok_ne (c : UInt8) (h : tok c = true) : c ≠ 63 ∧ blk c = false ∧ 33 ≤ c.toNat ∧ c.toNat ≤ 126 ∧ isB 12 (c.toNat : Int) = true := by
  have := u8_all (p := fun c => decide (tok c = true → c ≠ 63 ∧ blk c = false ∧ 33 ≤ c.toNat ∧ c.toNat ≤ 126 ∧ isB 12 (c.toNat : Int) = true)) (by decide +kernel) c
  exact (of_decide_eq_true this) h
theorem wrd_chr (q : Bool) (b : List UInt8) : ∀ x ∈ wrd q b, blk x = false ∧ 33 ≤ x.toNat ∧ x.toNat ≤ 126 ∧ isB 12 (x.toNat : Int) = true := by
  intro x hx
  simp only [wrd, List.mem_append] at hx
  rcases hx with (hx | hx) | hx
  · have : ∀ q : Bool, ∀ x ∈ [61, 63, 85, 84, 70, 45, 56, 63, (if q then 81 else 66), (63 : UInt8)], blk x = false ∧ 33 ≤ x.toNat ∧ x.toNat ≤ 126 ∧ isB 12 (x.toNat : Int) = true := by decide +kernel
    exact this q x hx
  · exact (tok_ne x (txW_tok q b x hx)).2
  · have : ∀ x ∈ [63, (61 : UInt8)], blk x = false ∧ 33 ≤ x.toNat ∧ x.toNat ≤ 126 ∧ isB 12 (x.toNat : Int) = true := by decide +kernel
    exact this x hx
theorem wrd_pos (q : Bool) (b : List UInt8) : 12 ≤ (wrd q b).length := by simp [wrd]
theorem wrd_pcs (q : Bool) (b : List UInt8) : pcs 4 (wrd q b) = [[61], nmU, [if q then 81 else 66], txW q b, [61]] := by
  have e : wrd q b = [61] ++ 63 :: (nmU ++ 63 :: ([if q then 81 else 66] ++ 63 :: (txW q b ++ 63 :: [61]))) := by simp [wrd, nmU]
  have h1 := cutC_hit (c := 63) [61] (nmU ++ 63 :: ([if q then 81 else 66] ++ 63 :: (txW q b ++ 63 :: [61]))) (by decide)
  have h2 := cutC_hit (c := 63) nmU ([if q then 81 else 66] ++ 63 :: (txW q b ++ 63 :: [61])) (by decide)
  have h3 := cutC_hit (c := 63) [if q then 81 else 66] (txW q b ++ 63 :: [61]) (by cases q <;> decide)
  have h4 := cutC_hit (c := 63) (txW q b) [61] (fun h => (tok_ne _ (txW_tok q b _ h)).1 rfl)
  rw [e]
  simp only [pcs, h1, h2, h3, h4]
theorem wrd_p (q : Bool) (b : List UInt8) : pW (wrd q b) = some (nmU, q, txW q b) := by
  have hb : ¬ badN 12 (wrd q b) < (wrd q b).length := by
    rw [fullN 12 _ (fun x hx => (wrd_chr q b x hx).2.2.2)]
    omega
  unfold pW
  rw [if_neg hb, wrd_pcs]
  cases q
  · exact if_pos (by decide)
  · exact if_pos (by decide)
theorem qB_un (c : UInt8) (n : Nat) (r : List UInt8) : ∃ k, uqB n (qB c ++ r) = (c :: (uqB (n + k) r).1, (uqB (n + k) r).2) := by
  have hx := u8_all (p := fun c => match hexL [c] with | [a, b] => decide (badN 4 [a, b] = 2 ∧ unL [a, b] = [c]) | _ => false) (by decide +kernel) c
  have hq := u8_all (p := fun c => decide (qsf c = true → c ≠ 61 ∧ c ≠ 95)) (by decide +kernel) c
  have hq := of_decide_eq_true hq
  unfold qB
  split
  · rename_i h
    refine ⟨1, ?_⟩
    show uqB n (c :: r) = _
    rcases r with _ | ⟨a, _ | ⟨b, t⟩⟩ <;> simp [uqB, (hq h).1, (hq h).2]
  · split
    · rename_i h
      subst h
      refine ⟨1, ?_⟩
      show uqB n (95 :: r) = _
      rcases r with _ | ⟨a, _ | ⟨b, t⟩⟩ <;> simp [uqB]
    · refine ⟨3, ?_⟩
      generalize hexL [c] = H at *
      rcases H with _ | ⟨a, _ | ⟨b, _ | ⟨d, t⟩⟩⟩ <;> simp only [Bool.false_eq_true] at hx
      have hx := of_decide_eq_true hx
      show uqB n (61 :: a :: b :: r) = _
      rw [uqB, if_pos rfl]
      simp only [hx.1, hx.2, if_true, List.singleton_append]
theorem qL_un : ∀ (b : List UInt8) (n : Nat), uqB n (qL b) = (b, none)
  | [], n => by rw [qL_nil, uqB]
  | c :: t, n => by
    obtain ⟨k, hk⟩ := qB_un c n (qL t)
    show uqB n (qB c ++ qL t) = _
    rw [hk, qL_un t]
theorem b64_un (b : List UInt8) : unbE (e64L b) = 0 ∧ unbL (e64L b) = b := by
  have h1 := enc_okN b
  have h2 := e64L_len b
  unfold unbE unbL
  rw [h1, dif_neg (by omega), if_neg (by omega), if_neg (by omega), if_neg (by omega)]
  exact ⟨rfl, dec_encL b⟩
theorem rd_tx (q : Bool) (b : List UInt8) : rdW q (txW q b) = (b, none) := by
  cases q
  · show (if unbE (e64L b) = 0 then (unbL (e64L b), none) else ([], some (unbA (e64L b)))) = _
    rw [if_pos (b64_un b).1, (b64_un b).2]
  · exact qL_un b 0
theorem mn_wrd (q : Bool) (b : List UInt8) (hb : badU b = b.length) (f t : Nat) : mnW f t (nmU, q, txW q b) = (b, 0, 0) := by
  have h1 : csNo (cutC 42 nmU).1 = 1 := by decide
  unfold mnW
  simp only [h1, rd_tx]
  rw [if_neg (by decide)]
  show (match (if (1 : Nat) = 1 then (if badU b = b.length then some b else none) else _) with | none => _ | some x => (x, 0, 0)) = _
  rw [if_pos rfl, if_pos hb]
/-- The bytes of each word. -/
def bsS (q : Bool) (b : List UInt8) : List Int → List (List UInt8)
  | [] => if b = [] then [] else [b]
  | r :: rs => if roW q < coW q b + coW q (Lib.encodeRune r) then b :: bsS q (Lib.encodeRune r) rs else bsS q (b ++ Lib.encodeRune r) rs
theorem wrS_bs (q : Bool) : ∀ (rs : List Int) (b : List UInt8), wrS q b rs = (bsS q b rs).map (wrd q)
  | [], b => by unfold wrS bsS; split <;> rfl
  | r :: rs, b => by
    unfold wrS bsS
    split
    · rw [wrS_bs q rs, List.map_cons]
    · rw [wrS_bs q rs]
theorem bs_flat (q : Bool) : ∀ (rs : List Int) (b : List UInt8), (bsS q b rs).flatten = b ++ encL rs
  | [], b => by
    unfold bsS
    split
    · rename_i h; simp [h, encL]
    · simp [encL]
  | r :: rs, b => by
    unfold bsS
    split
    · rw [List.flatten_cons, bs_flat q rs]; simp [encL]
    · rw [bs_flat q rs]; simp [encL]
theorem bs_good (q : Bool) : ∀ (rs : List Int) (B : List Int), (∀ r ∈ rs, isR r) → (∀ r ∈ B, isR r) → coW q (encL B) ≤ roW q →
    ∀ x ∈ bsS q (encL B) rs, badU x = x.length ∧ coW q x ≤ roW q
  | [], B, _, hB, hc => by
    intro x hx
    unfold bsS at hx
    split at hx
    · cases hx
    · rw [List.mem_singleton] at hx
      subst hx
      exact ⟨(decL_encL B hB).2, hc⟩
  | r :: rs, B, hr, hB, hc => by
    intro x hx
    have h1 : ∀ k : Int, encL [k] = Lib.encodeRune k := fun k => by simp [encL]
    unfold bsS at hx
    split at hx
    · rcases List.mem_cons.1 hx with rfl | hx
      · exact ⟨(decL_encL B hB).2, hc⟩
      · rw [← h1 r] at hx
        exact bs_good q rs [r] (fun z hz => hr z (by simp [hz])) (fun z hz => by rw [List.mem_singleton] at hz; subst hz; exact hr z (by simp)) (by rw [h1]; exact coW_rune q r) x hx
    · have e : encL B ++ Lib.encodeRune r = encL (B ++ [r]) := by simp [encL]
      rw [e] at hx
      refine bs_good q rs (B ++ [r]) (fun z hz => hr z (by simp [hz])) (fun z hz => ?_) (by rw [← e, coW_app]; omega) x hx
      rcases List.mem_append.1 hz with hz | hz
      · exact hB z hz
      · rw [List.mem_singleton] at hz; subst hz; exact hr z (by simp)
/-- The bytes of the words of a text. -/
def bsT (q : Bool) (l : List UInt8) : List (List UInt8) := bsS q [] (decL l)
theorem wrT_bs (q : Bool) (l : List UInt8) : wrT q l = jnW ((bsT q l).map (wrd q)) := by rw [wrT, wrS_bs]; rfl
theorem bsT_flat (q : Bool) (l : List UInt8) (h : badU l = l.length) : (bsT q l).flatten = l := by
  rw [bsT, bs_flat, encL_decL, h]; simp
theorem bsT_good (q : Bool) (l : List UInt8) : ∀ x ∈ bsT q l, badU x = x.length ∧ coW q x ≤ roW q := by
  intro x hx
  exact bs_good q (decL l) [] (decL_isR l) (fun _ h => by cases h) (by show coW q [] ≤ _; rw [coW_nil]; exact Nat.zero_le _) x hx
theorem jn_pos {L : List (List UInt8)} (hL : L ≠ []) (h : ∀ x ∈ L, 12 ≤ x.length) : 12 ≤ (jnW L).length := by
  match L, hL with
  | [x], _ => simpa [jnW] using h x (by simp)
  | x :: y :: t, _ =>
    have := h x (by simp)
    unfold jnW
    rw [List.length_append]
    omega
theorem jn_chr : ∀ (L : List (List UInt8)) (P : UInt8 → Prop), P 32 → (∀ x ∈ L, ∀ c ∈ x, P c) → ∀ c ∈ jnW L, P c
  | [], _, _, _ => by simp [jnW]
  | [x], _, _, h => by simpa [jnW] using h x (by simp)
  | x :: y :: t, P, h32, h => by
    intro c hc
    unfold jnW at hc
    rcases List.mem_append.1 hc with hc | hc
    · exact h x (by simp) c hc
    · rcases List.mem_cons.1 hc with rfl | hc
      · exact h32
      · exact jn_chr (y :: t) P h32 (fun z hz => h z (by simp at hz ⊢; right; exact hz)) c hc
theorem cut_mid (a b c : List UInt8) : cutW (a ++ b ++ c) a.length (a.length + b.length) = b := by
  unfold cutW
  rw [List.append_assoc, List.drop_left, Nat.add_sub_cancel_left, List.take_left]
/-- One word among others. -/
theorem dc_one (q : Bool) (b pre post : List UInt8) (hb : badU b = b.length) (l : List UInt8) (hl : l = pre ++ wrd q b ++ post) (R : List (Nat × Nat)) (out : List UInt8) (done : Nat) (joins : Bool) :
    dcS l ((pre.length, pre.length + (wrd q b).length) :: R) out done joins = dcS l R ((if joins then out else out ++ cutW l done pre.length) ++ b) (pre.length + (wrd q b).length) true := by
  rw [dcS]
  rw [hl, cut_mid, ← hl, wrd_p]
  simp only [mn_wrd q b hb]
  rw [if_neg (by simp)]
theorem dc_bs (q : Bool) (l : List UInt8) (R : List (Nat × Nat)) (post : List UInt8) : ∀ (bs : List (List UInt8)) (pre : List UInt8), bs ≠ [] → (∀ b ∈ bs, badU b = b.length) → l = pre ++ jnW (bs.map (wrd q)) ++ post →
    ∀ (out : List UInt8) (done : Nat) (joins : Bool), dcS l (scan pre.length pre.length (jnW (bs.map (wrd q))) ++ R) out done joins =
      dcS l R ((if joins then out else out ++ cutW l done pre.length) ++ bs.flatten) (pre.length + (jnW (bs.map (wrd q))).length) true
  | [b], pre, _, hg, hl => by
    intro out done joins
    have hl' : l = pre ++ wrd q b ++ post := hl
    have h := wrd_pos q b
    show dcS l (scan pre.length pre.length (wrd q b) ++ R) out done joins = _
    rw [scan_word _ _ _ (fun c hc => (wrd_chr q b c hc).1), if_pos (by omega)]
    show dcS l ((pre.length, pre.length + (wrd q b).length) :: R) out done joins = _
    rw [dc_one q b pre post (hg b (by simp)) l hl']
    simp [jnW]
  | b :: b2 :: t, pre, _, hg, hl => by
    intro out done joins
    have e : jnW ((b :: b2 :: t).map (wrd q)) = wrd q b ++ 32 :: jnW ((b2 :: t).map (wrd q)) := rfl
    have h := wrd_pos q b
    have hl' : l = pre ++ wrd q b ++ (32 :: jnW ((b2 :: t).map (wrd q)) ++ post) := by rw [hl, e]; simp
    have hl2 : l = (pre ++ wrd q b ++ [32]) ++ jnW ((b2 :: t).map (wrd q)) ++ post := by rw [hl, e]; simp
    rw [e, scan_app _ 32 (by decide), scan_word _ _ _ (fun c hc => (wrd_chr q b c hc).1), if_pos (by omega)]
    show dcS l ((pre.length, pre.length + (wrd q b).length) :: (scan _ _ _ ++ R)) out done joins = _
    rw [dc_one q b pre _ (hg b (by simp)) l hl']
    have ih := dc_bs q l R post (b2 :: t) (pre ++ wrd q b ++ [32]) (by simp) (fun x hx => hg x (by simp at hx ⊢; right; exact hx)) hl2 ((if joins then out else out ++ cutW l done pre.length) ++ b) (pre.length + (wrd q b).length) true
    have en : (pre ++ wrd q b ++ [32]).length = pre.length + (wrd q b).length + 1 := by simp [Nat.add_assoc]
    rw [en] at ih
    rw [ih]
    simp [Nat.add_assoc, Nat.add_comm, Nat.add_left_comm]
/-- THE STAGE'S THEOREM, in plain lists. -/
theorem dec_wrT (q : Bool) (l : List UInt8) (h : badU l = l.length) : decW (wrT q l) = (l, 0, 0) := by
  have hf := bsT_flat q l h
  unfold decW
  rw [wdsA_scan, wrT_bs]
  by_cases hb : bsT q l = []
  · rw [hb] at hf ⊢
    simp only [List.flatten_nil] at hf
    subst hf
    rfl
  · have := dc_bs q (jnW ((bsT q l).map (wrd q))) [] [] (bsT q l) [] hb (fun b hx => (bsT_good q l b hx).1) (by simp) [] 0 false
    rw [List.append_nil] at this
    show dcS _ (scan ([] : List UInt8).length ([] : List UInt8).length _) [] 0 false = _
    rw [this, hf]
    simp [dcS, cutW]
theorem dec_enc_w (l : List UInt8) (sh : Bool) (h : badU l = l.length) : decW (encW l sh) = (l, 0, 0) := by
  unfold encW
  rw [if_neg (by omega)]
  split
  · exact dec_wrT true l h
  · exact dec_wrT false l h
theorem dc_none (l : List UInt8) : ∀ (R : List (Nat × Nat)) (out : List UInt8) (done : Nat) (j : Bool), (∀ p ∈ R, pW (cutW l p.1 p.2) = none) → dcS l R out done j = (out ++ l.drop done, 0, 0)
  | [], _, _, _, _ => by rw [dcS]
  | (f, t) :: R, out, done, j, h => by
    have h1 := h (f, t) (by simp)
    rw [dcS, h1]
    exact dc_none l R out done false (fun p hp => h p (by simp [hp]))
/-- What needs no words is read as it is. -/
theorem dec_plain (l : List UInt8) (h : needW l = false) : decW l = (l, 0, 0) := by
  unfold decW
  rw [dc_none l _ [] 0 false (fun p hp => ?_)]
  · simp
  · unfold needW at h
    simp only [Bool.or_eq_false_iff, List.any_eq_false] at h
    have := h.2 p hp
    cases hx : pW (cutW l p.1 p.2) with
    | none => rfl
    | some x => rw [hx] at this; simp at this
end Go.Proofs.YtdgepnfgjgbkoaaDoor
