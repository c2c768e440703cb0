/-
  Replies written and read again; no Go in sight.
-/
import Derived.Test.YtbfgefgadplcjaaDoorBkR
namespace Go.Proofs.YtbfgefgadplcjaaDoor

/- Digits. -/
theorem u8n (k : Nat) (h : k < 256) : (UInt8.ofNat k).toNat = k := by simp [Nat.mod_eq_of_lt h]
theorem dec_dig (u : Nat) : ∀ c ∈ Lib.decDigits u, 48 ≤ c.toNat ∧ c.toNat ≤ 57 := by
  induction u using Nat.strongRecOn with
  | _ u ih =>
    intro c hc
    by_cases h : u < 10
    · rw [Lib.decDigits, dif_pos h, List.mem_singleton] at hc
      subst hc
      rw [u8n _ (by omega)]
      omega
    · rw [Lib.decDigits, dif_neg h] at hc
      rcases List.mem_append.1 hc with hc | hc
      · exact ih (u / 10) (by omega) c hc
      · rw [List.mem_singleton] at hc
        subst hc
        rw [u8n _ (by omega)]
        omega
theorem numV_app (l : List UInt8) (d : UInt8) : numV (l ++ [d]) = numV l * 10 + (d.toNat - 48) := by
  unfold numV
  rw [List.foldl_append]
  rfl
theorem numV_dec (u : Nat) : numV (Lib.decDigits u) = u := by
  induction u using Nat.strongRecOn with
  | _ u ih =>
    by_cases h : u < 10
    · rw [Lib.decDigits, dif_pos h]
      show 0 * 10 + ((UInt8.ofNat (48 + u)).toNat - 48) = u
      rw [u8n _ (by omega)]
      omega
    · rw [Lib.decDigits, dif_neg h, numV_app, ih (u / 10) (by omega), u8n _ (by omega)]
      omega
theorem dec_len (u : Nat) (h : u ≤ 999) : 1 ≤ (Lib.decDigits u).length ∧ (Lib.decDigits u).length ≤ 3 := by
  rw [Lib.decDigits]
  split
  · simp
  · rw [Lib.decDigits]
    split
    · simp
    · rw [Lib.decDigits]
      rw [dif_pos (by omega)]
      simp
theorem badN_digits : ∀ (l : List UInt8), (∀ c ∈ l, 48 ≤ c.toNat ∧ c.toNat ≤ 57) → badN 2 l = l.length
  | [], _ => rfl
  | c :: t, h => by
    have h1 := h c (by simp)
    have h2 : isB 2 (c.toNat : Int) = true := by
      have := digit_fin ⟨c.toNat, c.toNat_lt⟩
      rw [show ((⟨c.toNat, c.toNat_lt⟩ : Fin 256).val : Int) = (c.toNat : Int) from rfl] at this
      rw [this]
      simp [h1.1, h1.2]
    unfold badN
    rw [if_pos h2, badN_digits t (fun x hx => h x (by simp [hx]))]
    rfl
theorem numVal_dec (u : Nat) (h : u ≤ 999) : numVal (Lib.decDigits u) 999 = u := by
  have hl := dec_len u h
  rw [(num_in _ _ ⟨hl.1, by omega, badN_digits _ (dec_dig u)⟩ (by rw [numV_dec]; omega)).1, numV_dec]
theorem dec_three (u : Nat) (h1 : 100 ≤ u) (h2 : u ≤ 999) : Lib.decDigits u = [UInt8.ofNat (48 + u / 100), UInt8.ofNat (48 + u / 10 % 10), UInt8.ofNat (48 + u % 10)] := by
  rw [Lib.decDigits, dif_neg (by omega), Lib.decDigits, dif_neg (by omega), Lib.decDigits, dif_pos (by omega)]
  rw [show u / 10 / 10 = u / 100 by omega]
  rfl
theorem ofNat_to {k : Nat} {c : UInt8} (h : c.toNat = k) : UInt8.ofNat k = c := by
  subst h
  simp
theorem code_num {cd : List UInt8} (h : cdOk cd) : ∃ n : Nat, 200 ≤ n ∧ n ≤ 559 ∧ numVal cd 999 = n ∧ Lib.decDigits n = cd := by
  obtain ⟨x, y, z, rfl, hx, hy, hz⟩ := h
  rw [dig0] at hx
  rw [dig1] at hy
  rw [dig2] at hz
  have hv : numV [x, y, z] = 100 * (x.toNat - 48) + 10 * (y.toNat - 48) + (z.toNat - 48) := by
    show ((0 * 10 + (x.toNat - 48)) * 10 + (y.toNat - 48)) * 10 + (z.toNat - 48) = _
    omega
  refine ⟨numV [x, y, z], by omega, by omega, ?_, ?_⟩
  · exact (num_in _ _ ⟨by simp, by simp, badN_digits _ (fun c hc => by
      simp only [List.mem_cons, List.not_mem_nil, or_false] at hc
      rcases hc with rfl | rfl | rfl <;> omega)⟩ (by rw [hv]; omega)).1
  · rw [dec_three _ (by omega) (by omega), hv, ofNat_to (c := x) (by omega), ofNat_to (c := y) (by omega), ofNat_to (c := z) (by omega)]
theorem wrap_smallU (n : Nat) (h : n ≤ 999) : (IntKind.u64.wrap (n : Int)).toNat = n := by
  rw [show IntKind.u64.wrap (n : Int) = (n : Int) from by
    show (n : Int) % 18446744073709551616 = n
    omega]
  rfl
theorem isCd_of {cd : List UInt8} (h : cdOk cd) (n : Nat) (hn : n ≤ 999) (he : Lib.decDigits n = cd) : isCd (n : Int) = true := by
  unfold isCd dcW
  rw [wrap_smallU n hn, he]
  obtain ⟨x, y, z, rfl, hx, hy, hz⟩ := h
  simp [hx, hy, hz]
theorem isCd_ok (n : Int) (h0 : -9223372036854775808 ≤ n) (h1 : n ≤ 9223372036854775807) (h : isCd n = true) : cdOk (dcI n) ∧ 0 ≤ n ∧ n ≤ 999 := by
  unfold isCd dcW at h
  simp only [Bool.and_eq_true, decide_eq_true_eq] at h
  obtain ⟨hl, ⟨hx, hy⟩, hz⟩ := h
  have hw : IntKind.u64.wrap n = n % 18446744073709551616 := rfl
  have hs : (IntKind.u64.wrap n).toNat ≤ 999 := by
    have hd := Lib.lt_pow_nDigits (IntKind.u64.wrap n).toNat
    rw [← Lib.decDigits_length, hl] at hd
    omega
  have hb : 0 ≤ n ∧ n ≤ 999 := by rw [hw] at hs; omega
  have he : (IntKind.u64.wrap n).toNat = n.toNat := by rw [hw]; omega
  rw [he] at hl hx hy hz
  refine ⟨?_, hb⟩
  unfold dcI
  generalize Lib.decDigits n.toNat = l at *
  match l, hl with
  | [x, y, z], _ => exact ⟨x, y, z, rfl, hx, hy, hz⟩
/- Cutting at one byte. -/
theorem idx1_at (c : UInt8) : ∀ (l r : List UInt8), (∀ x ∈ l, x ≠ c) → Lib.index (l ++ c :: r) [c] = l.length
  | [], r, _ => by unfold Lib.index; simp
  | x :: t, r, h => by
    have h1 := h x (by simp)
    have ih := idx1_at c t r (fun y hy => h y (by simp [hy]))
    rw [List.cons_append]
    unfold Lib.index
    rw [if_neg (by simp [List.isPrefixOf, Ne.symm h1]), ih, if_neg (by rw [beq_iff_eq]; omega)]
    simp
theorem idx1_none (c : UInt8) : ∀ (l : List UInt8), (∀ x ∈ l, x ≠ c) → Lib.index l [c] = -1
  | [], _ => rfl
  | x :: t, h => by
    have h1 := h x (by simp)
    have ih := idx1_none c t (fun y hy => h y (by simp [hy]))
    unfold Lib.index
    rw [if_neg (by simp [List.isPrefixOf, Ne.symm h1]), ih]
    rfl
theorem cut_at (c : UInt8) (l r : List UInt8) (h : ∀ x ∈ l, x ≠ c) : cutF (l ++ c :: r) c = l ∧ cutB (l ++ c :: r) c = r := by
  unfold cutF cutB Lib.cut
  rw [idx1_at c l r h, if_pos (by omega)]
  refine ⟨by simp, ?_⟩
  show List.drop ((l.length : Int).toNat + 1) (l ++ c :: r) = r
  rw [show l ++ c :: r = (l ++ [c]) ++ r by simp, List.drop_left' (by simp)]
theorem cut_no (c : UInt8) (l : List UInt8) (h : ∀ x ∈ l, x ≠ c) : cutF l c = l ∧ cutB l c = [] := by
  unfold cutF cutB Lib.cut
  rw [idx1_none c l h, if_neg (by omega)]
  exact ⟨rfl, rfl⟩
theorem cutR_any (c : UInt8) (l : List UInt8) : (∀ x ∈ l, x ≠ c) ∨ ∃ a r, l = a ++ c :: r ∧ ∀ x ∈ a, x ≠ c := by
  induction l with
  | nil => exact .inl (fun x hx => by cases hx)
  | cons y t ih =>
    by_cases h : y = c
    · exact .inr ⟨[], t, by rw [h]; rfl, fun x hx => by cases hx⟩
    · rcases ih with ih | ⟨a, r, rfl, ha⟩
      · exact .inl (fun x hx => by
          rcases List.mem_cons.1 hx with rfl | hx
          · exact h
          · exact ih x hx)
      · exact .inr ⟨y :: a, r, rfl, fun x hx => by
          rcases List.mem_cons.1 hx with rfl | hx
          · exact h
          · exact ha x hx⟩
/- A status. -/
theorem dcI_no (z : Int) (c : UInt8) (h : c.toNat < 48) : ∀ x ∈ dcI z, x ≠ c := fun x hx e => by
  have := dec_dig _ x hx
  rw [e] at this
  omega
theorem isSt_in {s : Stt} (h : isSt s = true) : (s.1 = 2 ∨ s.1 = 4 ∨ s.1 = 5) ∧ 0 ≤ s.2.1 ∧ s.2.1 ≤ 999 ∧ 0 ≤ s.2.2 ∧ s.2.2 ≤ 999 := by
  unfold isSt at h
  simp only [Bool.and_eq_true, Bool.or_eq_true, decide_eq_true_eq, beq_iff_eq] at h
  omega
theorem prt_dc (z : Int) (h0 : 0 ≤ z) (h1 : z ≤ 999) : prt (dcI z) = z := by
  unfold prt dcI
  rw [numVal_dec _ (by omega)]
  omega
theorem rd_wr {s : Stt} (h : isSt s = true) : rdSt (wrSt s) = s := by
  obtain ⟨h1, h2, h3, h4, h5⟩ := isSt_in h
  have e : wrSt s = dcI s.1 ++ 46 :: (dcI s.2.1 ++ 46 :: dcI s.2.2) := by unfold wrSt; simp
  have c1 := cut_at 46 (dcI s.1) (dcI s.2.1 ++ 46 :: dcI s.2.2) (dcI_no _ _ (by decide))
  have c2 := cut_at 46 (dcI s.2.1) (dcI s.2.2) (dcI_no _ _ (by decide))
  unfold rdSt
  rw [e, c1.1, c1.2, c2.1, c2.2, prt_dc _ (by omega) (by omega), prt_dc _ h2 h3, prt_dc _ h4 h5]
theorem st_wr {s : Stt} (h : isSt s = true) : stOf (wrSt s) = s := by
  unfold stOf
  rw [rd_wr h, if_pos (by rw [h]; simp)]
theorem st_of {l : List UInt8} (h : stOf l ≠ (0, 0, 0)) : isSt (stOf l) = true ∧ wrSt (stOf l) = l := by
  unfold stOf at h ⊢
  by_cases hc : (isSt (rdSt l) && decide (wrSt (rdSt l) = l)) = true
  · rw [if_pos hc]
    simpa using hc
  · rw [if_neg hc] at h
    exact absurd rfl h
theorem wrSt_no (s : Stt) : ∀ x ∈ wrSt s, x ≠ 32 := by
  intro x hx
  unfold wrSt at hx
  simp only [List.mem_append, List.mem_singleton] at hx
  rcases hx with ((((hx | hx) | hx) | hx) | hx)
  · exact dcI_no _ _ (by decide) x hx
  · subst hx; decide
  · exact dcI_no _ _ (by decide) x hx
  · subst hx; decide
  · exact dcI_no _ _ (by decide) x hx
theorem tx_fin : ∀ c : Fin 256, (48 ≤ c.val ∧ c.val ≤ 57) ∨ c.val = 46 ∨ c.val = 32 → txB (UInt8.ofNat c.val) = true := by decide +kernel
theorem tx_of (c : UInt8) (h : (48 ≤ c.toNat ∧ c.toNat ≤ 57) ∨ c.toNat = 46 ∨ c.toNat = 32) : txB c = true := by
  have := tx_fin ⟨c.toNat, c.toNat_lt⟩ h
  rwa [u8_ofNat] at this
theorem wrSt_txt (s : Stt) : txtB (wrSt s) = true := by
  unfold txtB
  rw [List.all_eq_true]
  intro x hx
  unfold wrSt at hx
  simp only [List.mem_append, List.mem_singleton] at hx
  rcases hx with ((((hx | hx) | hx) | hx) | hx)
  · exact tx_of x (.inl (dec_dig _ x hx))
  · subst hx; exact tx_of _ (.inr (.inl rfl))
  · exact tx_of x (.inl (dec_dig _ x hx))
  · subst hx; exact tx_of _ (.inr (.inl rfl))
  · exact tx_of x (.inl (dec_dig _ x hx))
theorem wrSt_len {s : Stt} (h : isSt s = true) : (wrSt s).length ≤ 11 := by
  obtain ⟨h1, h2, h3, h4, h5⟩ := isSt_in h
  have a := (dec_len s.1.toNat (by omega)).2
  have b := (dec_len s.2.1.toNat (by omega)).2
  have c := (dec_len s.2.2.toNat (by omega)).2
  unfold wrSt dcI
  simp only [List.length_append, List.length_singleton]
  omega
theorem txt_app (a b : List UInt8) : txtB (a ++ b) = (txtB a && txtB b) := by simp [txtB]
/- The common status. -/
theorem com_all {k : Int} {s : Stt} (hs : s.1 = k) : ∀ (L : List (List UInt8)) (i : Nat), (∀ t ∈ L, stOf (cutF t 32) = s) → 0 < i → comGo k i s L = s
  | [], _, _, _ => rfl
  | t :: L, i, h, hi => by
    unfold comGo
    rw [h t (by simp), if_neg (by intro h0; rcases h0 with h0 | h0; exact h0 hs; exact h0.2 rfl)]
    exact com_all hs L (i + 1) (fun x hx => h x (by simp [hx])) (by omega)
theorem com_same {code : Int} {s : Stt} (hs : s.1 = code / 100) (L : List (List UInt8)) (hL : L ≠ []) (h : ∀ t ∈ L, stOf (cutF t 32) = s) : comSt code L = s := by
  cases L with
  | nil => exact absurd rfl hL
  | cons t L =>
    unfold comSt comGo
    rw [h t (by simp), if_neg (by intro h0; rcases h0 with h0 | h0; exact h0 hs; exact absurd h0.1 (by decide))]
    exact com_all hs L 1 (fun x hx => h x (by simp [hx])) (by decide)
theorem com_back {k : Int} : ∀ (L : List (List UInt8)) (i : Nat) (c s : Stt), comGo k i c L = s → s ≠ (0, 0, 0) → (L ≠ [] → s.1 = k) ∧ (0 < i → c = s) ∧ ∀ t ∈ L, stOf (cutF t 32) = s
  | [], i, c, s, h, h0 => ⟨fun e => absurd rfl e, fun _ => h, fun t ht => by cases ht⟩
  | t :: L, i, c, s, h, h0 => by
    unfold comGo at h
    by_cases hc : (stOf (cutF t 32)).1 ≠ k ∨ (0 < i ∧ stOf (cutF t 32) ≠ c)
    · rw [if_pos hc] at h
      exact absurd h.symm h0
    · rw [if_neg hc] at h
      obtain ⟨h1, h2, h3⟩ := com_back L (i + 1) _ s h h0
      have h4 := h2 (by omega)
      have hk : (stOf (cutF t 32)).1 = k := Classical.not_not.1 (fun e => hc (.inl e))
      refine ⟨fun _ => by rw [← h4]; exact hk, fun hi => ?_, fun x hx => ?_⟩
      · rw [← h4]
        exact (Classical.not_not.1 (fun e => hc (.inr ⟨hi, fun e2 => e e2.symm⟩)))
      · rcases List.mem_cons.1 hx with rfl | hx
        · exact h4
        · exact h3 x hx
/- A reply, written. -/
def gT (s : Stt) (t : List UInt8) : List UInt8 := if s = (0, 0, 0) then t else wrSt s ++ 32 :: t
theorem hd_gT (code : Int) (s : Stt) (last : Bool) (t : List UInt8) : hdL code s last ++ t = dcI code ++ (if last then 32 else 45) :: gT s t := by
  unfold hdL gT
  by_cases h : s = (0, 0, 0)
  · rw [if_pos h, if_pos h]; simp
  · rw [if_neg h, if_neg h]; simp
theorem hdT_len (code : Int) (s : Stt) (last : Bool) (t : List UInt8) : t.length + (hdL code s last).length = (dcI code).length + 1 + (gT s t).length := by
  have := congrArg List.length (hd_gT code s last t)
  simp only [List.length_append, List.length_cons] at this
  omega
theorem rws_rp (code : Int) (s : Stt) (n : Nat) : ∀ (l : List (List UInt8)) (i : Nat) (h : l ≠ []), i + l.length = n → rwsL code s n i l = rpL (dcI code) (l.dropLast.map (gT s)) (gT s (l.getLast h)) true
  | [], _, h, _ => absurd rfl h
  | [t], i, _, hn => by
    simp only [List.length_singleton] at hn
    unfold rwsL rwsL
    rw [decide_eq_true hn, hd_gT]
    simp [rpL, rwE]
  | t :: t2 :: r, i, _, hn => by
    simp only [List.length_cons] at hn
    have ih := rws_rp code s n (t2 :: r) (i + 1) (by simp) (by simp only [List.length_cons]; omega)
    unfold rwsL
    rw [decide_eq_false (by omega), hd_gT, ih]
    simp [rpL, rwM]
theorem gT_com {s : Stt} (hs : isSt s = true) (t : List UInt8) (h0 : s ≠ (0, 0, 0)) : stOf (cutF (gT s t) 32) = s ∧ cutB (gT s t) 32 = t := by
  unfold gT
  rw [if_neg h0]
  have := cut_at 32 (wrSt s) t (wrSt_no s)
  rw [this.1, this.2]
  exact ⟨st_wr hs, rfl⟩
structure MayR (r : Ry) : Prop where
  cd : cdOk (dcI r.code)
  c0 : 0 ≤ r.code ∧ r.code ≤ 999
  st : r.st = (0, 0, 0) ∨ (isSt r.st = true ∧ r.st.1 = r.code / 100)
  n1 : 1 ≤ r.ls.length
  n2 : r.ls.length ≤ 64
  ls : ∀ t ∈ r.ls, (gT r.st t).length ≤ 506 ∧ txtB t = true
  no : r.st = (0, 0, 0) → comSt r.code r.ls = (0, 0, 0)
theorem may_of {r : Ry} (h0 : -9223372036854775808 ≤ r.code) (h1 : r.code ≤ 9223372036854775807) (h : mayR r = true) : MayR r := by
  unfold mayR at h
  simp only [Bool.and_eq_true, Bool.not_eq_true', Bool.and_eq_false_iff, decide_eq_false_iff_not] at h
  obtain ⟨⟨⟨h2, h3⟩, h4⟩, h5⟩ := h
  obtain ⟨hcd, hb⟩ := isCd_ok r.code h0 h1 h2
  have hl3 : (dcI r.code).length = 3 := by obtain ⟨x, y, z, e, _⟩ := hcd; rw [e]; rfl
  unfold mayB at h3
  simp only [Bool.or_eq_true, Bool.and_eq_true, decide_eq_true_eq] at h3
  unfold arB at h4
  simp only [Bool.and_eq_true, decide_eq_true_eq, List.all_eq_true] at h4
  refine ⟨hcd, hb, h3, h4.1.1, h4.1.2, fun t ht => ⟨?_, (h4.2 t ht).2⟩, fun e => ?_⟩
  · have := (h4.2 t ht).1
    rw [hdT_len] at this
    omega
  · rcases h5 with h5 | h5
    · exact absurd e h5
    · exact Classical.not_not.1 h5
theorem of_may {r : Ry} (h : MayR r) : mayR r = true := by
  have hl3 : (dcI r.code).length = 3 := by obtain ⟨x, y, z, e, _⟩ := h.cd; rw [e]; rfl
  have hc : isCd r.code = true := by
    have := isCd_of h.cd r.code.toNat (by have := h.c0; omega) rfl
    rwa [show (r.code.toNat : Int) = r.code by have := h.c0; omega] at this
  unfold mayR mayB arB
  rw [hc]
  simp only [Bool.and_eq_true, Bool.true_and, Bool.not_eq_true', Bool.and_eq_false_iff, decide_eq_false_iff_not, Bool.or_eq_true, decide_eq_true_eq, List.all_eq_true]
  refine ⟨⟨h.st, ⟨h.n1, h.n2⟩, fun t ht => ⟨?_, (h.ls t ht).2⟩⟩, ?_⟩
  · rw [hdT_len]
    have := (h.ls t ht).1
    omega
  · by_cases e : r.st = (0, 0, 0)
    · exact .inr (fun e2 => e2 (h.no e))
    · exact .inl e
theorem gT_tx (s : Stt) (t : List UInt8) (h : txtB t = true) : txtB (gT s t) = true := by
  unfold gT
  split
  · exact h
  · rw [show wrSt s ++ 32 :: t = wrSt s ++ ([32] ++ t) by simp, txt_app, txt_app, wrSt_txt, h]
    simp [txtB, tx_of 32 (.inr (.inr rfl))]
/-- What a reply that may be is written as, and what is read out of that. -/
theorem pr_rp {r : Ry} (h : MayR r) : ∃ ts u, prL r = rpL (dcI r.code) ts u true ∧ ts ++ [u] = r.ls.map (gT r.st) ∧ ts.length < 64 ∧ (∀ t ∈ ts, txtB t = true ∧ t.length ≤ 506) ∧ txtB u = true ∧ u.length ≤ 506 := by
  have hne : r.ls ≠ [] := fun e => by have := h.n1; rw [e] at this; simp at this
  have h2 := h.n2
  refine ⟨r.ls.dropLast.map (gT r.st), gT r.st (r.ls.getLast hne), rws_rp r.code r.st r.ls.length r.ls 0 hne (by omega), ?_, ?_, ?_, ?_, ?_⟩
  · rw [← List.map_singleton, ← List.map_append, List.dropLast_concat_getLast]
  · rw [List.length_map, List.length_dropLast]
    omega
  · intro t ht
    obtain ⟨x, hx, rfl⟩ := List.mem_map.1 ht
    have := h.ls x (List.dropLast_subset _ hx)
    exact ⟨gT_tx _ _ this.2, this.1⟩
  · exact gT_tx _ _ (h.ls _ (List.getLast_mem hne)).2
  · exact (h.ls _ (List.getLast_mem hne)).1
theorem rep_pr {r : Ry} (h : MayR r) : repOf (prL r) = r := by
  obtain ⟨ts, u, he, hm, -, ht, hu, -⟩ := pr_rp h
  have htx : textsT (prL r) = r.ls.map (gT r.st) := by
    rw [he, texts_rp h.cd ts u true (fun t h' => (ht t h').1) hu, if_pos rfl, hm]
  have hcd : numVal ((prL r).take 3) 999 = r.code := by
    rw [he, take_rp h.cd]
    have h0 := h.c0
    have := numVal_dec r.code.toNat (by omega)
    unfold dcI
    rw [this]
    omega
  have hne : r.ls ≠ [] := fun e => by have := h.n1; rw [e] at this; simp at this
  unfold repOf
  rw [htx, hcd]
  by_cases hs : r.st = (0, 0, 0)
  · have hg : gT r.st = id := funext fun t => by unfold gT; rw [if_pos hs]; rfl
    rw [hg, List.map_id, h.no hs, if_neg (by simp)]
    rw [← hs]
  · rcases h.st with h1 | ⟨h1, h2⟩
    · exact absurd h1 hs
    · have hc : comSt r.code (r.ls.map (gT r.st)) = r.st := com_same h2 _ (by simpa using hne) (fun t ht' => by
        obtain ⟨x, hx, rfl⟩ := List.mem_map.1 ht'
        exact (gT_com h1 x hs).1)
      rw [hc, if_pos hs, List.map_map]
      have : (fun t => cutB t 32) ∘ gT r.st = id := funext fun t => (gT_com h1 t hs).2
      rw [this, List.map_id]
/-- There and back. -/
theorem run_pr {r : Ry} (h : MayR r) (o : List Ry) : Sr.run ⟨Plc.nil, [], o, false⟩ (prL r) = ⟨Plc.nil, [], o ++ [r], false⟩ := by
  obtain ⟨ts, u, he, -, hl, ht, hu, hul⟩ := pr_rp h
  have := run_rp h.cd ts u true hl ht hu hul o
  rw [← he, rep_pr h] at this
  exact this
theorem run_all : ∀ (L : List Ry) (o : List Ry), (∀ r ∈ L, MayR r) → Sr.run ⟨Plc.nil, [], o, false⟩ (L.flatMap prL) = ⟨Plc.nil, [], o ++ L, false⟩
  | [], o, _ => by simp [run_nil]
  | r :: L, o, h => by
    rw [List.flatMap_cons, run_append, run_pr (h r (by simp)), run_all L _ (fun x hx => h x (by simp [hx]))]
    simp
/-- What is read out of right rows may be. -/
theorem may_rep {cd : List UInt8} (hc : cdOk cd) (ts : List (List UInt8)) (u : List UInt8) (b : Bool) (hl : ts.length < 64) (ht : ∀ t ∈ ts, txtB t = true ∧ t.length ≤ 506) (hu : txtB u = true) (hul : u.length ≤ 506) : MayR (repOf (rpL cd ts u b)) := by
  obtain ⟨n, hn1, hn2, hnv, hnd⟩ := code_num hc
  have htx := texts_rp hc ts u b (fun t h' => (ht t h').1) hu
  have hL : ∀ t ∈ textsT (rpL cd ts u b), txtB t = true ∧ t.length ≤ 506 := by
    rw [htx]
    intro t h'
    rcases List.mem_append.1 h' with h' | h'
    · exact ht t h'
    · rw [List.mem_singleton] at h'
      subst h'
      cases b
      · exact ⟨rfl, by simp⟩
      · exact ⟨hu, hul⟩
  have hlen : (textsT (rpL cd ts u b)).length = ts.length + 1 := by rw [htx]; simp
  have hcd : cdOk (dcI (n : Int)) := by unfold dcI; rw [Int.toNat_natCast, hnd]; exact hc
  unfold repOf
  rw [take_rp hc, hnv]
  generalize textsT (rpL cd ts u b) = L at *
  by_cases hs : comSt (n : Int) L = (0, 0, 0)
  · rw [if_neg (by simpa using hs)]
    refine ⟨hcd, by show 0 ≤ (n : Int) ∧ (n : Int) ≤ 999; omega, .inl hs, by show 1 ≤ L.length; omega, by show L.length ≤ 64; omega, fun t h' => ⟨?_, (hL t h').1⟩, fun _ => hs⟩
    show (gT (comSt (n : Int) L) t).length ≤ 506
    unfold gT
    rw [if_pos hs]
    exact (hL t h').2
  · rw [if_pos hs]
    obtain ⟨b1, -, b3⟩ := com_back L 0 (0, 0, 0) (comSt (n : Int) L) rfl hs
    have hne : L ≠ [] := fun e => by rw [e] at hlen; simp at hlen
    have h1 := b1 hne
    have hst : isSt (comSt (n : Int) L) = true := by
      cases L with
      | nil => exact absurd rfl hne
      | cons t L =>
        have h3 := b3 t (by simp)
        have := (st_of (l := cutF t 32) (by rw [h3]; exact hs)).1
        rwa [h3] at this
    refine ⟨hcd, by show 0 ≤ (n : Int) ∧ (n : Int) ≤ 999; omega, .inr ⟨hst, h1⟩, by show 1 ≤ (L.map _).length; rw [List.length_map]; omega, by show (L.map _).length ≤ 64; rw [List.length_map]; omega, fun x hx => ?_, fun e => absurd e hs⟩
    obtain ⟨t, h', rfl⟩ := List.mem_map.1 hx
    have h3 := b3 t h'
    have h4 := (st_of (l := cutF t 32) (by rw [h3]; exact hs)).2
    rw [h3] at h4
    have hw := wrSt_len hst
    show (gT (comSt (n : Int) L) (cutB t 32)).length ≤ 506 ∧ txtB (cutB t 32) = true
    unfold gT
    rw [if_neg hs]
    rcases cutR_any 32 t with hno | ⟨a, r, rfl, ha⟩
    · rw [(cut_no 32 t hno).2]
      refine ⟨?_, rfl⟩
      simp only [List.length_append, List.length_cons, List.length_nil]
      omega
    · have hc2 := cut_at 32 a r ha
      rw [hc2.1] at h4
      rw [hc2.2, h4]
      refine ⟨(hL _ h').2, ?_⟩
      have := (hL _ h').1
      rw [show a ++ 32 :: r = (a ++ [32]) ++ r by simp, txt_app, Bool.and_eq_true] at this
      exact this.2
end Go.Proofs.YtbfgefgadplcjaaDoor
