/-
  What Ascii tells (P8.12), in plain mathematics.
-/
import Derived.Test.YtnlgbopdbihnjaaGreatDoorDmW
import Derived.Test.YtnlgbopdbihnjaaGreatDoorCk8
import Derived.Test.YtnlgbopdbihnjaaGreatDoorPw8
import Derived.Test.YtnlgbopdbihnjaaGreatDoorChk
import Derived.Laws.OwnMore
namespace Go.Proofs.YtnlgbopdbihnjaaGreatDoor

theorem smB_colon_fin : ∀ b : Fin 256, (smB (UInt8.ofNat b.val) = 58 ↔ UInt8.ofNat b.val = 58) := by decide +kernel
theorem smB_colon (c : UInt8) : smB c = 58 ↔ c = 58 := by
  have := smB_colon_fin ⟨c.toNat, c.toNat_lt⟩
  simpa using this
theorem colonAt_is : ∀ {l : List UInt8} {k : Nat}, l[k]? = some 58 → (∀ c ∈ l.take k, c ≠ 58) → colonAt l = some k
  | [], _, h, _ => by simp at h
  | c :: r, 0, h, _ => by
    simp at h
    rw [colonAt, if_pos h]
  | c :: r, k + 1, h, hn => by
    rw [List.take_succ_cons] at hn
    rw [colonAt, if_neg (hn c (by simp)), colonAt_is (k := k) (by simpa using h) fun x hx => hn x (by simp [hx])]
    rfl
theorem spB_sml : ∀ l : List UInt8, spB lbB (sml l) = spB lbB l
  | [] => rfl
  | c :: r => by
    show spB lbB (smB c :: sml r) = _
    rw [spB, spB, ← (smB_facts c).1, spB_sml r]
theorem sml_append (x y : List UInt8) : sml (x ++ y) = sml x ++ sml y := by simp [sml]
theorem sml_len (x : List UInt8) : (sml x).length = x.length := by simp [sml]
theorem tagS_some {t : List UInt8} {k : Nat} (h : colonAt t = some k) : tagS t = sml (t.take k) ++ t.drop k := by
  unfold tagS
  rw [h]
theorem tagS_len (t : List UInt8) : (tagS t).length = t.length := by
  unfold tagS
  cases colonAt t with
  | none => rfl
  | some k =>
    show (sml (t.take k) ++ t.drop k).length = t.length
    rw [List.length_append, sml_len, ← List.length_append, List.take_append_drop]
theorem tagS_sml (t : List UInt8) : sml (tagS t) = sml t := by
  unfold tagS
  cases colonAt t with
  | none => rfl
  | some k =>
    show sml (sml (t.take k) ++ t.drop k) = sml t
    rw [sml_append, sml_twice, ← sml_append, List.take_append_drop]
theorem tagS_facts {t : List UInt8} {k : Nat} (h : colonAt t = some k) : (tagS t).take k = sml (t.take k) ∧ (tagS t).drop k = t.drop k ∧ colonAt (tagS t) = some k := by
  obtain ⟨h1, h2, h3⟩ := colonAt_some h
  have hl : (sml (t.take k)).length = k := by rw [sml_len, List.length_take]; omega
  have e1 : (tagS t).take k = sml (t.take k) := by
    rw [tagS_some h, List.take_append_of_le_length (by omega), List.take_of_length_le (by omega)]
  have e2 : (tagS t).drop k = t.drop k := by
    rw [tagS_some h, List.drop_append_of_le_length (by omega), List.drop_eq_nil_of_le (by omega), List.nil_append]
  refine ⟨e1, e2, colonAt_is ?_ ?_⟩
  · have : (tagS t)[k]? = ((tagS t).drop k)[0]? := by rw [List.getElem?_drop]; rfl
    rw [this, e2, List.getElem?_drop]
    exact h2
  · rw [e1]
    intro c hc
    obtain ⟨d, hd, rfl⟩ := List.mem_map.1 hc
    exact fun e => h3 d hd ((smB_colon d).1 e)
theorem tagS_twice (t : List UInt8) : tagS (tagS t) = tagS t := by
  cases h : colonAt t with
  | none =>
    have : tagS t = t := by unfold tagS; rw [h]
    rw [this, this]
  | some k =>
    obtain ⟨e1, e2, e3⟩ := tagS_facts h
    rw [tagS_some e3, e1, e2, sml_twice, ← tagS_some h]
theorem tagS_six (t : List UInt8) : sixB (tagS t) = sixB t := by
  unfold sixB
  rw [tagS_len]
  congr 2
  have : ∀ x : List UInt8, sml (x.take 5) = (sml x).take 5 := fun x => by simp [sml, List.map_take]
  rw [this, this, tagS_sml]
theorem tagS_tagged {t : List UInt8} {k : Nat} (h : colonAt t = some k) : tagged (tagS t) k = tagged t k := by
  obtain ⟨e1, e2, _⟩ := tagS_facts h
  obtain ⟨h1, _, _⟩ := colonAt_some h
  have e3 : (tagS t).drop (k + 1) = t.drop (k + 1) := by rw [← List.drop_drop, e2, List.drop_drop]
  have e4 : (k = 0 ∨ (tagS t)[k - 1]? = some 45) ↔ (k = 0 ∨ t[k - 1]? = some 45) := by
    rcases Nat.eq_zero_or_pos k with h0 | h0
    · simp [h0]
    · have a1 : (tagS t)[k - 1]? = ((tagS t).take k)[k - 1]? := by rw [List.getElem?_take, if_pos (by omega)]
      have a2 : (t.take k)[k - 1]? = t[k - 1]? := by rw [List.getElem?_take, if_pos (by omega)]
      have a3 : (sml (t.take k))[k - 1]? = (t[k - 1]?).map smB := by unfold sml; rw [List.getElem?_map, a2]
      rw [a1, e1, a3]
      cases t[k - 1]? with
      | none => simp
      | some c => simp [(smB_facts c).2.2.1]
  unfold tagged
  rw [e1, spB_sml, e3, tagS_len]
  simp only [e4]
theorem tagS_ch {t : List UInt8} (h : chTag t = 0) : chTag (tagS t) = 0 := by
  unfold chTag at *
  rw [tagS_len, tagS_six]
  cases hk : colonAt t with
  | none =>
    rw [hk] at h
    split at h
    · cases h
    · cases h
  | some k =>
    rw [(tagS_facts hk).2.2]
    rw [hk] at h
    dsimp only at *
    rw [tagS_tagged hk]
    exact h

theorem check_name {h : Ho} {wide : Bool} (hk : h.k = 1) (hc : check h wide = 0) : h.a = z16 ∧ (wd wide h.n).1 = 0 := by
  unfold check at hc
  rw [if_pos hk] at hc
  split at hc
  · exact ⟨‹_›, hc⟩
  · cases hc
theorem check_name' {n : List UInt8} {wide : Bool} (hw : (wd wide n).1 = 0) : check ⟨1, n, z16⟩ wide = 0 := by
  unfold check
  rw [if_pos rfl, if_pos rfl, hw]
theorem check_tag {h : Ho} {wide : Bool} (hk : h.k = 4) (hc : check h wide = 0) : h.a = z16 ∧ chTag h.n = 0 := by
  unfold check at hc
  rw [if_neg (by omega), if_neg (by omega), if_neg (by omega), if_pos hk] at hc
  split at hc
  · exact ⟨‹_›, hc⟩
  · cases hc
theorem check_tag' {n : List UInt8} {wide : Bool} (hw : chTag n = 0) : check ⟨4, n, z16⟩ wide = 0 := by
  unfold check
  rw [if_neg (show ¬ (4 : Int) = 1 by decide), if_neg (show ¬ (4 : Int) = 2 by decide), if_neg (show ¬ (4 : Int) = 3 by decide), if_pos rfl, if_pos rfl, hw]
theorem check_kind {h : Ho} {wide : Bool} (hc : check h wide = 0) : h.k = 1 ∨ h.k = 2 ∨ h.k = 3 ∨ h.k = 4 := by
  unfold check at hc
  by_cases h1 : h.k = 1
  · exact Or.inl h1
  by_cases h2 : h.k = 2
  · exact Or.inr (Or.inl h2)
  by_cases h3 : h.k = 3
  · exact Or.inr (Or.inr (Or.inl h3))
  by_cases h4 : h.k = 4
  · exact Or.inr (Or.inr (Or.inr h4))
  rw [if_neg h1, if_neg h2, if_neg h3, if_neg h4] at hc
  cases hc

theorem wires_err {f : List UInt8 → List UInt8} {h : Ho} (he : (ascii f h).2 ≠ 0) : (ascii f h).1 = ho0 ∧ (check h true = (ascii f h).2 ∨ (h.k = 1 ∧ check h true = 0 ∧ ((ascii f h).2 = 80 ∨ (ascii f h).2 = 81))) := by
  unfold ascii at *
  by_cases hc : check h true = 0
  · rw [if_pos hc] at he ⊢
    by_cases h1 : h.k = 1
    · rw [if_pos h1] at he ⊢
      by_cases h2 : (asciiD f h.n).2 = 0
      · rw [if_pos h2] at he
        exact absurd rfl he
      · rw [if_neg h2]
        refine ⟨rfl, Or.inr ⟨h1, hc, ?_⟩⟩
        dsimp only
        unfold asciiD at h2 ⊢
        split
        · exact Or.inl rfl
        · rename_i h3
          rw [if_neg h3] at h2
          split
          · exact Or.inr rfl
          · rename_i h4
            rw [if_neg h4] at h2
            exact absurd rfl h2
    · rw [if_neg h1] at he
      split at he
      · exact absurd rfl he
      · exact absurd rfl he
  · rw [if_neg hc]
    exact ⟨rfl, Or.inl rfl⟩
theorem wires_ok {f : List UInt8 → List UInt8} (hf : Labs f) {h : Ho} (he : (ascii f h).2 = 0) : check (ascii f h).1 false = 0 ∧ same f (ascii f h).1 h = true ∧ ascii f (ascii f h).1 = ((ascii f h).1, 0) ∧ (ascii f h).1.k = h.k ∧ (ascii f h).1.a = h.a ∧
    (h.k = 1 → ∀ c ∈ (ascii f h).1.n, c.toNat < 128 ∧ ¬ (65 ≤ c.toNat ∧ c.toNat ≤ 90)) := by
  have hc : check h true = 0 := by
    cases hx : check h true with
    | zero => rfl
    | succ m =>
      unfold ascii at he
      rw [if_neg (by omega)] at he
      exact he ▸ hx.symm ▸ rfl
  have fin : ∀ a : Ho, ascii f h = (a, 0) → check a true = 0 → a.k = h.k → ascii f a = (a, 0) → same f a h = true := fun a e1 e2 e3 e4 => by
    rw [same_iff]
    exact ⟨e3, e2, hc, Or.inl ⟨by rw [e4], he, by rw [e4, e1]⟩⟩
  rcases check_kind hc with h1 | h1 | h1 | h1
  · obtain ⟨hz, hw⟩ := check_name h1 hc
    have h2 : (asciiD f h.n).2 = 0 := by
      unfold ascii at he
      rw [if_pos hc, if_pos h1] at he
      by_cases h2 : (asciiD f h.n).2 = 0
      · exact h2
      · rw [if_neg h2] at he; exact absurd he h2
    obtain ⟨w1, w2, w3⟩ := asciiD_ok hf hw h2
    have e : ascii f h = (⟨1, (asciiD f h.n).1, z16⟩, 0) := by
      unfold ascii
      rw [if_pos hc, if_pos h1, if_pos h2, hz]
    have ct : check ⟨1, (asciiD f h.n).1, z16⟩ true = 0 := check_name' (by rw [wd_wide w1])
    have e2 : ascii f ⟨1, (asciiD f h.n).1, z16⟩ = (⟨1, (asciiD f h.n).1, z16⟩, 0) := by
      unfold ascii
      rw [if_pos ct, if_pos rfl]
      dsimp only
      rw [w2, if_pos rfl]
    have hs := fin _ e ct h1.symm e2
    rw [e]
    exact ⟨check_name' w1, hs, e2, h1.symm, hz.symm, fun _ => w3⟩
  · have e := ascii_addr f (Or.inl h1) hc
    rw [e]
    exact ⟨(check_v4 h1).2 ((check_v4 h1).1 hc), fin h e hc rfl e, e, rfl, rfl, fun h => by omega⟩
  · have e := ascii_addr f (Or.inr h1) hc
    rw [e]
    exact ⟨(check_v6 h1).2 ((check_v6 h1).1 hc), fin h e hc rfl e, e, rfl, rfl, fun h => by omega⟩
  · obtain ⟨hz, hw⟩ := check_tag h1 hc
    have e : ascii f h = (⟨4, tagS h.n, z16⟩, 0) := by
      unfold ascii
      rw [if_pos hc, if_neg (by omega), if_pos h1, hz]
    have ct : ∀ w, check ⟨4, tagS h.n, z16⟩ w = 0 := fun w => check_tag' (tagS_ch hw)
    have e2 : ascii f ⟨4, tagS h.n, z16⟩ = (⟨4, tagS h.n, z16⟩, 0) := by
      unfold ascii
      rw [if_pos (ct true), if_neg (show ¬ (4 : Int) = 1 by decide), if_pos rfl, tagS_twice]
    rw [e]
    exact ⟨ct false, fin _ e (ct true) h1.symm e2, e2, h1.symm, hz.symm, fun h => by omega⟩

end Go.Proofs.YtnlgbopdbihnjaaGreatDoor
/-
  The contract of domain.Print.
-/
namespace Go.Proofs.YtnlgbopdbihnjaaGreatDoor
open Go.RowKit

def printV (r : List UInt8 × Nat) : Value := .tuple #[.string ⟨r.1.toArray⟩, .int .i64 (r.2 : Nat)]
set_option maxHeartbeats 4000000 in
set_option maxRecDepth 100000 in
theorem print_any (h : Ho) (ok : h.Ok) (w : World) (hT : Tb w) (hP : PowTab w) (hn : h.n.length ≤ 140737488351232) :
    Calls Tryz.prog 20 #[hostV h] w fun e w' => e = .returned (printV (print h)) ∧ Below w.heap.size w w' := by
  have ha := ok.len
  have HT : Hid (∀ wx, Below w.heap.size w wx → Tb wx) := fun wx hb => hT.below hb
  have HPT : Hid (∀ wx, Below w.heap.size w wx → PowTab wx) := fun wx hb => hP.below hb
  have hsz := hostC_size h ha
  obtain ⟨HC, hHC⟩ : ∃ HC, HC = hostC h := ⟨_, rfl⟩
  have e1 : hostV h = .agg HC := by rw [hHC]; rfl
  have HHC : Hid (HC = hostC h) := hHC
  rw [← hHC] at hsz
  have L1 : Hid (Lies (w.alloc (.cells HC 28)) w.heap.size HC 28) := Lies.new w _ _
  have HB : Hid (Below w.heap.size w (w.alloc (.cells HC 28))) := (Below.refl _ _).alloc (Nat.le_refl _) _
  have HCK : Hid (Calls Tryz.prog 21 #[.agg HC, .bool true] (w.alloc (.cells HC 28)) fun e w' => e = .returned (.int .i64 (check h true : Nat)) ∧ Below (w.alloc (.cells HC 28)).heap.size (w.alloc (.cells HC 28)) w') := by
    rw [← e1]
    exact chk_any h ha true _ (HT.out _ HB.out) hn
  rw [e1]
  clear hT hP hHC e1
  go_enter Tryz.func20, Tryz.ntmps20
  go_wp2_with (refine wpList_load_row rfl 28 _ rfl w.heap.size rfl HC 28 _ L1.out Tryz.underlying28 rfl (by rw [hsz]; exact infoHo) ?_)
  refine HCK.out.mono ?_
  rintro e w1 ⟨rfl, hb1⟩
  have K1 : Hid (Lies w1 w.heap.size HC 28) := L1.out.below hb1 L1.out.lt
  have KB : Hid (Below w.heap.size w w1) := HB.out.trans (hb1.mono (Nat.le_of_lt L1.out.lt))
  clear hb1 L1 HB HCK
  have hz1 := K1.out.lt
  have K1h : Lies w1 w.heap.size (hostC h) 28 := by rw [← HHC.out]; exact K1.out
  obtain ⟨c0, c1⟩ := host_cells K1h
  by_cases hck : check h true = 0
  case neg =>
    have HV : Hid (print h = ([], check h true)) := by show _ = _; unfold print; rw [if_neg hck]
    have hck' : ((check h true : Int) == 0) = false := by rw [beq_eq_false_iff_ne]; omega
    generalize check h true = ck at HV hck' ⊢
    clear hck
    go_wp2_with fail
    refine bodyPost_ret (v := .tuple #[.string ⟨#[]⟩, .int .i64 (ck : Int)]) (by simp [results, Tryz.results20, go_sem]) rfl ⟨by rw [HV.out]; rfl, KB.out⟩
  rw [hck]
  by_cases k2 : h.k = 2
  · have HV : Hid (print h = ([91] ++ print4 (h.a.take 4) ++ [93], 0)) := by show _ = _; unfold print; rw [if_pos hck, if_pos k2]
    rw [k2] at c0
    obtain ⟨q0, q1, q2, q3, hq⟩ : ∃ q0 q1 q2 q3, h.a.take 4 = [q0, q1, q2, q3] := by
      have : (h.a.take 4).length = 4 := by rw [List.length_take]; omega
      match h.a.take 4, this with
      | [q0, q1, q2, q3], _ => exact ⟨q0, q1, q2, q3, rfl⟩
    have HM4 := host_mid4 K1h
    have hb4 : ∀ n ∈ [q0, q1, q2, q3], n < 256 := fun n hn => by rw [← hq] at hn; exact ok.byt n (List.mem_of_mem_take hn)
    rw [hq] at HM4 HV
    have HS4 : Hid (w1.rangeAt w.heap.size 2 [.int .u8 (q0 : Nat), .int .u8 (q1 : Nat), .int .u8 (q2 : Nat), .int .u8 (q3 : Nat)]) := HM4
    have hlen := print4_len q0 q1 q2 q3
    have HPV : Hid (Calls Tryz.prog 26 #[.agg #[.int .u8 (q0 : Nat), .int .u8 (q1 : Nat), .int .u8 (q2 : Nat), .int .u8 (q3 : Nat)]] w1 fun e w' => e = .returned (.string ⟨(print4 [q0, q1, q2, q3]).toArray⟩) ∧ Below w1.heap.size w1 w') := printv4_any [q0, q1, q2, q3] rfl hb4 w1 (HPT.out _ KB.out)
    have hat := array_at w.heap.size
    generalize print4 [q0, q1, q2, q3] = ps at HV hlen HPV
    obtain ⟨S, hS⟩ : ∃ S : ByteArray, S = ⟨ps.toArray⟩ := ⟨_, rfl⟩
    have hSs : (S.size : Int) ≤ 100 := by rw [hS]; show ((ps.toArray.size : Nat) : Int) ≤ _; rw [List.size_toArray]; omega
    have HF : Hid ((⟨([91] ++ ps ++ [93]).toArray⟩ : ByteArray) = ⟨#[91]⟩ ++ S ++ ⟨#[93]⟩) := by
      show _ = _
      rw [hS, show (⟨#[91]⟩ : ByteArray) = ⟨([91] : List UInt8).toArray⟩ from rfl, show (⟨#[93]⟩ : ByteArray) = ⟨([93] : List UInt8).toArray⟩ from rfl, str_append, str_append]
    rw [← hS] at HPV
    have ad1 : ∀ W, (Op.stringOp .add ⟨#[91]⟩ S).run Tryz.prog W = .ok (.string (⟨#[91]⟩ ++ S)) W := fun W => run_string_add _ _ _ (by decide) (by omega)
    have ad2 : ∀ W, (Op.stringOp .add (⟨#[91]⟩ ++ S) ⟨#[93]⟩).run Tryz.prog W = .ok (.string (⟨#[91]⟩ ++ S ++ ⟨#[93]⟩)) W := fun W => run_string_add _ _ _ (by rw [ByteArray.size_append]; show ((1 + S.size : Nat) : Int) ≤ _; omega) (by decide)
    clear HM4 hq hb4 k2 hck hS hSs hlen
    go_wp2_with (refine wpList_load_mid rfl 46 _ rfl w.heap.size 2 rfl [.int .u8 (q0 : Nat), .int .u8 (q1 : Nat), .int .u8 (q2 : Nat), .int .u8 (q3 : Nat)] _ HS4.out Tryz.underlying46 rfl info4 ?_)
    refine HPV.out.mono ?_
    rintro e w2 ⟨rfl, hb2⟩
    have KB2 : Hid (Below w.heap.size w w2) := KB.out.trans (hb2.mono (Nat.le_of_lt hz1))
    clear hb2 HPV c0 c1 K1h
    go_wp2_with fail
    refine bodyPost_ret (v := .tuple #[.string (⟨#[91]⟩ ++ S ++ ⟨#[93]⟩), .int .i64 0]) (by simp [results, Tryz.results20, go_sem]) rfl ⟨by rw [HV.out]; unfold printV; rw [HF.out]; rfl, KB2.out⟩
  have k2' : (h.k == 2) = false := by rw [beq_eq_false_iff_ne]; exact k2
  by_cases k3 : h.k = 3
  · have HV : Hid (print h = ([91, 73, 80, 118, 54, 58] ++ print6 h.a ++ [93], 0)) := by show _ = _; unfold print; rw [if_pos hck, if_neg k2, if_pos k3]
    rw [k3] at c0
    have HM := host_mid K1h
    obtain ⟨A, hA⟩ : ∃ A, A = h.a.map fun n => Value.int .u8 (n : Nat) := ⟨_, rfl⟩
    have hAl : A.length = 16 := by rw [hA, List.length_map, ha]
    rw [← hA] at HM
    have HMID : Hid (w1.rangeAt w.heap.size 2 A) := HM
    have hlen := print6_len h.a ha ok.byt
    have HPV : Hid (Calls Tryz.prog 16 #[.agg A.toArray] w1 fun e w' => e = .returned (.string ⟨(print6 h.a).toArray⟩) ∧ Below w1.heap.size w1 w') := by
      rw [hA]
      exact printv6_any h.a ha ok.byt w1 (HT.out _ KB.out).t64
    generalize print6 h.a = ps at HV hlen HPV
    obtain ⟨S, hS⟩ : ∃ S : ByteArray, S = ⟨ps.toArray⟩ := ⟨_, rfl⟩
    have hSs : (S.size : Int) ≤ 100 := by rw [hS]; show ((ps.toArray.size : Nat) : Int) ≤ _; rw [List.size_toArray]; omega
    have HF : Hid ((⟨([91, 73, 80, 118, 54, 58] ++ ps ++ [93]).toArray⟩ : ByteArray) = ⟨#[91, 73, 80, 118, 54, 58]⟩ ++ S ++ ⟨#[93]⟩) := by
      show _ = _
      rw [hS, show (⟨#[91, 73, 80, 118, 54, 58]⟩ : ByteArray) = ⟨([91, 73, 80, 118, 54, 58] : List UInt8).toArray⟩ from rfl, show (⟨#[93]⟩ : ByteArray) = ⟨([93] : List UInt8).toArray⟩ from rfl, str_append, str_append]
    rw [← hS] at HPV
    have ad1 : ∀ W, (Op.stringOp .add ⟨#[91, 73, 80, 118, 54, 58]⟩ S).run Tryz.prog W = .ok (.string (⟨#[91, 73, 80, 118, 54, 58]⟩ ++ S)) W := fun W => run_string_add _ _ _ (by decide) (by omega)
    have ad2 : ∀ W, (Op.stringOp .add (⟨#[91, 73, 80, 118, 54, 58]⟩ ++ S) ⟨#[93]⟩).run Tryz.prog W = .ok (.string (⟨#[91, 73, 80, 118, 54, 58]⟩ ++ S ++ ⟨#[93]⟩)) W := fun W => run_string_add _ _ _ (by rw [ByteArray.size_append]; show ((6 + S.size : Nat) : Int) ≤ _; omega) (by decide)
    clear HM k2 k3 hck hS hSs hlen hA
    go_wp2_with (refine wpList_load_mid rfl 26 _ rfl w.heap.size 2 rfl A _ HMID.out Tryz.underlying26 rfl (by rw [hAl]; exact info16) ?_)
    refine HPV.out.mono ?_
    rintro e w2 ⟨rfl, hb2⟩
    have KB2 : Hid (Below w.heap.size w w2) := KB.out.trans (hb2.mono (Nat.le_of_lt hz1))
    clear hb2 HPV c0 c1 K1h
    go_wp2_with fail
    refine bodyPost_ret (v := .tuple #[.string (⟨#[91, 73, 80, 118, 54, 58]⟩ ++ S ++ ⟨#[93]⟩), .int .i64 0]) (by simp [results, Tryz.results20, go_sem]) rfl ⟨by rw [HV.out]; unfold printV; rw [HF.out]; rfl, KB2.out⟩
  have k3' : (h.k == 3) = false := by rw [beq_eq_false_iff_ne]; exact k3
  obtain ⟨S, hS⟩ : ∃ S : ByteArray, S = ⟨h.n.toArray⟩ := ⟨_, rfl⟩
  rw [← hS] at c1
  by_cases k4 : h.k = 4
  · have HV : Hid (print h = ([91] ++ h.n ++ [93], 0)) := by show _ = _; unfold print; rw [if_pos hck, if_neg k2, if_neg k3, if_pos k4]
    rw [k4] at c0
    have hnl : h.n.length ≤ 253 := by
      have := (check_tag k4 hck).2
      unfold chTag at this
      rcases Nat.lt_or_ge 253 h.n.length with hl | hl
      · rw [if_pos hl] at this; cases this
      · exact hl
    have hSs : (S.size : Int) ≤ 253 := by rw [hS]; show ((h.n.toArray.size : Nat) : Int) ≤ _; rw [List.size_toArray]; omega
    have HF : Hid ((⟨([91] ++ h.n ++ [93]).toArray⟩ : ByteArray) = ⟨#[91]⟩ ++ S ++ ⟨#[93]⟩) := by
      show _ = _
      rw [hS, show (⟨#[91]⟩ : ByteArray) = ⟨([91] : List UInt8).toArray⟩ from rfl, show (⟨#[93]⟩ : ByteArray) = ⟨([93] : List UInt8).toArray⟩ from rfl, str_append, str_append]
    have ad1 : ∀ W, (Op.stringOp .add ⟨#[91]⟩ S).run Tryz.prog W = .ok (.string (⟨#[91]⟩ ++ S)) W := fun W => run_string_add _ _ _ (by decide) (by omega)
    have ad2 : ∀ W, (Op.stringOp .add (⟨#[91]⟩ ++ S) ⟨#[93]⟩).run Tryz.prog W = .ok (.string (⟨#[91]⟩ ++ S ++ ⟨#[93]⟩)) W := fun W => run_string_add _ _ _ (by rw [ByteArray.size_append]; show ((1 + S.size : Nat) : Int) ≤ _; omega) (by decide)
    clear k2 k3 k4 hck hS hSs hnl
    go_wp2_with fail
    refine bodyPost_ret (v := .tuple #[.string (⟨#[91]⟩ ++ S ++ ⟨#[93]⟩), .int .i64 0]) (by simp [results, Tryz.results20, go_sem]) rfl ⟨by rw [HV.out]; unfold printV; rw [HF.out]; rfl, KB.out⟩
  have k4' : (h.k == 4) = false := by rw [beq_eq_false_iff_ne]; exact k4
  have HV : Hid (print h = (h.n, 0)) := by show _ = _; unfold print; rw [if_pos hck, if_neg k2, if_neg k3, if_neg k4]
  have HSS : Hid (S = ⟨h.n.toArray⟩) := hS
  clear k2 k3 k4 hck hS
  go_wp2_with fail
  refine bodyPost_ret (v := .tuple #[.string S, .int .i64 0]) (by simp [results, Tryz.results20, go_sem]) rfl ⟨by rw [HV.out, HSS.out]; rfl, KB.out⟩
end Go.Proofs.YtnlgbopdbihnjaaGreatDoor
/-
  Rows of numbers in memory, of any kind of whole numbers, and such rows that a call makes for itself.
-/
namespace Go.Proofs.YtnlgbopdbihnjaaGreatDoor
open Go.RowKit

/-- Numbers as cells. -/
def cellsN (k : IntKind) (l : List Int) : List Value := l.map fun x => Value.int k x
theorem cellsN_length (k : IntKind) (l : List Int) : (cellsN k l).length = l.length := by simp [cellsN]
theorem cellsN_append (k : IntKind) (l r : List Int) : cellsN k (l ++ r) = cellsN k l ++ cellsN k r := by simp [cellsN]
theorem cellsN_at (k : IntKind) (l : List Int) (j : Nat) (h : j < l.length) : (cellsN k l)[j]? = some (.int k l[j]) := by simp [cellsN, List.getElem?_eq_getElem h]
theorem cellsN_one (k : IntKind) (l : List Int) : ∀ v ∈ cellsN k l, v.oneCell' = true := by
  intro v hv
  simp only [cellsN, List.mem_map] at hv
  obtain ⟨b, _, rfl⟩ := hv
  rfl
/-- A list's address and the numbers that lie there. -/
def Nts (k : IntKind) (a : Option Addr) (l : List Int) (w : World) : Prop := l = [] ∨ ∃ g o, a = some ⟨g, o, none⟩ ∧ g < w.heap.size ∧ ∀ j, (h : j < l.length) → w.cell? ⟨g, o + j, none⟩ = some (.int k l[j])
theorem Nts.below {k : IntKind} {a : Option Addr} {l : List Int} {w w' : World} (h : Nts k a l w) (hb : Below w.heap.size w w') : Nts k a l w' := by
  rcases h with h | ⟨g, o, e, hg, hr⟩
  · exact .inl h
  · exact .inr ⟨g, o, e, Nat.lt_of_lt_of_le hg hb.size, fun j hj => (hb.cell (p := ⟨g, o + j, none⟩) hg).trans (hr j hj)⟩
theorem Nts.cell {k : IntKind} {a : Option Addr} {l : List Int} {w : World} (h : Nts k a l w) (j : Nat) (hj : j < l.length) : ∃ g o, a = some ⟨g, o, none⟩ ∧ g < w.heap.size ∧ w.cell? ⟨g, o + j, none⟩ = some (.int k l[j]) := by
  rcases h with rfl | ⟨g, o, e, hg, hr⟩
  · simp at hj
  · exact ⟨g, o, e, hg, hr j hj⟩
theorem Nts.but {k : IntKind} {g : Nat} {a : Option Addr} {l : List Int} {w w' : World} (hb : Nts k a l w) (h : But g w w') (hne : ∀ ad, a = some ad → ad.block ≠ g) : Nts k a l w' := by
  rcases hb with hb | ⟨b, o, e, hb, hr⟩
  · exact .inl hb
  · exact .inr ⟨b, o, e, Nat.lt_of_lt_of_le hb h.size, fun j hj => (World.cell?_of_block (w := w) (a := ⟨b, o + j, none⟩) (h.block b hb (hne _ e))).trans (hr j hj)⟩
theorem nts_none {k : IntKind} {l : List Int} {w : World} (h : Nts k none l w) : l = [] := by
  rcases h with h | ⟨g, o, e, _⟩
  · exact h
  · cases e
theorem nts_news {k : IntKind} {ad : Addr} {l : List Int} {w : World} (h : Nts k (some ad) l w) : ∀ j u, (cellsN k l)[j]? = some u → w.cell? (ad.add j) = some u := by
  intro j u hu
  have hj : j < l.length := by
    have := (List.getElem?_eq_some_iff.1 hu).1
    simpa [cellsN] using this
  obtain ⟨g, o, e, _, hc⟩ := h.cell j hj
  injection e with e
  subst e
  rw [Addr.add_lit, hc, ← hu, cellsN_at k l j hj]
/-- A row that the call made, as a list of numbers. -/
theorem own_nts {w : World} {k : IntKind} {base n e : Nat} {v : Value} {l : List Int} (h : w.ownsRow base e 1 v n (cellsN k l)) : ∃ a cap, v = .slice a n cap ∧ Nts k a l w ∧ l.length = n ∧ (a = none → cap = 0) ∧ n ≤ cap ∧ ∀ ad, a = some ad → base ≤ ad.block ∧ ad.block < w.heap.size ∧ ad.off = 0 ∧ ad.spot = none := by
  obtain ⟨h1, h2⟩ := id h
  have hl : l.length = n := by rw [cellsN_length] at h1; omega
  rcases h2 with ⟨rfl, h0⟩ | ⟨g, cap, cur, rfl, hb, hg, hcap, _⟩
  · exact ⟨none, 0, by rw [h0], .inl (List.eq_nil_of_length_eq_zero (hl.trans h0)), hl, fun _ => rfl, by omega, fun ad e => by cases e⟩
  · refine ⟨_, cap, rfl, .inr ⟨g, 0, rfl, (Array.getElem?_eq_some_iff.1 hg).1, fun j hj => ?_⟩, hl, (fun e => by cases e), hcap, fun ad e => ?_⟩
    · have := h.cellAt j (by omega)
      rw [Nat.zero_add, this, cellsN_at k l j hj]
    · injection e with e
      subst e
      exact ⟨hb, (Array.getElem?_eq_some_iff.1 hg).1, rfl, rfl⟩
theorem ownN_keep {w w' : World} {B n e m : Nat} {v : Value} {xs : List Value} (h : w.ownsRow B e m v n xs) (hb : ∀ k, v.ownBlock = some k → w'.heap[k]? = w.heap[k]?) : w'.ownsRow B e m v n xs := by
  obtain ⟨h1, h2⟩ := h
  refine ⟨h1, ?_⟩
  rcases h2 with h2 | ⟨g, cap, cur, rfl, hB, hg, hr⟩
  · exact .inl h2
  · exact .inr ⟨g, cap, cur, rfl, hB, by rw [hb g rfl]; exact hg, hr⟩
theorem ownN_below {w w' : World} {B n e m : Nat} {v : Value} {xs : List Value} (h : w.ownsRow B e m v n xs) (hb : Below w.heap.size w w') : w'.ownsRow B e m v n xs := ownN_keep h (fun k hk => hb.block k (h.lt k hk).2)
theorem ownN_apart {w : World} {B n e m g t : Nat} {v : Value} {xs : List Value} {cs : Array Value} (h : w.ownsRow B e m v n xs) (hl : Lies w g cs t) (ht : t ≠ e) : ∀ k, v.ownBlock = some k → k ≠ g := by
  intro k hk e
  subst e
  rcases h.2 with ⟨rfl, _⟩ | ⟨g', cap, cur, rfl, hB, hg, _⟩
  · cases hk
  · injection hk with hk
    subst hk
    exact ht (lies_kind hl hg)
theorem ownN_shape {w : World} {base n e m : Nat} {v : Value} {xs : List Value} (h : w.ownsRow base e m v n xs) : ∃ a cap, v = .slice a n cap := by
  rcases h.2 with ⟨rfl, h0⟩ | ⟨g, cap, cur, hv, _⟩
  · exact ⟨none, 0, by rw [h0]⟩
  · exact ⟨_, _, hv⟩
/-- One number that has just been laid. -/
theorem one_nts (w : World) (t : TypeId) (k : IntKind) (x : Int) : Nts k (some ⟨w.heap.size, 0, none⟩) [x] (w.alloc (.cells #[.int k x] t)) :=
  .inr ⟨w.heap.size, 0, rfl, by simp, fun j hj => by
    obtain rfl : j = 0 := by simpa using hj
    simp⟩
/-- One number more behind a row of the call's own. -/
theorem wpList_append_num {ops : Array Oper} {rest : List Oper} {o : Oper} {a : Act} {w : World} {Q : Exit → Act → World → Prop} (hgd : o.guard = none) (s x : Operand) (T e by' : Nat) (k : IntKind)
    (hT : Tryz.prog.underlying T = some (.slice e)) (hI : (Tryz.prog.info? e).map (fun i => (i.zero, i.size, i.bytes)) = some (some (.int k 0), 1, by')) (hby : 0 < by')
    (ho : o.op = .call { callee := .builtin .append, args := #[s, x], argTypes := #[T, T] }) (base : Nat) (v : Value) (n : Nat) (xs : List Int) (hs : a.eval s = v) (hown : w.ownsRow base e 1 v n (cellsN k xs))
    (ad : Addr) (y : Int) (c : Nat) (hx : a.eval x = .slice (some ad) 1 c) (hb : Nts k (some ad) [y] w) (hbytes : (n + 1) * by' ≤ 140737488355328) (hbase : base ≤ w.heap.size)
    (h : ∀ v' w', w'.ownsRow base e 1 v' (n + 1) (cellsN k (xs ++ [y])) → w.grownBy w' v.ownBlock → wpList Tryz.prog ops Q rest (a.put o.dst v') w') : wpList Tryz.prog ops Q (o :: rest) a w := by
  obtain ⟨i0, hi, hz0, hz1, hz2⟩ := info_parts hI
  have hn : n + 1 ≤ 140737488355328 := Nat.le_trans (Nat.le_mul_of_pos_right _ hby) hbytes
  refine wpList_append_own _ hgd s x T ho base e i0 (.int k 0) 1 by' hT hi hz0 hz1 hz2 rfl (by decide) v n _ hs hown ad 1 c (cellsN k [y]) hx (by rw [cellsN_length]; rfl) (nts_news hb) (cellsN_one k _) (by unfold maxLen; omega) hbytes hbase ?_
  intro v' w' hown' hgrow _
  exact h v' w' (by rw [cellsN_append]; exact hown') hgrow
theorem own_nilN (w : World) (B e : Nat) (k : IntKind) : w.ownsRow B e 1 (.slice none 0 0) 0 (cellsN k []) := ⟨rfl, .inl ⟨rfl, rfl⟩⟩
theorem madeN (k : IntKind) (n : Nat) : (madeCells #[Value.int k 0] n).toList = cellsN k (List.replicate n 0) := by
  apply List.ext_getElem?
  intro i
  by_cases h : i < n
  · simp [madeCells, cellsN, h, Nat.mod_one]
  · rw [List.getElem?_eq_none (by simp [madeCells]; omega), List.getElem?_eq_none (by simp [cellsN]; omega)]
/-- A row of noughts with room behind it. -/
theorem make_roomN (w : World) (T e by' : Nat) (k : IntKind) (hT : Tryz.prog.underlying T = some (.slice e)) (hI : (Tryz.prog.info? e).map (fun i => (i.zero, i.size, i.bytes)) = some (some (.int k 0), 1, by')) (hby : 0 < by')
    (n c : Nat) (x y : Int) (hx : x = (n : Int)) (hy : y = (c : Int)) (hc : n ≤ c) (hl : by' * c ≤ 281474976710656) (base : Nat) (hb : base ≤ w.heap.size) :
    ∃ w', (Instr.makeSlice T (.int .i64 x) (.int .i64 y)).run Tryz.prog w = .ok (.slice (some ⟨w.heap.size, 0, none⟩) n c) w' ∧
      w'.ownsRow base e 1 (.slice (some ⟨w.heap.size, 0, none⟩) n c) n (cellsN k (List.replicate n 0)) ∧ Below w.heap.size w w' ∧ w'.heap.size = w.heap.size + 1 := by
  subst hx hy
  obtain ⟨i0, hi, hz0, hz1, hz2⟩ := info_parts hI
  have hcl : c ≤ 281474976710656 := Nat.le_trans (Nat.le_mul_of_pos_left _ hby) hl
  have hr := run_make (P := Tryz.prog) w T e i0 (.int k 0) hT hi hz0 .i64 .i64 n c (by omega) (by omega) (by rw [hz2]; first | omega | exact (by exact_mod_cast hl) | (rw [Nat.mul_comm]; exact (by exact_mod_cast hl))) (by omega)
  rw [hz1, Nat.mul_one, Int.toNat_natCast, Int.toNat_natCast] at hr
  refine ⟨_, hr, ?_, (Below.refl _ _).alloc (Nat.le_refl _) _, by simp⟩
  refine ⟨by rw [cellsN_length]; simp, .inr ⟨w.heap.size, c, _, rfl, hb, heap_alloc_last w _, hc, by unfold maxLen; omega, by rw [size_madeCells, Nat.mul_one], ?_⟩⟩
  show ((madeCells #[Value.int k 0] c).toList).take (n * 1) = _
  rw [madeN, Nat.mul_one]
  simp [cellsN, Nat.min_eq_left hc]

theorem infoR : (Tryz.prog.info? 21).map (fun i => (i.zero, i.size, i.bytes)) = some (some (.int .i32 0), 1, 4) := by kernel_rfl
theorem infoI : (Tryz.prog.info? 3).map (fun i => (i.zero, i.size, i.bytes)) = some (some (.int .i64 0), 1, 8) := by kernel_rfl
end Go.Proofs.YtnlgbopdbihnjaaGreatDoor
