/-
  The laid variables that the walks read.
-/
import Derived.Test.YtdgepnfgjgbkoabDoorChk2
import Derived.Test.YtdgepnfgjgbkoabDoorLate
import Derived.Test.YtdgepnfgjgbkoabDoorPureUp
import Derived.Test.YtdgepnfgjgbkoabDoorUtfE
import Derived.Laws.Cover4
import Derived.Laws.Runes
import Derived.Test.YtdgepnfgjgbkoabDoorBase
namespace Go.Proofs.YtdgepnfgjgbkoabDoor
open Go.RowKit

structure Tb (w : World) : Prop where
  cls : Table w
  fst : Fst w
  ml : ∃ m, w.cell? ⟨4, 0, none⟩ = some (.int .i64 m)
theorem Tb.below {w w' : World} (h : Tb w) (hb : Below w.heap.size w w') : Tb w' := by
  obtain ⟨m, hm⟩ := h.ml
  exact ⟨fun c hc => (hb.cell (p := ⟨3, c, none⟩) (World.block_lt_of_cell? w _ (h.cls c hc))).trans (h.cls c hc), h.fst.below hb h.fst.lt, m, (hb.cell (p := ⟨4, 0, none⟩) (World.block_lt_of_cell? w _ hm)).trans hm⟩
end Go.Proofs.YtdgepnfgjgbkoabDoor
/-
  The contracts of octet.Span and octet.Bad of a text.
-/
namespace Go.Proofs.YtdgepnfgjgbkoabDoor
open Go.RowKit

theorem ret_i64T {a b : Int} (h : a = b) : Ending.returned (.int .i64 a) = .returned (.int .i64 b) := by rw [h]

set_option maxRecDepth 100000 in
set_option maxHeartbeats 400000 in
theorem span_negT (c f : Int) (s : ByteArray) (w : World) (hf : f < 0) :
    Calls Tryd.prog 45 #[.int .i64 c, .string s, .int .i64 f] w fun e w' => e = .returned (.int .i64 f) ∧ w' = w := by
  go_enter Tryd.func45, Tryd.ntmps45
  go_wp2
  go_ret
  exact ⟨rfl, rfl⟩

set_option maxRecDepth 100000 in
set_option maxHeartbeats 400000 in
theorem span_behindT (c f : Int) (s : ByteArray) (w : World) (hs : s.size ≤ maxLen) (hf : (s.size : Int) ≤ f) :
    Calls Tryd.prog 45 #[.int .i64 c, .string s, .int .i64 f] w fun e w' => e = .returned (.int .i64 f) ∧ w' = w := by
  unfold maxLen at hs
  have hn : ¬ f < 0 := by omega
  have hl : ¬ f < (s.size : Int) := by omega
  go_enter Tryd.func45, Tryd.ntmps45
  go_wp2
  refine wp_loop_rounds 1 ?_
  rw [rounds_succ]
  go_wp2
  go_ret
  exact ⟨rfl, rfl⟩

set_option maxRecDepth 100000 in
set_option maxHeartbeats 400000 in
theorem span_inT (c : Int) (f : Nat) (s : ByteArray) (w : World) (ht : Table w) (hs : s.size ≤ maxLen) (hf : f ≤ s.size) :
    Calls Tryd.prog 45 #[.int .i64 c, .string s, .int .i64 f] w fun e w' => e = .returned (.int .i64 (f + badN c (s.data.toList.drop f))) ∧ w' = w := by
  unfold maxLen at hs
  have HT : Hid (Table w) := ht
  clear ht
  go_enter Tryd.func45, Tryd.ntmps45
  go_wp2
  go_loop [7] (fun i => ∃ m : Nat, m ≤ s.size ∧ i = .int .i64 m ∧ Hid (f + badN c (s.data.toList.drop f) = m + badN c (s.data.toList.drop m))) (fun i => s.size - (intOf i).toNat)
  case atStart => exact ⟨f, hf, rfl, rfl⟩
  case round =>
    obtain ⟨m, hm, rfl, HM⟩ := hrel
    by_cases hlt : m < s.size
    · by_cases hb : isB c (s[m].toNat : Int) = true
      · have HN : Hid (f + badN c (s.data.toList.drop f) = (m + 1) + badN c (s.data.toList.drop (m + 1))) := by
          have := badN_yes c s.data.toList m (by simpa using hlt) hb
          show _ = _
          rw [HM.out, this]; omega
        go_wp2_with (go_at_call 60; refine (is_any _ _ _ HT.out).mono ?_; rintro e w' ⟨rfl, rfl⟩)
        go_round
        case rel => exact ⟨m + 1, by omega, by go_num, HN⟩
        case measure => simp [intOf]; omega
      · have hb' : isB c (s[m].toNat : Int) = false := by simpa using hb
        have HN : Hid (f + badN c (s.data.toList.drop f) = m) := by
          have := badN_no c s.data.toList m (by simpa using hlt) hb'
          show _ = _
          rw [HM.out, this]; omega
        clear hb
        go_wp2_with (go_at_call 60; refine (is_any _ _ _ HT.out).mono ?_; rintro e w' ⟨rfl, rfl⟩)
        go_ret
        exact ⟨ret_i64T (by have := HN.out; omega), rfl⟩
    · have HN : Hid (f + badN c (s.data.toList.drop f) = m) := by
        have := badN_end c s.data.toList m (by simp; omega)
        show _ = _
        rw [HM.out, this]; omega
      go_wp2
      go_ret
      exact ⟨ret_i64T (by have := HN.out; omega), rfl⟩

theorem span_anyT (c f : Int) (s : ByteArray) (w : World) (ht : Table w) (hs : s.size ≤ maxLen) :
    Calls Tryd.prog 45 #[.int .i64 c, .string s, .int .i64 f] w fun e w' => e = .returned (.int .i64 (spanI c s.data.toList f)) ∧ w' = w := by
  by_cases h0 : f < 0
  · rw [spanI_neg _ _ _ h0]
    exact span_negT c f s w h0
  · by_cases h1 : (s.size : Int) ≤ f
    · rw [spanI_behind _ _ _ (by simpa using h1)]
      exact span_behindT c f s w hs h1
    · obtain ⟨n, rfl⟩ := Int.eq_ofNat_of_zero_le (show 0 ≤ f by omega)
      rw [spanI_nat]
      exact span_inT c n s w ht hs (by omega)

set_option maxRecDepth 100000 in
theorem bad_anyT (c : Int) (s : ByteArray) (w : World) (ht : Table w) (hs : s.size ≤ maxLen) :
    Calls Tryd.prog 27 #[.int .i64 c, .string s] w fun e w' => e = .returned (.int .i64 (badN c s.data.toList)) ∧ w' = w := by
  have hz := spanI_zero c s.data.toList
  go_enter Tryd.func27, Tryd.ntmps27
  go_wp2_with fail
  refine (span_anyT c 0 s _ ht hs).mono ?_
  rintro e w' ⟨rfl, rfl⟩
  go_wp2
  go_ret
  exact ⟨rfl, rfl⟩
end Go.Proofs.YtdgepnfgjgbkoabDoor
/-
  A statement whose order is drawn, with guarded operations, under a condition on the world.
-/
namespace Go.Proofs.YtdgepnfgjgbkoabDoor

theorem wpAnyE_fst {P : Program} {ops : Array Oper} {Q : Exit → Act → World → Prop} {md : Region.Mode} {S : World → Prop} {L i : Nat} {oi : Oper} {v : Value} (hi : ops[i]? = some oi) (hsel : ∀ (j : Nat) (o : Oper) cs b, ops[j]? = some o → o.op ≠ .select cs b)
    (hQ : ∀ c a w, Q (.panic c) (a.put oi.dst v) w → Q (.panic c) a w) (hL : ops[L]? = none) :
    ∀ (fuel : Nat) (listed : Array Bool) (a : Act) (w : World),
      (∀ j oj, ops[j]? = some oj → j ≠ i → listed.getD j true = false → (∀ e ∈ oj.after, Region.binds md e = true → e.on ≠ i) → oi.apart ops oj = true) →
      i ∈ Region.ready md ops listed → YieldsIf P ops S oi v a → S w →
      wpAnyE P md ops Q S L fuel (listed.setIfInBounds i true) (a.put oi.dst v) w → wpAnyE P md ops Q S L (fuel + 1) listed a w := by
  intro fuel
  induction fuel with
  | zero =>
    intro listed a w _ hr hy hS H
    refine ⟨fun h => (by rw [h] at hr; cases hr), fun j hj => ?_⟩
    by_cases hji : j = i
    · subst hji; exact hy.wpOp hi hS ⟨.inr hS, H⟩
    · have := ready_mono hj hji
      rw [H.1] at this
      cases this
  | succ fuel ih =>
    intro listed a w hfree hr hy hS H
    refine ⟨fun h => (by rw [h] at hr; cases hr), fun j hj => ?_⟩
    by_cases hji : j = i
    · subst hji; exact hy.wpOp hi hS ⟨.inr hS, H⟩
    · have h1 := H.2 j (ready_mono hj hji)
      obtain ⟨hjun, oj, hoj, hall⟩ := mem_ready.1 hj
      have hnot : ∀ e ∈ oj.after, Region.binds md e = true → e.on ≠ i := fun e he hb heq => by
        have h1 := hall e he hb
        have h0 := (mem_ready.1 hr).1
        rw [heq] at h1
        rcases Nat.lt_or_ge i listed.size with h' | h'
        · simp [h'] at h0 h1; rw [h0] at h1; cases h1
        · simp [Array.getElem?_eq_none h'] at h1
      have hjL : j ≠ L := fun e => by
        subst e
        rw [hoj] at hL
        cases hL
      have h2 := wpOp_putIf hoj (hfree j oj hoj hji hjun hnot) (fun cs b => hsel i oi cs b hi) (fun cs b => hsel j oj cs b hoj) hQ hy h1
      have hfree' : ∀ k ok, ops[k]? = some ok → k ≠ i → (listed.setIfInBounds j true).getD k true = false →
          (∀ e ∈ ok.after, Region.binds md e = true → e.on ≠ i) → oi.apart ops ok = true := fun k ok hk hki hun hno => by
        refine hfree k ok hk hki ?_ hno
        by_cases hjk : j = k
        · subst hjk; exact hjun
        · rw [getD_set_ne true hjk] at hun; exact hun
      refine wpOp_mono (fun a' w' h3 => ⟨h3.2.1, ih (listed.setIfInBounds j true) a' w' hfree' (ready_mono hr (Ne.symm hji)) h3.1 (h3.2.1.resolve_left hjL) ?_⟩) h2
      rw [Array.setIfInBounds_comm _ _ hji]
      exact h3.2.2

/-- Take number i first: it is wanted. -/
theorem wpAnyE_tk {P : Program} {ops : Array Oper} {Q : Exit → Act → World → Prop} {md : Region.Mode} {S : World → Prop} {L : Nat} {i : Nat} {oi : Oper} {d : Option Tmp} {v : Value} {fuel : Nat} {listed : Array Bool} {a : Act} {w : World} (hi : ops[i]? = some oi)
    (hs : Region.noSelect ops = true) (hf : Region.free md ops listed i = true) (hr : (Region.ready md ops listed).contains i = true) (hL : ops[L]? = none)
    (hQ : ∀ c a w, Q (.panic c) (a.put d v) w → Q (.panic c) a w) (hd : oi.dst = d) (hw : Region.wanted oi (yielded ops a.tmps) = true) (hy : ∀ w', S w' → (execOp a.eval oi).run P w' = .ok (.value v) w') (hS : S w)
    (h : wpAnyE P md ops Q S L fuel (listed.setIfInBounds i true) (a.put d v) w) : wpAnyE P md ops Q S L (fuel + 1) listed a w := by
  subst hd
  exact wpAnyE_fst hi (Region.noSelect_spec hs) hQ hL fuel listed a w (Region.free_spec hi hf) (by simpa using hr) (.inl ⟨hw, hy⟩) hS h
/-- Take number i first: it is not wanted. -/
theorem wpAnyE_sk {P : Program} {ops : Array Oper} {Q : Exit → Act → World → Prop} {md : Region.Mode} {S : World → Prop} {L : Nat} {i : Nat} {oi : Oper} {d : Option Tmp} {fuel : Nat} {listed : Array Bool} {a : Act} {w : World} (hi : ops[i]? = some oi)
    (hs : Region.noSelect ops = true) (hf : Region.free md ops listed i = true) (hr : (Region.ready md ops listed).contains i = true) (hL : ops[L]? = none)
    (hQ : ∀ c a w, Q (.panic c) (a.put d undef) w → Q (.panic c) a w) (hd : oi.dst = d) (hw : Region.wanted oi (yielded ops a.tmps) = false) (hS : S w)
    (h : wpAnyE P md ops Q S L fuel (listed.setIfInBounds i true) (a.put d undef) w) : wpAnyE P md ops Q S L (fuel + 1) listed a w := by
  subst hd
  exact wpAnyE_fst hi (Region.noSelect_spec hs) hQ hL fuel listed a w (Region.free_spec hi hf) (by simpa using hr) (.inr ⟨hw, rfl⟩) hS h
/-- One alone may come up, and it is wanted. -/
theorem wpAnyE_on {P : Program} {ops : Array Oper} {Q : Exit → Act → World → Prop} {md : Region.Mode} {S : World → Prop} {L : Nat} {i : Nat} {o : Oper} {fuel : Nat} {listed : Array Bool} {a : Act} {w : World} (hr : Region.ready md ops listed = [i]) (hi : ops[i]? = some o) (hw : Region.wanted o (yielded ops a.tmps) = true)
    (h : o.wp P a w (fun a' w' => (i = L ∨ S w') ∧ wpAnyE P md ops Q S L fuel (listed.setIfInBounds i true) a' w') Q) : wpAnyE P md ops Q S L (fuel + 1) listed a w :=
  ⟨fun h0 => (by rw [h0] at hr; cases hr), fun j hj => by
    rw [hr, List.mem_singleton] at hj
    subst hj
    unfold wpOp
    simp only [hi, hw, if_true]
    exact .inl h⟩
end Go.Proofs.YtdgepnfgjgbkoabDoor
/-
  What a rune becomes as text.
-/
namespace Go.Proofs.YtdgepnfgjgbkoabDoor

theorem tou8 (x : Int) (n : Nat) (h : x = (n : Int)) : x.toNat.toUInt8 = UInt8.ofNat n := by
  subst h
  rfl
theorem enc_list (r : Nat) : (Utf8.encode (r : Int)).data.toList = Lib.encodeRune (r : Int) := by
  unfold Lib.encodeRune
  by_cases c1 : r < 128
  · have v : Utf8.valid (r : Int) = true := by simp [Utf8.valid]; omega
    have e : (Utf8.encode (r : Int)).data.toList = [UInt8.ofNat r] := by simp [Utf8.encode, v, c1]
    rw [Lib.encodeRuneZ_one (by omega) (by omega), e, List.map_cons, List.map_nil, tou8 _ r rfl]
  by_cases c2 : r < 2048
  · have v : Utf8.valid (r : Int) = true := by simp [Utf8.valid]; omega
    have e : (Utf8.encode (r : Int)).data.toList = [UInt8.ofNat (192 + r / 64), UInt8.ofNat (128 + r % 64)] := by simp [Utf8.encode, v, c1, c2]
    rw [Lib.encodeRuneZ_two (by omega) (by omega), e]
    simp only [List.map_cons, List.map_nil]
    rw [tou8 _ (192 + r / 64) (by omega), tou8 _ (128 + r % 64) (by omega)]
  by_cases hb : (55296 ≤ r ∧ r ≤ 57343) ∨ 1114111 < r
  · have v : Utf8.valid (r : Int) = false := by simp [Utf8.valid]; omega
    rw [Lib.encodeRuneZ_bad (by omega)]
    simp [Utf8.encode, v, Utf8.runeError]
  by_cases c3 : r < 65536
  · have v : Utf8.valid (r : Int) = true := by simp [Utf8.valid]; omega
    have e : (Utf8.encode (r : Int)).data.toList = [UInt8.ofNat (224 + r / 4096), UInt8.ofNat (128 + r / 64 % 64), UInt8.ofNat (128 + r % 64)] := by simp [Utf8.encode, v, c1, c2, c3]
    rw [Lib.encodeRuneZ_three (by omega), e]
    simp only [List.map_cons, List.map_nil]
    rw [tou8 _ (224 + r / 4096) (by omega), tou8 _ (128 + r / 64 % 64) (by omega), tou8 _ (128 + r % 64) (by omega)]
  · have v : Utf8.valid (r : Int) = true := by simp [Utf8.valid]; omega
    have e : (Utf8.encode (r : Int)).data.toList = [UInt8.ofNat (240 + r / 262144), UInt8.ofNat (128 + r / 4096 % 64), UInt8.ofNat (128 + r / 64 % 64), UInt8.ofNat (128 + r % 64)] := by simp [Utf8.encode, v, c1, c2, c3]
    rw [Lib.encodeRuneZ_four (by omega) (by omega), e]
    simp only [List.map_cons, List.map_nil]
    rw [tou8 _ (240 + r / 262144) (by omega), tou8 _ (128 + r / 4096 % 64) (by omega), tou8 _ (128 + r / 64 % 64) (by omega), tou8 _ (128 + r % 64) (by omega)]
theorem rb_go (l : List Nat) : ∀ s : ByteArray, ((l.map fun (n : Nat) => (n : Int)).foldl (fun r n => r ++ Utf8.encode n) s).data.toList = s.data.toList ++ l.flatMap fun (n : Nat) => Lib.encodeRune (n : Int) := by
  induction l with
  | nil => intro s; simp
  | cons n t ih =>
    intro s
    rw [List.map_cons, List.foldl_cons, ih, ByteArray.data_append, Array.toList_append, enc_list, List.flatMap_cons, List.append_assoc]
/-- A text made of runes. -/
theorem rb_list (l : List Nat) : (runesBytes (l.map fun (n : Nat) => (n : Int))).data.toList = l.flatMap fun (n : Nat) => Lib.encodeRune (n : Int) := by
  unfold runesBytes
  rw [rb_go]
  simp
end Go.Proofs.YtdgepnfgjgbkoabDoor
/-
  The shape of a row of one's own.
-/
namespace Go.Proofs.YtdgepnfgjgbkoabDoor
open Go.RowKit

theorem own_cap {w : World} {base n cap : Nat} {a : Option Addr} {xs : List Value} (h : w.ownsRow base 5 1 (.slice a n cap) n xs) : cap ≤ 9223372036854775807 := by
  obtain ⟨_, ⟨h1, _⟩ | ⟨g, c, cur, hv, _, _, _, h3, _⟩⟩ := h
  · injection h1 with _ _ e
    omega
  · injection hv with _ _ e
    unfold maxLen at h3
    omega
theorem own_shape {w : World} {base n : Nat} {v : Value} {xs : List Value} (h : w.ownsRow base 5 1 v n xs) : ∃ a cap, v = .slice a n cap := by
  rcases h.2 with ⟨rfl, h0⟩ | ⟨g, cap, cur, hv, _⟩
  · exact ⟨none, 0, by rw [h0]⟩
  · exact ⟨_, _, hv⟩
end Go.Proofs.YtdgepnfgjgbkoabDoor
