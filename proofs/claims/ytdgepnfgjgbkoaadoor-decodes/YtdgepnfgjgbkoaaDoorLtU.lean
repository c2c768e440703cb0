/-
  The document's meaning of bytes: ISO-8859-1, and all three.
-/
import Derived.Test.YtdgepnfgjgbkoaaDoorVe17
import Derived.Test.YtdgepnfgjgbkoaaDoorLate5
namespace Go.Proofs.YtdgepnfgjgbkoaaDoor
open Go.RowKit

/-- The text of the first k bytes. -/
def laL (l : List UInt8) : List UInt8 := l.flatMap fun c => Lib.encodeRune (c.toNat : Int)
theorem laL_suc (l : List UInt8) (k : Nat) (h : k < l.length) : laL (l.take (k + 1)) = laL (l.take k) ++ Lib.encodeRune ((l[k]).toNat : Int) := by
  unfold laL
  rw [List.take_succ_eq_append_getElem h, List.flatMap_append]
  simp
theorem latR_len (r : Int) : 1 ≤ (Lib.encodeRune r).length ∧ (Lib.encodeRune r).length ≤ 4 := by
  have := Lib.encodeRuneZ_length r
  unfold Lib.encodeRune
  rw [List.length_map]
  exact this
theorem laL_len (l : List UInt8) (k : Nat) : (laL (l.take k)).length ≤ 4 * k := by
  induction k with
  | zero => simp [laL]
  | succ k ih =>
    by_cases h : k < l.length
    · rw [laL_suc l k h, List.length_append]
      have := (latR_len ((l[k]).toNat : Int)).2
      omega
    · rw [List.take_of_length_le (by omega)]
      rw [List.take_of_length_le (by omega)] at ih
      omega
set_option maxRecDepth 100000 in
set_option maxHeartbeats 4000000 in
theorem vmean_lat (cs : ByteArray) (hcs : cs.size ≤ 4294967000) (hk : csNo (cutC 42 cs.data.toList).1 = 3) (a : Option Addr) (l : List UInt8) (cap n : Nat) (w : World) (hn : n = l.length) (hb : Bts a l w) (hl : l.length ≤ 1099511627776) :
    Calls Tryd.prog 32 #[.string cs, .slice a n cap] w fun e w' => e = .returned (.tuple #[.string ⟨(laL l).toArray⟩, .bool true]) ∧ Below w.heap.size w w' := by
  have HNM := vname_any cs hcs w
  have hm1 : ((⟨(vN cs.data.toList).toArray⟩ : ByteArray).toList == [117, 116, 102, 45, 56]) = false := by
    rw [nm_beq]
    exact decide_eq_false (fun h => by have := (sn_no _).1.2 h; omega)
  have hm2 : ((⟨(vN cs.data.toList).toArray⟩ : ByteArray).toList == [117, 115, 45, 97, 115, 99, 105, 105]) = false := by
    rw [nm_beq]
    exact decide_eq_false (fun h => by have := (sn_no _).2.1.2 h; omega)
  generalize (⟨(vN cs.data.toList).toArray⟩ : ByteArray) = C at *
  have HL : Hid (Bts a l w) := hb
  have HN : Hid (n = l.length) := hn
  have HWR : Hid (∀ (c : UInt8) wx, Calls Tryd.prog 53 #[.int .i32 (c.toNat : Int)] wx fun e w' => e = .returned (.slice (some ⟨wx.heap.size, 0, none⟩) (Lib.encodeRune (c.toNat : Int)).length (Lib.encodeRune (c.toNat : Int)).length) ∧ w' = wx.alloc (.cells (rowV (Lib.encodeRune (c.toNat : Int))) 5)) := fun c wx => dwr_any (c.toNat : Int) (by have := c.toNat_lt; unfold isR; omega) wx
  rw [← hn] at hl
  clear hn hb
  go_enter Tryd.func32, Tryd.ntmps32
  go_wp2_with fail
  refine HNM.mono ?_
  rintro e w1 ⟨rfl, hb1⟩
  have HB1 : Hid (Below w.heap.size w w1) := hb1
  clear HNM hb1
  go_wp2_with fail
  go_loopw [8, 37] (fun v i wr => ∃ k : Nat, k ≤ n ∧ i = .int .i64 k ∧ Hid (wr.ownsRow w.heap.size 5 1 v (laL (l.take k)).length (cellsB (laL (l.take k)))) ∧ Hid (Below w.heap.size w wr)) (fun _ i _ => n - (intOf i).toNat)
  case atStart => exact ⟨0, Nat.zero_le _, rfl, own_nil _ _, HB1.out⟩
  case round =>
    obtain ⟨k, hk9, rfl, HO, HB⟩ := hrel
    clear HB1
    by_cases hlt : k < n
    · have hkl : k < l.length := by rw [← HN.out]; exact hlt
      obtain ⟨g, o, rfl, hg, hc⟩ := HL.out.cell k hkl
      have hsu := laL_suc l k hkl
      have hle := laL_len l k
      obtain ⟨c, hcc⟩ : ∃ c, c = l[k] := ⟨_, rfl⟩
      rw [← hcc] at hc hsu
      have hc2 : wr.cell? ⟨g, o + k, none⟩ = some (.int .u8 (c.toNat : Int)) := (HB.out.cell (p := ⟨g, o + k, none⟩) hg).trans hc
      have hwr : IntKind.i32.wrap (c.toNat : Int) = (c.toNat : Int) := by have := c.toNat_lt; rw [IntKind.wrap_i32]; omega
      have hel := latR_len (c.toNat : Int)
      have HC := HWR.out c wr
      have HSU : Hid (laL (l.take (k + 1)) = laL (l.take k) ++ Lib.encodeRune (c.toNat : Int)) := hsu
      clear hcc hc hsu
      generalize laL (l.take k) = D at *
      generalize Lib.encodeRune (c.toNat : Int) = R at *
      have hzr : w.heap.size ≤ wr.heap.size := HB.out.size
      have HBT : Hid (Bts (some ⟨wr.heap.size, 0, none⟩) R (wr.alloc (.cells (rowV R) 5))) := bts_new wr R
      have HO2 : Hid ((wr.alloc (.cells (rowV R) 5)).ownsRow w.heap.size 5 1 _ D.length (cellsB D)) := own_below HO.out ((Below.refl _ wr).alloc (Nat.le_refl _) _)
      have hz2 : w.heap.size ≤ (wr.alloc (.cells (rowV R) 5)).heap.size := by simp; omega
      have HB2 : Hid (Below w.heap.size w (wr.alloc (.cells (rowV R) 5))) := HB.out.alloc hzr _
      clear HO HB
      go_wp2_with fail
      refine HC.mono ?_
      rintro e w2 ⟨rfl, hw2⟩
      rw [← hw2] at HBT HO2 hz2 HB2
      clear HC hw2
      go_wp2_with (at_builtin; refine wpList_append_keep rfl _ _ rfl w.heap.size _ _ D rfl HO2.out (some ⟨wr.heap.size, 0, none⟩) R R.length R.length rfl rfl HBT.out (fun e => by cases e) (by omega) hz2 ?_; intro v5 w5 ho5 hg5)
      have hb5 : Below w.heap.size w2 w5 := (Below.refl _ _).grown hg5 hz2 (fun q hq => (HO2.out.lt q hq).1)
      go_roundw
      case rel => exact ⟨k + 1, by omega, by go_num, by show World.ownsRow _ _ _ _ _ _ _; rw [HSU.out, List.length_append]; exact ho5, HB2.out.trans hb5⟩
      case measure => simp [intOf]; omega
    · obtain rfl : k = n := by omega
      have hx : l.take k = l := List.take_of_length_le (by rw [HN.out]; exact Nat.le_refl _)
      rw [hx] at HO
      have hle := laL_len l k
      rw [hx] at hle
      obtain ⟨a2, cp2, rfl, hbt, -⟩ := own_bts HO.out
      have hcv := bts_back hbt cp2
      clear hk9 hlt hbt HO
      go_wp2_with fail
      go_ret2
      exact ⟨rfl, HB.out⟩
/-- What bytes mean in the charset of a name. -/
theorem vmean_any (cs : ByteArray) (hcs : cs.size ≤ 4294967000) (k : Nat) (hk : csNo (cutC 42 cs.data.toList).1 = k) (hk0 : k ≠ 0) (a : Option Addr) (l : List UInt8) (cap n : Nat) (w : World) (hn : n = l.length) (hb : Bts a l w) (hc : l.length ≤ cap) (hl : l.length ≤ 1099511627776) :
    Calls Tryd.prog 32 #[.string cs, .slice a n cap] w fun e w' => (∃ (T : ByteArray) (b : Bool), e = .returned (.tuple #[.string T, .bool b]) ∧ csT k l = if b then some T.data.toList else none) ∧ Below w.heap.size w w' := by
  rcases csNo_lt (cutC 42 cs.data.toList).1 with h | h | h | h
  · omega
  · refine (vmean_utf cs hcs h a l cap n w hn hb hc hl).mono ?_
    rintro e w' ⟨rfl, hb'⟩
    refine ⟨⟨_, _, rfl, ?_⟩, hb'⟩
    obtain rfl : k = 1 := by omega
    subst hn
    by_cases hq : badU l = l.length <;> simp [csT, hq]
  · obtain rfl : k = 2 := by omega
    exact vmean_asc cs hcs h a l cap n w hn hb hl
  · obtain rfl : k = 3 := by omega
    refine (vmean_lat cs hcs h a l cap n w hn hb hl).mono ?_
    rintro e w' ⟨rfl, hb'⟩
    refine ⟨⟨_, _, rfl, ?_⟩, hb'⟩
    simp [csT, laL]
end Go.Proofs.YtdgepnfgjgbkoaaDoor
/-
  A statement whose order is drawn, with a store at its end that waits for the others, if not for each itself.
-/
namespace Go.Proofs.YtdgepnfgjgbkoaaDoor

theorem wpAnyE_fstU {P : Program} {ops : Array Oper} {Q : Exit → Act → World → Prop} {md : Region.Mode} {S : World → Prop} {L i : Nat} {oi : Oper} {v : Value} (hi : ops[i]? = some oi) (hsel : ∀ (j : Nat) (o : Oper) cs b, ops[j]? = some o → o.op ≠ .select cs b)
    (hQ : ∀ c a w, Q (.panic c) (a.put oi.dst v) w → Q (.panic c) a w) (U : Nat → Bool) (hUL : U L = true) (hU : ∀ j o, U j = true → ops[j]? = some o → ∃ e ∈ o.after, Region.binds md e = true ∧ (e.on = i ∨ U e.on = true)) :
    ∀ (fuel : Nat) (listed : Array Bool) (a : Act) (w : World),
      (∀ j oj, ops[j]? = some oj → j ≠ i → listed.getD j true = false → (∀ e ∈ oj.after, Region.binds md e = true → e.on ≠ i) → oi.apart ops oj = true) →
      (∀ j, U j = true → listed.getD j false = false) → i ∈ Region.ready md ops listed → YieldsIf P ops S oi v a → S w →
      wpAnyE P md ops Q S L fuel (listed.setIfInBounds i true) (a.put oi.dst v) w → wpAnyE P md ops Q S L (fuel + 1) listed a w := by
  intro fuel
  induction fuel with
  | zero =>
    intro listed a w _ _ hr hy hS H
    refine ⟨fun h => (by rw [h] at hr; cases hr), fun j hj => ?_⟩
    by_cases hji : j = i
    · subst hji; exact hy.wpOp hi hS ⟨.inr hS, H⟩
    · have := ready_mono hj hji
      rw [H.1] at this
      cases this
  | succ fuel ih =>
    intro listed a w hfree hun hr hy hS H
    refine ⟨fun h => (by rw [h] at hr; cases hr), fun j hj => ?_⟩
    by_cases hji : j = i
    · subst hji; exact hy.wpOp hi hS ⟨.inr hS, H⟩
    · have h1 := H.2 j (ready_mono hj hji)
      obtain ⟨hjun, oj, hoj, hall⟩ := mem_ready.1 hj
      have hnot : ∀ e ∈ oj.after, Region.binds md e = true → e.on ≠ i := fun e he hb heq => by
        have h1 := hall e he hb
        have h0 := (mem_ready.1 hr).1
        rw [heq] at h1
        rcases Nat.lt_or_ge i listed.size with h' | h'
        · simp [h'] at h0 h1; rw [h0] at h1; cases h1
        · simp [Array.getElem?_eq_none h'] at h1
      have hjU : U j = false := by
        cases hx : U j with
        | false => rfl
        | true =>
          obtain ⟨e, he, hb, ht⟩ := hU j oj hx hoj
          rcases ht with ht | ht
          · exact absurd ht (hnot e he hb)
          · have h5 := hall e he hb
            rw [hun _ ht] at h5
            cases h5
      have hjL : j ≠ L := fun e => by rw [e, hUL] at hjU; cases hjU
      have hun' : ∀ k, U k = true → (listed.setIfInBounds j true).getD k false = false := fun k hk => by
        have hjk : j ≠ k := fun e => by rw [e, hk] at hjU; cases hjU
        rw [getD_set_ne false hjk]
        exact hun k hk
      have h2 := wpOp_putIf hoj (hfree j oj hoj hji hjun hnot) (fun cs b => hsel i oi cs b hi) (fun cs b => hsel j oj cs b hoj) hQ hy h1
      have hfree' : ∀ k ok, ops[k]? = some ok → k ≠ i → (listed.setIfInBounds j true).getD k true = false →
          (∀ e ∈ ok.after, Region.binds md e = true → e.on ≠ i) → oi.apart ops ok = true := fun k ok hk hki hun hno => by
        refine hfree k ok hk hki ?_ hno
        by_cases hjk : j = k
        · subst hjk; exact hjun
        · rw [getD_set_ne true hjk] at hun; exact hun
      refine wpOp_mono (fun a' w' h3 => ⟨h3.2.1, ih (listed.setIfInBounds j true) a' w' hfree' hun' (ready_mono hr (Ne.symm hji)) h3.1 (h3.2.1.resolve_left hjL) ?_⟩) h2
      rw [Array.setIfInBounds_comm _ _ hji]
      exact h3.2.2


/-- Each of these waits for number i or for one of them. -/
def chained (md : Region.Mode) (ops : Array Oper) (i : Nat) (U : List Nat) : Bool :=
  U.all fun j => match ops[j]? with
    | none => true
    | some o => o.after.any fun e => Region.binds md e && (e.on == i || U.contains e.on)
theorem chained_spec {md : Region.Mode} {ops : Array Oper} {i : Nat} {U : List Nat} (h : chained md ops i U = true) : ∀ j o, U.contains j = true → ops[j]? = some o → ∃ e ∈ o.after, Region.binds md e = true ∧ (e.on = i ∨ U.contains e.on = true) := by
  intro j o hj ho
  have h1 := List.all_eq_true.1 h j (by simpa using hj)
  rw [ho] at h1
  simp only [Array.any_eq_true, Bool.and_eq_true, Bool.or_eq_true, beq_iff_eq] at h1
  obtain ⟨k, hk, h2, h3⟩ := h1
  exact ⟨_, Array.getElem_mem hk, h2, h3⟩
/-- Take number i first: it is wanted. -/
theorem wpAnyE_tkU {P : Program} {ops : Array Oper} {Q : Exit → Act → World → Prop} {md : Region.Mode} {S : World → Prop} {L : Nat} {i : Nat} {oi : Oper} {d : Option Tmp} {v : Value} {fuel : Nat} {listed : Array Bool} {a : Act} {w : World} (hi : ops[i]? = some oi)
    (hs : Region.noSelect ops = true) (hf : Region.free md ops listed i = true) (hr : (Region.ready md ops listed).contains i = true) (U : List Nat) (hUL : U.contains L = true) (hU : chained md ops i U = true) (hun : (U.all fun j => !listed.getD j false) = true)
    (hQ : ∀ c a w, Q (.panic c) (a.put d v) w → Q (.panic c) a w) (hd : oi.dst = d) (hw : Region.wanted oi (yielded ops a.tmps) = true) (hy : ∀ w', S w' → (execOp a.eval oi).run P w' = .ok (.value v) w') (hS : S w)
    (h : wpAnyE P md ops Q S L fuel (listed.setIfInBounds i true) (a.put d v) w) : wpAnyE P md ops Q S L (fuel + 1) listed a w := by
  subst hd
  exact wpAnyE_fstU hi (Region.noSelect_spec hs) hQ (fun j => U.contains j) hUL (chained_spec hU) fuel listed a w (Region.free_spec hi hf) (fun j hj => by simpa using List.all_eq_true.1 hun j (by simpa using hj)) (by simpa using hr) (.inl ⟨hw, hy⟩) hS h

end Go.Proofs.YtdgepnfgjgbkoaaDoor
