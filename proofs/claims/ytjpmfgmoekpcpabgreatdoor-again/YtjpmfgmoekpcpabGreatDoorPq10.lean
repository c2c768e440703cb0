/-
  The program's parseOne, of any text; rows of parameters.
-/
import Derived.Test.YtjpmfgmoekpcpabGreatDoorPp10
import Derived.Laws.OwnMore
namespace Go.Proofs.YtjpmfgmoekpcpabGreatDoor
open Go.RowKit

/-- What parseOne tells, from a place on. -/
def p1V (f : Nat) : Except (Nat × Nat) (Pm × Nat) → Value
  | .error (e, p) => .tuple #[.agg #[.string ⟨#[]⟩, .string ⟨#[]⟩, .bool false], .int .i64 0, .agg #[.int .i64 (e : Nat), .int .i64 (f + p : Nat)]]
  | .ok (p, n) => .tuple #[.agg (pmC p), .int .i64 (f + n : Nat), .agg #[.int .i64 0, .int .i64 0]]
theorem pone_any (s : ByteArray) (f : Nat) (wide : Bool) (hf : f ≤ s.size) (hs : s.size ≤ 140737488355328) (w : World) (ht : Table w) (hfs : Fst w) :
    Calls Tryz.prog 37 #[.string s, .int .i64 (f : Nat), .bool wide] w fun e w' => e = .returned (p1V f (pm1 wide (s.data.toList.drop f))) ∧ Below w.heap.size w w' := by
  have hll : (s.data.toList.drop f).length = s.size - f := by rw [List.length_drop, len_list]
  have hkl := kwN_le (s.data.toList.drop f)
  rw [hll] at hkl
  have HK : Hid (∀ wx, Below w.heap.size w wx → Calls Tryz.prog 80 #[.string s, .int .i64 (f : Int)] wx fun e w' => e = .returned (.int .i64 ((f + kwN (s.data.toList.drop f) : Nat) : Int)) ∧ w' = wx) := fun wx hx => kend_any s f hf (by omega) wx (ht.keep hx)
  have hdd : ∀ n, (s.data.toList.drop f).drop n = s.data.toList.drop (f + n) := fun n => by rw [List.drop_drop]
  have hup : ∀ n, f + n ≤ s.size → upS (s.extract f (f + n)) = tx (upL ((s.data.toList.drop f).take n)) := fun n hn => by
    show (⟨(upL (s.extract f (f + n)).data.toList).toArray⟩ : ByteArray) = _
    rw [tx_sub, tx_list]
    rfl
  obtain ⟨l, hl⟩ : ∃ l, l = s.data.toList.drop f := ⟨_, rfl⟩
  rw [← hl] at hll hkl HK hdd hup ⊢
  obtain ⟨n, hn⟩ : ∃ n, n = kwN l := ⟨_, rfl⟩
  have hpm : pm1 wide l = if n = 0 then .error (100, 0) else
      match l.drop n with
      | [] => .ok (⟨upL (l.take n), [], false⟩, n)
      | c :: t =>
        if c = 32 then .ok (⟨upL (l.take n), [], false⟩, n)
        else if c = 61 then
          (if (tilB 32 t).length = 0 ∨ badV wide (tilB 32 t) < (tilB 32 t).length then .error (101, n + 1 + badV wide (tilB 32 t))
           else .ok (⟨upL (l.take n), tilB 32 t, true⟩, n + 1 + (tilB 32 t).length))
        else .error (100, n) := by rw [hn]; rfl
  rw [← hn] at hkl HK
  have hE : f + n ≤ s.size := by omega
  have HU : Hid (∀ wx, Below w.heap.size w wx → Calls Tryz.prog 26 #[.string (s.extract f (f + n))] wx fun e w' => e = .returned (.string (tx (upL (l.take n)))) ∧ Below wx.heap.size wx w') := fun wx _ => by
    have := upper_any (s.extract f (f + n)) wx (by rw [ByteArray.size_extract]; unfold maxLen; omega)
    rw [hup n hE] at this
    exact this
  by_cases h0 : n = 0
  · rw [hpm, if_pos h0]
    have hq : (((f + n : Nat) : Int) == (f : Int)) = true := by rw [beq_iff_eq]; omega
    have := pone_none s f (f + n) wide hf hE hs w HK hq
    rw [h0] at this
    exact this
  · rw [hpm, if_neg h0]
    have hq : (((f + n : Nat) : Int) == (f : Int)) = false := by rw [beq_eq_false_iff_ne]; omega
    by_cases hlt : f + n < s.size
    · have hns : (((f + n : Nat) : Int) == (s.size : Int)) = false := by rw [beq_eq_false_iff_ne]; omega
      have hdn : l.drop n = s[f + n] :: s.data.toList.drop (f + n + 1) := by
        rw [hdd n, List.drop_eq_getElem_cons (by rw [len_list]; exact hlt)]
        rfl
      rw [hdn]
      obtain ⟨e32, n32⟩ := beq_u8 s[f + n] 32 32 rfl
      obtain ⟨e61, n61⟩ := beq_u8 s[f + n] 61 61 rfl
      by_cases h32 : s[f + n] = 32
      · have h61 : s[f + n] ≠ 61 := by rw [h32]; decide
        rw [decide_eq_true h32] at e32 n32
        rw [decide_eq_false h61] at n61
        simp only [h32, if_true]
        exact pone_blank s f (f + n) wide hf hE hs w HK (tx (upL (l.take n))) (by omega) hq hlt hns n61 n32 e32 HU
      · rw [decide_eq_false h32] at e32 n32
        by_cases h61 : s[f + n] = 61
        · rw [decide_eq_true h61] at n61
          simp only [h61, show ¬ (61 : UInt8) = 32 from by decide, if_true, if_false]
          obtain ⟨t, hT⟩ : ∃ t, t = s.data.toList.drop (f + n + 1) := ⟨_, rfl⟩
          rw [← hT]
          have htl : t.length = s.size - (f + n + 1) := by rw [hT, List.length_drop, len_list]
          have hvl := tilB_len 32 t
          have hext : s.extract (f + n + 1) s.size = tx t := by rw [tx_ext, hT, List.take_of_length_le (by rw [len_list]; exact Nat.le_refl _)]
          have HC : Hid (∀ wx, Below w.heap.size w wx → Calls Tryz.prog 85 #[.string (s.extract (f + n + 1) s.size), .string ⟨#[32]⟩] wx fun e w' => e = .returned (.tuple #[.string (tx (tilB 32 t)), .string (tx (t.drop ((tilB 32 t).length + 1))), .bool (decide ((tilB 32 t).length < t.length))]) ∧ Below wx.heap.size wx w') := fun wx _ => by
            have := cut1_any (s.extract (f + n + 1) s.size) 32 (by rw [ByteArray.size_extract]; omega) wx
            rw [hext, tx_list] at this
            rw [hext]
            exact this
          have HV : Hid (∀ wx, Below w.heap.size w wx → Calls Tryz.prog 81 #[.string (tx (tilB 32 t)), .bool wide] wx fun e w' => e = .returned (.int .i64 (badV wide (tilB 32 t) : Nat)) ∧ Below wx.heap.size wx w') := fun wx hx => by
            have := bv_any (tx (tilB 32 t)) wide (by rw [tx_size]; omega) wx (ht.keep hx) (hfs.below hx hfs.lt)
            rw [tx_list] at this
            exact this
          have hbu : badV wide (tilB 32 t) ≤ s.size := by
            have h1 : badV wide (tilB 32 t) ≤ (tilB 32 t).length := by
              unfold badV
              split
              · omega
              · exact badU_le _
            omega
          have hA : (tx (tilB 32 t)).size ≤ s.size := by rw [tx_size]; omega
          have he := s_isEmpty (tx (tilB 32 t))
          rw [tx_list] at he
          by_cases hv0 : (tilB 32 t).length = 0
          · rw [decide_eq_true hv0] at he
            rw [if_pos (Or.inl hv0)]
            have := pone_empty s f (f + n) wide hf hE hs w HK _ _ _ _ _ (by omega) hq hlt hns n61 e32 hA hbu HU HC HV he
            refine this.mono ?_
            rintro e w' ⟨rfl, hb⟩
            have ee : ((f + n : Nat) : Int) + 1 + ((badV wide (tilB 32 t) : Nat) : Int) = ((f + (n + 1 + badV wide (tilB 32 t)) : Nat) : Int) := by omega
            exact ⟨by rw [ee]; rfl, hb⟩
          · rw [decide_eq_false hv0] at he
            by_cases hbd : badV wide (tilB 32 t) < (tilB 32 t).length
            · rw [if_pos (Or.inr hbd)]
              have := pone_wrong s f (f + n) wide hf hE hs w HK _ _ _ _ _ (by omega) hq hlt hns n61 e32 hA hbu HU HC HV he (by rw [tx_size]; omega)
              refine this.mono ?_
              rintro e w' ⟨rfl, hb⟩
              have ee : ((f + n : Nat) : Int) + 1 + ((badV wide (tilB 32 t) : Nat) : Int) = ((f + (n + 1 + badV wide (tilB 32 t)) : Nat) : Int) := by omega
              exact ⟨by rw [ee]; rfl, hb⟩
            · rw [if_neg (by omega)]
              have := pone_value s f (f + n) wide hf hE hs w HK _ _ _ _ _ (by omega) hq hlt hns n61 e32 hA hbu HU HC HV he (by rw [tx_size]; omega)
              refine this.mono ?_
              rintro e w' ⟨rfl, hb⟩
              have ee : ((f + n : Nat) : Int) + 1 + ((tx (tilB 32 t)).size : Int) = ((f + (n + 1 + (tilB 32 t).length) : Nat) : Int) := by rw [tx_size]; omega
              exact ⟨by rw [ee]; rfl, hb⟩
        · rw [decide_eq_false h61] at n61
          simp only [h32, h61, if_false]
          exact pone_bad s f (f + n) wide hf hE hs w HK hq hlt n61 n32
    · have hdn : l.drop n = [] := by rw [hdd n, List.drop_eq_nil_of_le (by rw [len_list]; omega)]
      rw [hdn]
      have hns : (((f + n : Nat) : Int) == (s.size : Int)) = true := by rw [beq_iff_eq]; omega
      exact pone_end s f (f + n) wide hf hE hs w HK (tx (upL (l.take n))) (by omega) hq hns (by omega) HU

/-- Parameters' cells, one behind the other. -/
def cellsP (l : List Pm) : List Value := l.flatMap fun p => (pmC p).toList
theorem cellsP_append (x y : List Pm) : cellsP (x ++ y) = cellsP x ++ cellsP y := List.flatMap_append
theorem cellsP_one (p : Pm) : cellsP [p] = (pmC p).toList := by simp [cellsP]
theorem infoPm3 : (Tryz.prog.info? 54).map (fun i => (i.zero, i.size, i.bytes)) = some (some (.agg #[.string ⟨#[]⟩, .string ⟨#[]⟩, .bool false]), 3, 40) := by kernel_rfl
theorem ownP_keep {w w' : World} {B n t k : Nat} {v : Value} {xs : List Value} (h : w.ownsRow B t k v n xs) (hb : ∀ j, v.ownBlock = some j → w'.heap[j]? = w.heap[j]?) : w'.ownsRow B t k v n xs := by
  obtain ⟨h1, h2⟩ := h
  refine ⟨h1, ?_⟩
  rcases h2 with h2 | ⟨g, cap, cur, rfl, hB, hg, hr⟩
  · exact .inl h2
  · exact .inr ⟨g, cap, cur, rfl, hB, by rw [hb g rfl]; exact hg, hr⟩
theorem ownP_below {w w' : World} {B n t k : Nat} {v : Value} {xs : List Value} (h : w.ownsRow B t k v n xs) (hb : Below w.heap.size w w') : w'.ownsRow B t k v n xs := ownP_keep h (fun k hk => hb.block k (h.lt k hk).2)
theorem ownP_row {w : World} {B n t k g0 : Nat} {v : Value} {xs : List Value} (h : w.ownsRow B t k v n xs) (hg0 : g0 < B) (cs : Array Value) : (w.setRow g0 cs).ownsRow B t k v n xs := by
  obtain ⟨h1, h2⟩ := h
  refine ⟨h1, ?_⟩
  rcases h2 with h2 | ⟨g, cap, cur, rfl, hB, hg, hr⟩
  · exact .inl h2
  · have hl : Lies w g cur t := hg
    exact .inr ⟨g, cap, cur, rfl, hB, hl.row_other (by omega) cs, hr⟩
theorem ownP_base {w : World} {B B' n t k : Nat} {v : Value} {xs : List Value} (h : w.ownsRow B t k v n xs) (hb : B' ≤ B) : w.ownsRow B' t k v n xs := by
  obtain ⟨h1, h2⟩ := h
  refine ⟨h1, ?_⟩
  rcases h2 with h2 | ⟨g, cap, cur, rfl, hB, hg, hr⟩
  · exact .inl h2
  · exact .inr ⟨g, cap, cur, rfl, by omega, hg, hr⟩
theorem ownP_len {w : World} {B n t k : Nat} {v : Value} {xs : List Value} (h : w.ownsRow B t k v n xs) : ∃ a c, v = .slice a n c := by
  obtain ⟨_, ⟨rfl, h2⟩ | ⟨g, cap, cur, rfl, _⟩⟩ := h
  · exact ⟨none, 0, by rw [h2]⟩
  · exact ⟨_, cap, rfl⟩
/-- One parameter more behind a row of the call's own. -/
theorem wpList_append_pm {ops : Array Oper} {rest : List Oper} {o : Oper} {a : Act} {w : World} {Q : Exit → Act → World → Prop} (hgd : o.guard = none) (s x : Operand)
    (ho : o.op = .call { callee := .builtin .append, args := #[s, x], argTypes := #[22, 22] }) (base : Nat) (v : Value) (n : Nat) (xs : List Value) (hs : a.eval s = v) (hown : w.ownsRow base 54 3 v n xs)
    (g c : Nat) (V : Array Value) (hVz : V.size = 3) (hVo : V.all (·.oneCell') = true) (hx : a.eval x = .slice (some ⟨g, 0, none⟩) 1 c) (hb : Lies w g V 54) (hn : n ≤ 1000000000000) (hbase : base ≤ w.heap.size)
    (h : ∀ v' w', w'.ownsRow base 54 3 v' (n + 1) (xs ++ V.toList) → w.grownBy w' v.ownBlock → wpList Tryz.prog ops Q rest (a.put o.dst v') w') : wpList Tryz.prog ops Q (o :: rest) a w := by
  have h5 := infoPm3
  cases hq : Tryz.prog.info? 54 with
  | none => rw [hq] at h5; cases h5
  | some i =>
    rw [hq] at h5
    have h6 : (i.zero, i.size, i.bytes) = (some (.agg #[.string ⟨#[]⟩, .string ⟨#[]⟩, .bool false]), 3, 40) := Option.some.inj h5
    injection h6 with z0 h7
    injection h7 with z1 z2
    refine wpList_append_own _ hgd s x 22 ho base 54 i (.agg #[.string ⟨#[]⟩, .string ⟨#[]⟩, .bool false]) 3 40 Tryz.underlying22 hq z0 z1 z2 rfl (by decide) v n xs hs hown ⟨g, 0, none⟩ 1 c V.toList hx (by simp [hVz]) (fun j u hu => ?_) (fun u hu => ?_) (by unfold maxLen; omega) (by omega) hbase ?_
    · rw [Addr.add_lit, Nat.zero_add, hb.cell j]
      rw [Array.getElem?_toList] at hu
      exact hu
    · rw [Array.all_eq_true_iff_forall_mem] at hVo
      exact hVo u (Array.mem_toList_iff.1 hu)
    · intro v' w' hown' hgrow _
      exact h v' w' hown' hgrow
end Go.Proofs.YtjpmfgmoekpcpabGreatDoor
