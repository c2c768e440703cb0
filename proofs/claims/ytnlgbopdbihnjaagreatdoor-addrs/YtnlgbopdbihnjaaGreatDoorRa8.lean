/-
  The document's Ascii.
-/
import Derived.Test.YtnlgbopdbihnjaaGreatDoorRStp
import Derived.Test.YtnlgbopdbihnjaaGreatDoorRPu
import Derived.Test.YtnlgbopdbihnjaaGreatDoorShd
namespace Go.Proofs.YtnlgbopdbihnjaaGreatDoor
open Go.RowKit

def cellsS (L : List (List UInt8)) : List Value := L.map fun x => Value.string ⟨x.toArray⟩
theorem info9 : (Tryz.prog.info? 9).map (fun i => (i.zero, i.size, i.bytes)) = some (some (.string ⟨#[]⟩), 1, 16) := by kernel_rfl
theorem info_partsG {e : TypeId} {z : Value} {n b : Nat} (h : (Tryz.prog.info? e).map (fun i => (i.zero, i.size, i.bytes)) = some (some z, n, b)) : ∃ i, Tryz.prog.info? e = some i ∧ i.zero = some z ∧ i.size = n ∧ i.bytes = b := by
  cases hq : Tryz.prog.info? e with
  | none => rw [hq] at h; cases h
  | some i =>
    rw [hq] at h
    simp at h
    exact ⟨i, rfl, h.1, h.2.1, h.2.2⟩
/-- One text more behind a row of the call's own. -/
theorem wpList_append_str {ops : Array Oper} {rest : List Oper} {o : Oper} {a : Act} {w : World} {Q : Exit → Act → World → Prop} (hgd : o.guard = none) (s x : Operand)
    (ho : o.op = .call { callee := .builtin .append, args := #[s, x], argTypes := #[79, 79] }) (base : Nat) (v : Value) (n : Nat) (xs : List (List UInt8)) (hs : a.eval s = v) (hown : w.ownsRow base 9 1 v n (cellsS xs))
    (g : Nat) (y : List UInt8) (c : Nat) (hx : a.eval x = .slice (some ⟨g, 0, none⟩) 1 c) (hb : w.cell? ⟨g, 0, none⟩ = some (.string ⟨y.toArray⟩)) (hbytes : (n + 1) * 16 ≤ 140737488355328) (hbase : base ≤ w.heap.size)
    (h : ∀ v' w', w'.ownsRow base 9 1 v' (n + 1) (cellsS (xs ++ [y])) → w.grownBy w' v.ownBlock → wpList Tryz.prog ops Q rest (a.put o.dst v') w') : wpList Tryz.prog ops Q (o :: rest) a w := by
  obtain ⟨i0, hi, hz0, hz1, hz2⟩ := info_partsG info9
  refine wpList_append_own _ hgd s x 79 ho base 9 i0 (.string ⟨#[]⟩) 1 16 Tryz.underlying79 hi hz0 hz1 hz2 rfl (by decide) v n _ hs hown ⟨g, 0, none⟩ 1 c (cellsS [y]) hx rfl (fun j u hu => ?_) (fun v hv => ?_) (by unfold maxLen; omega) hbytes hbase ?_
  · cases j with
    | zero =>
      obtain rfl : Value.string ⟨y.toArray⟩ = u := by simpa [cellsS] using hu
      exact hb
    | succ j => simp [cellsS] at hu
  · obtain rfl : v = Value.string ⟨y.toArray⟩ := by simpa [cellsS] using hv
    rfl
  · intro v' w' hown' hgrow _
    exact h v' w' (by unfold cellsS at hown' ⊢; rw [List.map_append]; exact hown') hgrow
/-- The texts of a row that the call made. -/
theorem own_strs {w : World} {base n : Nat} {v : Value} {L : List (List UInt8)} (h : w.ownsRow base 9 1 v n (cellsS L)) (hL : L ≠ []) : ∃ g cap, v = .slice (some ⟨g, 0, none⟩) L.length cap ∧ L.length ≤ cap ∧ base ≤ g ∧ g < w.heap.size ∧ ∀ (j : Nat) x, (L.map fun l => (⟨l.toArray⟩ : ByteArray))[j]? = some x → w.cell? ⟨g, 0 + j, none⟩ = some (.string x) := by
  obtain ⟨h1, h2⟩ := id h
  have hl : L.length = n := by simp [cellsS] at h1; omega
  rcases h2 with ⟨rfl, h0⟩ | ⟨g, cap, cur, rfl, hb, hg, hcap, _⟩
  · exact absurd (List.eq_nil_of_length_eq_zero (hl.trans h0)) hL
  · subst hl
    refine ⟨g, cap, rfl, hcap, hb, (Array.getElem?_eq_some_iff.1 hg).1, fun j x hx => ?_⟩
    rw [List.getElem?_map] at hx
    obtain ⟨l, hl, rfl⟩ := Option.map_eq_some_iff.1 hx
    have hj : j < L.length := (List.getElem?_eq_some_iff.1 hl).1
    have := h.cellAt j (by omega)
    rw [Nat.zero_add, this]
    unfold cellsS
    rw [List.getElem?_map, hl]
    rfl
theorem join_own {w : World} {base n : Nat} {v : Value} {L : List (List UInt8)} (h : w.ownsRow base 9 1 v n (cellsS L)) (hL : L ≠ []) (sep : ByteArray) (hz : L.length ≤ 1000000) (hlen : (joinL sep.data.toList L).length ≤ 140737488355328) :
    Calls Tryz.prog 50 #[v, .string sep] w fun e w' => e = .returned (.string ⟨(joinL sep.data.toList L).toArray⟩) ∧ Below w.heap.size w w' := by
  obtain ⟨g, cap, rfl, hc, _, hg, hcells⟩ := own_strs h hL
  have := Tryz.strings_Join g 0 cap (L.map fun l => (⟨l.toArray⟩ : ByteArray)) sep w hcells hg (by rw [List.length_map]; omega) (by rw [List.length_map]; exact hc) (by rw [texts_back, join_joinL]; exact hlen)
  rw [texts_back, join_joinL, List.length_map] at this
  exact this
theorem decR_32 (l : List UInt8) : ∀ x ∈ decR l, -2147483648 ≤ x ∧ x ≤ 2147483647 := fun x hx => by
  unfold decR at hx
  split at hx
  · cases hx
  · obtain ⟨h1, h2, _⟩ := decL_isR l x hx
    omega


set_option maxHeartbeats 8000000 in
set_option maxRecDepth 100000 in
theorem raE_any (h : Ho) (ok : h.Ok) (w : World) (hn : h.n.length ≤ 140737488351232) (hck : ¬ check h true = 0) :
    Calls Tryz.prog 19 #[hostV h] w fun e w' => e = .returned (ascV (ascii asciiL h)) ∧ Below w.heap.size w w' := by
  have ha := ok.len
  have hsz := hostC_size h ha
  obtain ⟨HC, hHC⟩ : ∃ HC, HC = hostC h := ⟨_, rfl⟩
  have e1 : hostV h = .agg HC := by rw [hHC]; rfl
  have HHC : Hid (HC = hostC h) := hHC
  rw [← hHC] at hsz
  have L1 : Hid (Lies ((w.alloc (.cells HC 28)).alloc (.cells #[.int .i64 0, .string ⟨#[]⟩, .int .u8 0, .int .u8 0, .int .u8 0, .int .u8 0, .int .u8 0, .int .u8 0, .int .u8 0, .int .u8 0, .int .u8 0, .int .u8 0, .int .u8 0, .int .u8 0, .int .u8 0, .int .u8 0, .int .u8 0, .int .u8 0] 28)) w.heap.size HC 28) := (Lies.new w _ _).alloc _
  have L2 : Hid (Lies ((w.alloc (.cells HC 28)).alloc (.cells #[.int .i64 0, .string ⟨#[]⟩, .int .u8 0, .int .u8 0, .int .u8 0, .int .u8 0, .int .u8 0, .int .u8 0, .int .u8 0, .int .u8 0, .int .u8 0, .int .u8 0, .int .u8 0, .int .u8 0, .int .u8 0, .int .u8 0, .int .u8 0, .int .u8 0] 28)) (w.heap.size + 1) #[.int .i64 0, .string ⟨#[]⟩, .int .u8 0, .int .u8 0, .int .u8 0, .int .u8 0, .int .u8 0, .int .u8 0, .int .u8 0, .int .u8 0, .int .u8 0, .int .u8 0, .int .u8 0, .int .u8 0, .int .u8 0, .int .u8 0, .int .u8 0, .int .u8 0] 28) := new_one w _ _ _
  have HB : Hid (Below w.heap.size w ((w.alloc (.cells HC 28)).alloc (.cells #[.int .i64 0, .string ⟨#[]⟩, .int .u8 0, .int .u8 0, .int .u8 0, .int .u8 0, .int .u8 0, .int .u8 0, .int .u8 0, .int .u8 0, .int .u8 0, .int .u8 0, .int .u8 0, .int .u8 0, .int .u8 0, .int .u8 0, .int .u8 0, .int .u8 0] 28))) := ((Below.refl _ _).alloc (Nat.le_refl _) _).alloc (by simp) _
  have HCK : Hid (∀ wx, Calls Tryz.prog 22 #[.agg HC, .bool true] wx fun e w' => e = .returned (.int .i64 (check h true : Nat)) ∧ Below wx.heap.size wx w') := fun wx => by
    rw [← e1]
    exact rcheck_any h ha true wx hn
  rw [e1]
  clear hHC e1
  go_enter Tryz.func19, Tryz.ntmps19
  go_upto_region 1 with fail
  generalize (w.alloc (.cells HC 28)).alloc (.cells #[.int .i64 0, .string ⟨#[]⟩, .int .u8 0, .int .u8 0, .int .u8 0, .int .u8 0, .int .u8 0, .int .u8 0, .int .u8 0, .int .u8 0, .int .u8 0, .int .u8 0, .int .u8 0, .int .u8 0, .int .u8 0, .int .u8 0, .int .u8 0, .int .u8 0] 28) = wA at L1 L2 HB ⊢
  go_wp2_with (refine wpList_load_row rfl 28 _ rfl w.heap.size rfl HC 28 _ L1.out Tryz.underlying28 rfl (by rw [hsz]; exact infoHo) ?_)
  refine (HCK.out _).mono ?_
  rintro e w1 ⟨rfl, hb1⟩
  have K1 : Hid (Lies w1 w.heap.size HC 28) := L1.out.below hb1 L1.out.lt
  have K2 : Hid (Lies w1 (w.heap.size + 1) #[.int .i64 0, .string ⟨#[]⟩, .int .u8 0, .int .u8 0, .int .u8 0, .int .u8 0, .int .u8 0, .int .u8 0, .int .u8 0, .int .u8 0, .int .u8 0, .int .u8 0, .int .u8 0, .int .u8 0, .int .u8 0, .int .u8 0, .int .u8 0, .int .u8 0] 28) := L2.out.below hb1 L2.out.lt
  have KB : Hid (Below w.heap.size w w1) := HB.out.trans (hb1.mono (Nat.le_of_lt L1.out.lt))
  clear hb1 L1 L2 HB HCK
  have hz1 := K2.out.lt
  have K1h : Lies w1 w.heap.size (hostC h) 28 := by rw [← HHC.out]; exact K1.out
  obtain ⟨c0, c1⟩ := host_cells K1h
  have hf1 := K1h.frozen 1
  have HV : Hid (ascii asciiL h = (ho0, check h true)) := by show _ = _; unfold ascii; rw [if_neg hck]
  have hck' : ((check h true : Int) == 0) = false := by rw [beq_eq_false_iff_ne]; omega
  have hck2 : ((check h true : Int) != 0) = true := by rw [bne, hck']; rfl
  generalize check h true = ck at HV hck' hck2 ⊢
  clear hck
  go_wp2_with (refine wpList_store_row rfl 28 _ _ rfl (w.heap.size + 1) rfl _ #[.int .i64 0, .string ⟨#[]⟩, .int .u8 0, .int .u8 0, .int .u8 0, .int .u8 0, .int .u8 0, .int .u8 0, .int .u8 0, .int .u8 0, .int .u8 0, .int .u8 0, .int .u8 0, .int .u8 0, .int .u8 0, .int .u8 0, .int .u8 0, .int .u8 0] rfl 28 K2.out infoHo rfl (by simp [Value.oneCell']) rfl ?_)
  exact bodyPost_ret (results_mix (p := 2) (q := 3) (by kernel_rfl) _ _ (w.heap.size + 1) ho0 rfl (.int .i64 (ck : Int)) rfl rfl (K2.out.row _)) rfl ⟨by rw [HV.out]; rfl, below_row KB.out (by omega) _⟩

set_option maxHeartbeats 8000000 in
set_option maxRecDepth 100000 in
theorem raO_any (h : Ho) (ok : h.Ok) (w : World) (hn : h.n.length ≤ 140737488351232) (hck : check h true = 0) (k1 : ¬ h.k = 1) (k4 : ¬ h.k = 4) :
    Calls Tryz.prog 19 #[hostV h] w fun e w' => e = .returned (ascV (ascii asciiL h)) ∧ Below w.heap.size w w' := by
  have ha := ok.len
  have hsz := hostC_size h ha
  obtain ⟨HC, hHC⟩ : ∃ HC, HC = hostC h := ⟨_, rfl⟩
  have e1 : hostV h = .agg HC := by rw [hHC]; rfl
  have HHC : Hid (HC = hostC h) := hHC
  rw [← hHC] at hsz
  have L1 : Hid (Lies ((w.alloc (.cells HC 28)).alloc (.cells #[.int .i64 0, .string ⟨#[]⟩, .int .u8 0, .int .u8 0, .int .u8 0, .int .u8 0, .int .u8 0, .int .u8 0, .int .u8 0, .int .u8 0, .int .u8 0, .int .u8 0, .int .u8 0, .int .u8 0, .int .u8 0, .int .u8 0, .int .u8 0, .int .u8 0] 28)) w.heap.size HC 28) := (Lies.new w _ _).alloc _
  have L2 : Hid (Lies ((w.alloc (.cells HC 28)).alloc (.cells #[.int .i64 0, .string ⟨#[]⟩, .int .u8 0, .int .u8 0, .int .u8 0, .int .u8 0, .int .u8 0, .int .u8 0, .int .u8 0, .int .u8 0, .int .u8 0, .int .u8 0, .int .u8 0, .int .u8 0, .int .u8 0, .int .u8 0, .int .u8 0, .int .u8 0] 28)) (w.heap.size + 1) #[.int .i64 0, .string ⟨#[]⟩, .int .u8 0, .int .u8 0, .int .u8 0, .int .u8 0, .int .u8 0, .int .u8 0, .int .u8 0, .int .u8 0, .int .u8 0, .int .u8 0, .int .u8 0, .int .u8 0, .int .u8 0, .int .u8 0, .int .u8 0, .int .u8 0] 28) := new_one w _ _ _
  have HB : Hid (Below w.heap.size w ((w.alloc (.cells HC 28)).alloc (.cells #[.int .i64 0, .string ⟨#[]⟩, .int .u8 0, .int .u8 0, .int .u8 0, .int .u8 0, .int .u8 0, .int .u8 0, .int .u8 0, .int .u8 0, .int .u8 0, .int .u8 0, .int .u8 0, .int .u8 0, .int .u8 0, .int .u8 0, .int .u8 0, .int .u8 0] 28))) := ((Below.refl _ _).alloc (Nat.le_refl _) _).alloc (by simp) _
  have HCK : Hid (∀ wx, Calls Tryz.prog 22 #[.agg HC, .bool true] wx fun e w' => e = .returned (.int .i64 (check h true : Nat)) ∧ Below wx.heap.size wx w') := fun wx => by
    rw [← e1]
    exact rcheck_any h ha true wx hn
  rw [e1]
  clear hHC e1
  go_enter Tryz.func19, Tryz.ntmps19
  go_upto_region 1 with fail
  generalize (w.alloc (.cells HC 28)).alloc (.cells #[.int .i64 0, .string ⟨#[]⟩, .int .u8 0, .int .u8 0, .int .u8 0, .int .u8 0, .int .u8 0, .int .u8 0, .int .u8 0, .int .u8 0, .int .u8 0, .int .u8 0, .int .u8 0, .int .u8 0, .int .u8 0, .int .u8 0, .int .u8 0, .int .u8 0] 28) = wA at L1 L2 HB ⊢
  go_wp2_with (refine wpList_load_row rfl 28 _ rfl w.heap.size rfl HC 28 _ L1.out Tryz.underlying28 rfl (by rw [hsz]; exact infoHo) ?_)
  refine (HCK.out _).mono ?_
  rintro e w1 ⟨rfl, hb1⟩
  have K1 : Hid (Lies w1 w.heap.size HC 28) := L1.out.below hb1 L1.out.lt
  have K2 : Hid (Lies w1 (w.heap.size + 1) #[.int .i64 0, .string ⟨#[]⟩, .int .u8 0, .int .u8 0, .int .u8 0, .int .u8 0, .int .u8 0, .int .u8 0, .int .u8 0, .int .u8 0, .int .u8 0, .int .u8 0, .int .u8 0, .int .u8 0, .int .u8 0, .int .u8 0, .int .u8 0, .int .u8 0] 28) := L2.out.below hb1 L2.out.lt
  have KB : Hid (Below w.heap.size w w1) := HB.out.trans (hb1.mono (Nat.le_of_lt L1.out.lt))
  clear hb1 L1 L2 HB HCK
  have hz1 := K2.out.lt
  have K1h : Lies w1 w.heap.size (hostC h) 28 := by rw [← HHC.out]; exact K1.out
  obtain ⟨c0, c1⟩ := host_cells K1h
  have hf1 := K1h.frozen 1
  have k1' : (h.k == 1) = false := by rw [beq_eq_false_iff_ne]; exact k1
  have k1c : (h.k != 1) = true := by rw [bne, k1']; rfl
  have k4' : (h.k == 4) = false := by rw [beq_eq_false_iff_ne]; exact k4
  have HV : Hid (ascii asciiL h = (h, 0)) := by show _ = _; unfold ascii; rw [if_pos hck, if_neg k1, if_neg k4]
  have hoo : HC.all (·.oneCell') = true := by rw [HHC.out]; exact hostC_one h
  rw [hck]
  generalize h.k = kk at c0 k1' k1c k4'
  clear k1 k4 hck
  go_wp2_with (first | (refine wpList_load_row rfl 28 _ rfl w.heap.size rfl HC 28 _ K1.out Tryz.underlying28 rfl (by rw [hsz]; exact infoHo) ?_) | (refine wpList_store_row rfl 28 _ _ rfl (w.heap.size + 1) rfl _ HC rfl 28 K2.out (by rw [hsz]; exact infoHo) (by rw [hsz]; rfl) hoo rfl ?_))
  exact bodyPost_ret (results_mix (p := 2) (q := 3) (by kernel_rfl) _ _ (w.heap.size + 1) h ha (.int .i64 0) rfl rfl (by rw [← HHC.out]; exact K2.out.row _)) rfl ⟨by rw [HV.out]; rfl, below_row KB.out (by omega) _⟩

set_option maxHeartbeats 8000000 in
set_option maxRecDepth 100000 in
theorem raT_any (h : Ho) (ok : h.Ok) (w : World) (hT : Tc w) (hn : h.n.length ≤ 140737488351232) (hck : check h true = 0) (k4 : h.k = 4) :
    Calls Tryz.prog 19 #[hostV h] w fun e w' => e = .returned (ascV (ascii asciiL h)) ∧ Below w.heap.size w w' := by
  have ha := ok.len
  have HT : Hid (∀ wx, Below w.heap.size w wx → Tc wx) := fun wx hb => hT.below hb
  clear hT
  have hsz := hostC_size h ha
  obtain ⟨HC, hHC⟩ : ∃ HC, HC = hostC h := ⟨_, rfl⟩
  have e1 : hostV h = .agg HC := by rw [hHC]; rfl
  have HHC : Hid (HC = hostC h) := hHC
  rw [← hHC] at hsz
  have L1 : Hid (Lies ((w.alloc (.cells HC 28)).alloc (.cells #[.int .i64 0, .string ⟨#[]⟩, .int .u8 0, .int .u8 0, .int .u8 0, .int .u8 0, .int .u8 0, .int .u8 0, .int .u8 0, .int .u8 0, .int .u8 0, .int .u8 0, .int .u8 0, .int .u8 0, .int .u8 0, .int .u8 0, .int .u8 0, .int .u8 0] 28)) w.heap.size HC 28) := (Lies.new w _ _).alloc _
  have L2 : Hid (Lies ((w.alloc (.cells HC 28)).alloc (.cells #[.int .i64 0, .string ⟨#[]⟩, .int .u8 0, .int .u8 0, .int .u8 0, .int .u8 0, .int .u8 0, .int .u8 0, .int .u8 0, .int .u8 0, .int .u8 0, .int .u8 0, .int .u8 0, .int .u8 0, .int .u8 0, .int .u8 0, .int .u8 0, .int .u8 0] 28)) (w.heap.size + 1) #[.int .i64 0, .string ⟨#[]⟩, .int .u8 0, .int .u8 0, .int .u8 0, .int .u8 0, .int .u8 0, .int .u8 0, .int .u8 0, .int .u8 0, .int .u8 0, .int .u8 0, .int .u8 0, .int .u8 0, .int .u8 0, .int .u8 0, .int .u8 0, .int .u8 0] 28) := new_one w _ _ _
  have HB : Hid (Below w.heap.size w ((w.alloc (.cells HC 28)).alloc (.cells #[.int .i64 0, .string ⟨#[]⟩, .int .u8 0, .int .u8 0, .int .u8 0, .int .u8 0, .int .u8 0, .int .u8 0, .int .u8 0, .int .u8 0, .int .u8 0, .int .u8 0, .int .u8 0, .int .u8 0, .int .u8 0, .int .u8 0, .int .u8 0, .int .u8 0] 28))) := ((Below.refl _ _).alloc (Nat.le_refl _) _).alloc (by simp) _
  have HCK : Hid (∀ wx, Calls Tryz.prog 22 #[.agg HC, .bool true] wx fun e w' => e = .returned (.int .i64 (check h true : Nat)) ∧ Below wx.heap.size wx w') := fun wx => by
    rw [← e1]
    exact rcheck_any h ha true wx hn
  rw [e1]
  clear hHC e1
  go_enter Tryz.func19, Tryz.ntmps19
  go_upto_region 1 with fail
  generalize (w.alloc (.cells HC 28)).alloc (.cells #[.int .i64 0, .string ⟨#[]⟩, .int .u8 0, .int .u8 0, .int .u8 0, .int .u8 0, .int .u8 0, .int .u8 0, .int .u8 0, .int .u8 0, .int .u8 0, .int .u8 0, .int .u8 0, .int .u8 0, .int .u8 0, .int .u8 0, .int .u8 0, .int .u8 0] 28) = wA at L1 L2 HB ⊢
  go_wp2_with (refine wpList_load_row rfl 28 _ rfl w.heap.size rfl HC 28 _ L1.out Tryz.underlying28 rfl (by rw [hsz]; exact infoHo) ?_)
  refine (HCK.out _).mono ?_
  rintro e w1 ⟨rfl, hb1⟩
  have K1 : Hid (Lies w1 w.heap.size HC 28) := L1.out.below hb1 L1.out.lt
  have K2 : Hid (Lies w1 (w.heap.size + 1) #[.int .i64 0, .string ⟨#[]⟩, .int .u8 0, .int .u8 0, .int .u8 0, .int .u8 0, .int .u8 0, .int .u8 0, .int .u8 0, .int .u8 0, .int .u8 0, .int .u8 0, .int .u8 0, .int .u8 0, .int .u8 0, .int .u8 0, .int .u8 0, .int .u8 0] 28) := L2.out.below hb1 L2.out.lt
  have KB : Hid (Below w.heap.size w w1) := HB.out.trans (hb1.mono (Nat.le_of_lt L1.out.lt))
  clear hb1 L1 L2 HB HCK
  have hz1 := K2.out.lt
  have K1h : Lies w1 w.heap.size (hostC h) 28 := by rw [← HHC.out]; exact K1.out
  obtain ⟨c0, c1⟩ := host_cells K1h
  have hf1 := K1h.frozen 1
  rw [hck]
  have HK : Hid (h.k = 4) := k4
  have k1 : ¬ h.k = 1 := by omega
  have HV : Hid (ascii asciiL h = (⟨4, tagS h.n, h.a⟩, 0)) := by show _ = _; unfold ascii; rw [if_pos hck, if_neg k1, if_pos k4]
  obtain ⟨S, hS⟩ : ∃ S : ByteArray, S = ⟨h.n.toArray⟩ := ⟨_, rfl⟩
  have hSl : S.data.toList = h.n := by rw [hS]
  rw [← hS] at c1
  rw [k4] at c0
  have htg := (check_tag k4 hck).2
  have hnl : h.n.length ≤ 253 := by
    unfold chTag at htg
    rcases Nat.lt_or_ge 253 h.n.length with hl | hl
    · rw [if_pos hl] at htg; cases htg
    · exact hl
  obtain ⟨k, hk⟩ : ∃ k, colonAt h.n = some k := by
    unfold chTag at htg
    rw [if_neg (by omega)] at htg
    cases hk : colonAt h.n with
    | none => rw [hk] at htg; cases htg
    | some k => exact ⟨k, rfl⟩
  obtain ⟨hkl, h58, _⟩ := colon_some hk
  have hSs : S.size ≤ 253 := by rw [← len_list, hSl]; exact hnl
  have hidx : Lib.index h.n [58] = (k : Int) := by
    have e : h.n = h.n.take k ++ 58 :: h.n.drop (k + 1) := by
      rw [← h58, ← List.drop_eq_getElem_cons hkl, List.take_append_drop]
    have := index_at 58 (h.n.take k) (h.n.drop (k + 1)) (fun c hc => by
      obtain ⟨j, hj, rfl⟩ := List.getElem_of_mem hc
      rw [List.getElem_take]
      rw [List.length_take] at hj
      exact (colon_some hk).2.2 j _ (by omega))
    rw [← e, List.length_take, Nat.min_eq_left (by omega)] at this
    exact this
  obtain ⟨m, hm⟩ := (HT.out _ KB.out).ml
  have HCT := Tryz.strings_Cut S ⟨#[58]⟩ m w1 (by omega) hm
  rw [hSl] at HCT
  have hcut : Lib.cut h.n (⟨#[58]⟩ : ByteArray).data.toList = (h.n.take k, h.n.drop (k + 1), true) := by
    unfold Lib.cut
    rw [show (⟨#[58]⟩ : ByteArray).data.toList = [58] from rfl, hidx, if_pos (by omega)]
    rfl
  rw [hcut] at HCT
  have HCU : Hid (Calls Tryz.prog 55 #[.string S, .string ⟨#[58]⟩] w1 fun e w' => e = .returned (.tuple #[.string ⟨(h.n.take k).toArray⟩, .string ⟨(h.n.drop (k + 1)).toArray⟩, .bool true]) ∧ ∃ n, w' = w1.drewN n) := HCT
  have HSM : Hid (∀ wx, Calls Tryz.prog 56 #[.string ⟨(h.n.take k).toArray⟩] wx fun e w' => e = .returned (.string ⟨(sml (h.n.take k)).toArray⟩) ∧ Below wx.heap.size wx w') := fun wx => by
    have := rsmall_any ⟨(h.n.take k).toArray⟩ wx (by unfold maxLen; show (h.n.take k).toArray.size ≤ _; rw [List.size_toArray, List.length_take]; omega)
    unfold smS at this
    rw [str_list] at this
    exact this
  have HTG : Hid ((⟨(tagS h.n).toArray⟩ : ByteArray) = ⟨(sml (h.n.take k)).toArray⟩ ++ ⟨#[58]⟩ ++ ⟨(h.n.drop (k + 1)).toArray⟩) := by
    show _ = _
    rw [tagS_some hk, show (⟨#[58]⟩ : ByteArray) = ⟨([58] : List UInt8).toArray⟩ from rfl, str_append, str_append, List.append_assoc]
    congr 2
    rw [List.drop_eq_getElem_cons hkl, h58]
    rfl
  have hz4 : (sml (h.n.take k)).length ≤ 253 ∧ (h.n.drop (k + 1)).length ≤ 253 := by
    rw [sml_len, List.length_take, List.length_drop]
    omega
  generalize sml (h.n.take k) = sm at HSM HTG hz4
  generalize h.n.take k = tg at HCU HSM
  generalize h.n.drop (k + 1) = dr at HCU HTG hz4
  have hz5 : (⟨sm.toArray⟩ : ByteArray).size ≤ 253 := by show sm.toArray.size ≤ _; rw [List.size_toArray]; exact hz4.1
  have hz6 : (⟨dr.toArray⟩ : ByteArray).size ≤ 253 := by show dr.toArray.size ≤ _; rw [List.size_toArray]; exact hz4.2
  generalize (⟨sm.toArray⟩ : ByteArray) = SM at HSM HTG hz5
  generalize (⟨dr.toArray⟩ : ByteArray) = DR at HCU HTG hz6
  generalize (⟨tg.toArray⟩ : ByteArray) = TG at HCU HSM
  have ad1 : ∀ W, (Op.stringOp .add SM ⟨#[58]⟩).run Tryz.prog W = .ok (.string (SM ++ ⟨#[58]⟩)) W := fun W => run_string_add_sum _ _ _ (by show SM.size + 1 ≤ _; omega)
  have ad2 : ∀ W, (Op.stringOp .add (SM ++ ⟨#[58]⟩) DR).run Tryz.prog W = .ok (.string (SM ++ ⟨#[58]⟩ ++ DR)) W := fun W => run_string_add_sum _ _ _ (by rw [ByteArray.size_append]; show SM.size + 1 + DR.size ≤ _; omega)
  clear hck hS hSl hnl hk htg HCT k1 hkl h58 hidx hcut hm hz4 k4
  go_wp2_with fail
  refine HCU.out.mono ?_
  rintro e w2 ⟨rfl, n, hw2⟩
  have hb2 : Below w1.heap.size w1 w2 := by rw [hw2]; exact ⟨rfl, rfl, rfl, Nat.le_refl _, fun _ _ => rfl⟩
  have M1 : Hid (Lies w2 w.heap.size (hostC h) 28) := K1h.below hb2 K1h.lt
  have M2 : Hid (Lies w2 (w.heap.size + 1) #[.int .i64 0, .string ⟨#[]⟩, .int .u8 0, .int .u8 0, .int .u8 0, .int .u8 0, .int .u8 0, .int .u8 0, .int .u8 0, .int .u8 0, .int .u8 0, .int .u8 0, .int .u8 0, .int .u8 0, .int .u8 0, .int .u8 0, .int .u8 0, .int .u8 0] 28) := K2.out.below hb2 K2.out.lt
  have MB : Hid (Below w.heap.size w w2) := KB.out.trans (hb2.mono KB.out.size)
  clear hb2 hw2 HCU K1 K2 KB K1h c0 c1 hf1 hz1
  have hz2 := M2.out.lt
  go_wp2_with fail
  refine (HSM.out _).mono ?_
  rintro e w3 ⟨rfl, hb3⟩
  have J1 : Hid (Lies w3 w.heap.size (hostC h) 28) := M1.out.below hb3 M1.out.lt
  have J2 : Hid (Lies w3 (w.heap.size + 1) #[.int .i64 0, .string ⟨#[]⟩, .int .u8 0, .int .u8 0, .int .u8 0, .int .u8 0, .int .u8 0, .int .u8 0, .int .u8 0, .int .u8 0, .int .u8 0, .int .u8 0, .int .u8 0, .int .u8 0, .int .u8 0, .int .u8 0, .int .u8 0, .int .u8 0] 28) := M2.out.below hb3 M2.out.lt
  have JB : Hid (Below w.heap.size w w3) := MB.out.trans (hb3.mono MB.out.size)
  clear hb3 HSM M1 M2 MB hz2
  have hz3 := J2.out.lt
  have hf9 := J1.out.frozen 1
  obtain ⟨v9, hv9⟩ : ∃ v, w3.cell? ⟨w.heap.size, 1, none⟩ = some v := ⟨_, J1.out.cell 1⟩
  have J3 : Hid (Lies (w3.setCell ⟨w.heap.size, 1, none⟩ (.string (SM ++ ⟨#[58]⟩ ++ DR))) w.heap.size (hostC ⟨4, tagS h.n, h.a⟩) 28) := by
    have := J1.out.set 1 (.string (SM ++ ⟨#[58]⟩ ++ DR))
    rw [← HTG.out, hostC_name, HK.out] at this
    rw [← HTG.out]; exact this
  have J4 : Hid (Lies (w3.setCell ⟨w.heap.size, 1, none⟩ (.string (SM ++ ⟨#[58]⟩ ++ DR))) (w.heap.size + 1) #[.int .i64 0, .string ⟨#[]⟩, .int .u8 0, .int .u8 0, .int .u8 0, .int .u8 0, .int .u8 0, .int .u8 0, .int .u8 0, .int .u8 0, .int .u8 0, .int .u8 0, .int .u8 0, .int .u8 0, .int .u8 0, .int .u8 0, .int .u8 0, .int .u8 0] 28) := J2.out.set_other (a := ⟨w.heap.size, 1, none⟩) (by show w.heap.size + 1 ≠ w.heap.size; omega) _
  have JB4 : Hid (Below w.heap.size w (w3.setCell ⟨w.heap.size, 1, none⟩ (.string (SM ++ ⟨#[58]⟩ ++ DR)))) := JB.out.setCell (p := ⟨w.heap.size, 1, none⟩) (Nat.le_refl _) _
  have hzz := hostC_size ⟨4, tagS h.n, h.a⟩ ha
  have hoo := hostC_one ⟨4, tagS h.n, h.a⟩
  clear J1 J2 JB
  go_upto_region 7 with fail
  generalize w3.setCell ⟨w.heap.size, 1, none⟩ (.string (SM ++ ⟨#[58]⟩ ++ DR)) = w9 at J3 J4 JB4 ⊢
  obtain ⟨X, hX⟩ : ∃ X, X = hostC ⟨4, tagS h.n, h.a⟩ := ⟨_, rfl⟩
  rw [← hX] at J3 hzz hoo
  have HX : Hid (X = hostC ⟨4, tagS h.n, h.a⟩) := hX
  have hz9 := J4.out.lt
  clear hX hv9 hf9
  go_wp2_with (first | (refine wpList_load_row rfl 28 _ rfl w.heap.size rfl X 28 _ J3.out Tryz.underlying28 rfl (by rw [hzz]; exact infoHo) ?_) | (refine wpList_store_row rfl 28 _ _ rfl (w.heap.size + 1) rfl _ X rfl 28 J4.out (by rw [hzz]; exact infoHo) (by rw [hzz]; rfl) hoo rfl ?_))
  exact bodyPost_ret (results_mix (p := 2) (q := 3) (by kernel_rfl) _ _ (w.heap.size + 1) ⟨4, tagS h.n, h.a⟩ ha (.int .i64 0) rfl rfl (by rw [← HX.out]; exact J4.out.row _)) rfl ⟨by rw [HV.out]; rfl, below_row JB4.out (by omega) _⟩
end Go.Proofs.YtnlgbopdbihnjaaGreatDoor
