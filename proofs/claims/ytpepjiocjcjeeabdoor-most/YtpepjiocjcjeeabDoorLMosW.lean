/-
  FieldMost's walk.
-/
import Derived.Test.YtpepjiocjcjeeabDoorFmP
import Derived.Test.YtpepjiocjcjeeabDoorLpP
import Derived.Test.YtpepjiocjcjeeabDoorWk16
import Derived.Test.YtpepjiocjcjeeabDoorAp16
namespace Go.Proofs.YtpepjiocjcjeeabDoor.fieldMost
open Go.ChangeShapes Go.WideShapes Go.ChangeAt Go.RowKit

theorem wpList_appF {ops : Array Oper} {rest : List Oper} {o : Oper} {a : Act} {w : World} {Q : Exit → Act → World → Prop} (hgd : o.guard = none) (s x : Operand)
    (ho : o.op = .call { callee := .builtin .append, args := #[s, x], argTypes := #[24, 24] }) (base : Nat) (v : Value) (n : Nat) (xs : List Value) (hs : a.eval s = v) (hown : w.ownsRow base 32 2 v n xs)
    (g c : Nat) (V : Array Value) (hVz : V.size = 2) (hVo : V.all (·.oneCell') = true) (hx : a.eval x = .slice (some ⟨g, 0, none⟩) 1 c) (hb : Lies w g V 32) (hn : n ≤ 1000000) (hbase : base ≤ w.heap.size)
    (h : ∀ v' w', w'.ownsRow base 32 2 v' (n + 1) (xs ++ V.toList) → w.grownBy w' v.ownBlock → wpList Tryd.prog ops Q rest (a.put o.dst v') w') : wpList Tryd.prog ops Q (o :: rest) a w :=
  wpList_plain hgd fun _ hK => oper_append_fd s x ho base v n xs hs hown g c V hVz hVo hx hb hn hbase fun v' w' h2 h3 => hK _ _ (h v' w' h2 h3)
theorem cells_A (k : Nat) : cellsF (lA (k + 1)) = cellsF (lA k) ++ [.string ⟨#[65]⟩, .string ⟨#[]⟩] := by
  unfold lA
  rw [List.replicate_succ', cellsF_append, cellsF_one]
  rfl
theorem own_nn {w : World} {B n c : Nat} {a : Option Addr} {xs : List Value} (h : w.ownsRow B 5 1 (.slice a n c) n xs) : n ≤ c ∧ c ≤ 9223372036854775807 ∧ (a = none → c = 0) ∧ (∀ ad, a = some ad → ad.block < w.heap.size) := by
  refine ⟨?_, own_capT h, ?_, fun ad e => ?_⟩
  · obtain ⟨_, ⟨h1, h2⟩ | ⟨g, cap, cur, hv, _, _, hcap, _⟩⟩ := h
    · injection h1 with _ _ e
      omega
    · injection hv with _ _ e
      omega
  · intro e
    obtain ⟨_, ⟨h1, h2⟩ | ⟨g, cap, cur, hv, _⟩⟩ := h
    · injection h1
    · injection hv with e1
      rw [e] at e1
      cases e1
  · obtain ⟨_, ⟨h1, h2⟩ | ⟨g, cap, cur, hv, _, hc, _⟩⟩ := h
    · injection h1 with e1
      rw [e] at e1
      cases e1
    · injection hv with e1
      rw [e] at e1
      cases e1
      exact (Array.getElem?_eq_some_iff.1 hc).1
theorem own_lower {w : World} {B B' n t k : Nat} {v : Value} {xs : List Value} (h : w.ownsRow B t k v n xs) (hB : B' ≤ B) : w.ownsRow B' t k v n xs :=
  ⟨h.1, h.2.imp id fun ⟨g, cap, cur, e, hb, r⟩ => ⟨g, cap, cur, e, Nat.le_trans hB hb, r⟩⟩
theorem own_ne {w : World} {B B' n n' t t' k k' : Nat} {v v' : Value} {xs xs' : List Value} (h : w.ownsRow B t k v n xs) (h' : w.ownsRow B' t' k' v' n' xs') (ht : t ≠ t') : v.ownBlock = none ∨ v.ownBlock ≠ v'.ownBlock := by
  rcases h.2 with ⟨rfl, _⟩ | ⟨g, cap, cur, rfl, _, hg, _⟩
  · exact .inl rfl
  · refine .inr fun e => ?_
    rcases h'.2 with ⟨rfl, _⟩ | ⟨g', cap', cur', rfl, _, hg', _⟩
    · cases e
    · injection e with e
      have e2 : g = g' := e
      subst e2
      rw [hg] at hg'
      injection hg' with e3
      injection e3 with _ e4
      exact ht e4
theorem lies_ne {w : World} {g B' n' t t' k' : Nat} {cs : Array Value} {v' : Value} {xs' : List Value} (h : Lies w g cs t) (h' : w.ownsRow B' t' k' v' n' xs') (ht : t ≠ t') : some g ≠ v'.ownBlock := by
  intro e
  rcases h'.2 with ⟨rfl, _⟩ | ⟨g', cap', cur', rfl, _, hg', _⟩
  · cases e
  · injection e with e
    have e2 : g = g' := e
    subst e2
    have h2 : w.heap[g]? = some (.cells cs t (0, 0)) := h
    rw [h2] at hg'
    injection hg' with e3
    injection e3 with _ e4
    exact ht e4
theorem tot_A (n : Nat) : totF (lA n) = n := by
  have h1 := prL_tot (lA n)
  rw [prL_A, lA_len] at h1
  omega
set_option maxRecDepth 100000 in
set_option maxHeartbeats 16000000 in
theorem walk (w : World) (hT : Table w) : Calls Tryd.prog 6 #[] w fun e w' => e = .returned (.bool true) ∧ Below w.heap.size w w' := by
  have HT : Hid (Table w) := hT
  have HWK : Hid (∀ wx, Table wx → Calls Tryd.prog 7 #[] wx fun e w' => e = .returned (.bool true) ∧ Below wx.heap.size wx w') := fun wx h => wakes_any wx h
  have HFP : Hid (∀ (a : Option Addr) (cap : Nat) (wx : World), Fds a (lA 4096) wx → Table wx → Calls Tryd.prog 11 #[.slice a 4096 cap] wx fun e w' => ∃ b c, e = .returned (.tuple #[.slice b 16384 c, .int .i64 0]) ∧ Below wx.heap.size wx w' ∧ w'.ownsRow wx.heap.size 5 1 (.slice b 16384 c) 16384 (cellsB (prL (lA 4096)))) := fun a cap wx h h2 => by
    have := fprint_row a cap (lA 4096) wx h (by rw [lA_len]; decide) (by rw [tot_A]; decide) h2
    rw [lA_len, prR_A, prL_A, prE_A] at this
    exact this
  have HFQ : Hid (∀ (a : Option Addr) (cap : Nat) (wx : World), Fds a (lA 4097) wx → Table wx → Calls Tryd.prog 11 #[.slice a 4097 cap] wx fun e w' => ∃ b n c, e = .returned (.tuple #[.slice b n c, .int .i64 160]) ∧ Below wx.heap.size wx w') := fun a cap wx h h2 => by
    have := fprint_row a cap (lA 4097) wx h (by rw [lA_len]; decide) (by rw [tot_A]; decide) h2
    have hE : prE (lA 4097) = 160 := by
      unfold prE
      rw [lA_len, if_pos (by decide)]
    rw [lA_len, hE] at this
    refine this.mono ?_
    rintro e w' ⟨b, c, rfl, h3, _⟩
    exact ⟨b, _, c, rfl, h3⟩
  have HPA : Hid (∀ (R : List UInt8), R = [] ∨ leH R = true → R.length ≤ 4 → ∀ (b : Option Addr) (n c : Nat) (B : Nat) (wx : World), n = 16384 + R.length → wx.ownsRow B 5 1 (.slice b n c) n (cellsB (prL (lA 4096) ++ R)) → Table wx →
      Calls Tryd.prog 8 #[.slice b n c] wx fun e w' => ∃ b2 c2, e = .returned (.tuple #[.slice b2 4096 c2, .int .i64 ((16384 + (if R = [] then 0 else 2) : Nat) : Int), .agg #[.int .i64 0, .int .i64 0]]) ∧ Below wx.heap.size wx w') := by
    intro R hR hRl b n c B wx hn ho hTx
    obtain ⟨ps, h1, h2⟩ := back_all (lA 4096) prE_A R hR
    have hnl : n = (prL (lA 4096) ++ R).length := by rw [List.length_append, prL_A, hn]
    obtain ⟨k1, k2, k3, k4⟩ := own_nn ho
    obtain ⟨ad, cp, hv, hbt, -⟩ := own_bts ho
    injection hv with hv1 hv2 hv3
    subst hv1
    subst hnl
    have h3 := fparse_rowG b (prL (lA 4096) ++ R) c k1 k2 (by omega) wx hbt hTx
    rw [h1] at h3
    rw [show fsP (prL (lA 4096) ++ R) (.ok (ps, (prL (lA 4096)).length + (if R = [] then 0 else 2))) = lA 4096 from h2, prL_A, lA_len] at h3
    refine h3.mono ?_
    rintro e w' ⟨b2, c2, rfl, h4, _⟩
    exact ⟨b2, c2, rfl, h4⟩
  have HPB : Hid (∀ (b : Option Addr) (n c : Nat) (B : Nat) (wx : World), n = 16388 → wx.ownsRow B 5 1 (.slice b n c) n (cellsB (prL (lA 4096) ++ [65, 58, 13, 10])) → Table wx →
      Calls Tryd.prog 8 #[.slice b n c] wx fun e w' => ∃ b2 n2 c2 bt, e = .returned (.tuple #[.slice b2 n2 c2, .int .i64 bt, .agg #[.int .i64 160, .int .i64 16384]]) ∧ Below wx.heap.size wx w') := by
    intro b n c B wx hn ho hTx
    have hnl : n = (prL (lA 4096) ++ [65, 58, 13, 10]).length := by rw [List.length_append, prL_A, hn]; rfl
    obtain ⟨k1, k2, k3, k4⟩ := own_nn ho
    obtain ⟨ad, cp, hv, hbt, -⟩ := own_bts ho
    injection hv with hv1 hv2 hv3
    subst hv1
    subst hnl
    have h3 := fparse_rowG b (prL (lA 4096) ++ [65, 58, 13, 10]) c k1 k2 (by omega) wx hbt hTx
    rw [more_A] at h3
    refine h3.mono ?_
    rintro e w' ⟨b2, c2, rfl, h4, _⟩
    exact ⟨b2, _, c2, _, rfl, h4⟩
  go_enter Tryd.func6, Tryd.ntmps6
  go_wp2_with fail
  refine (HWK.out _ HT.out).mono ?_
  rintro e w1 ⟨rfl, hb1⟩
  have HB1 : Hid (Below w.heap.size w w1) := hb1
  clear hb1 HWK
  go_wp2_with fail
  go_loopw [1, 17] (fun lv iv wr => ∃ k : Nat, k ≤ 4096 ∧ iv = .int .i64 (k : Int) ∧ Hid (wr.ownsRow w.heap.size 32 2 lv k (cellsF (lA k))) ∧ Hid (Below w.heap.size w wr)) (fun _ iv _ => 4096 - (intOf iv).toNat)
  case atStart => exact ⟨0, Nat.zero_le _, rfl, World.ownsRow_nil _ _ _ _, HB1.out⟩
  case round =>
    obtain ⟨k, hk, rfl, HO, HB⟩ := hrel
    by_cases hlt : k < 4096
    · have hki : (k : Int) < 4096 := by omega
      have e1 : IntKind.i64.wrap ((k : Int) + 1) = (k : Int) + 1 := by rw [IntKind.wrap_i64]; omega
      go_wp2_with (at_builtin; refine wpList_appF rfl _ _ rfl w.heap.size _ k (cellsF (lA k)) rfl (HO.out.alloc _) wr.heap.size 1 #[.string ⟨#[65]⟩, .string ⟨#[]⟩] rfl (by simp [Value.oneCell']) rfl (Lies.new wr _ _) (by omega) (by have := HB.out.size; simp; omega) ?_; intro v3 w3 ho3 hg3; have HO3 : Hid _ := ho3; have HG3 : Hid _ := hg3; clear ho3 hg3)
      have HB3 : Hid (Below w.heap.size w w3) := (HB.out.alloc HB.out.size _).grown HG3.out (by have := HB.out.size; simp; omega) (fun q hq => (HO.out.lt q hq).1)
      go_roundw
      case rel => exact ⟨k + 1, by omega, by go_num, by show World.ownsRow _ _ _ _ _ _ _; rw [cells_A]; exact HO3.out, HB3.out⟩
      case measure => simp [intOf]; omega
    · have hki : ¬ (k : Int) < 4096 := by omega
      obtain rfl : k = 4096 := by omega
      obtain ⟨la, lc, hv, hfd, -⟩ := own_fds (l := lA 4096) (by rw [lA_len]; exact HO.out)
      rw [lA_len] at hv
      subst hv
      have HFd : Hid (Fds la (lA 4096) wr) := hfd
      clear hfd
      go_wp2_with fail
      refine (HFP.out _ _ _ HFd.out (tab_below HT.out HB.out)).mono ?_
      rintro e w2 ⟨b2, c2, rfl, hb2, ho2⟩
      have HO2 : Hid (w2.ownsRow w.heap.size 5 1 (.slice b2 16384 c2) 16384 (cellsB (prL (lA 4096)))) := own_lower ho2 HB.out.size
      have HL2 : Hid (w2.ownsRow w.heap.size 32 2 (.slice la 4096 lc) 4096 (cellsF (lA 4096))) := ownT_below HO.out hb2
      have HB2 : Hid (Below w.heap.size w w2) := HB.out.trans (hb2.mono HB.out.size)
      clear ho2 hb2 HFP HO HB HFd
      have HPA0 : Hid (∀ (b : Option Addr) (c : Nat) (B : Nat) (wx : World), wx.ownsRow B 5 1 (.slice b 16384 c) 16384 (cellsB (prL (lA 4096))) → Table wx →
        Calls Tryd.prog 8 #[.slice b 16384 c] wx fun e w' => ∃ b2 c2, e = .returned (.tuple #[.slice b2 4096 c2, .int .i64 16384, .agg #[.int .i64 0, .int .i64 0]]) ∧ Below wx.heap.size wx w') := fun b c B wx ho h => by
        have := HPA.out [] (.inl rfl) (by decide) b 16384 c B wx rfl (by rw [List.append_nil]; exact ho) h
        exact this
      have HPA2 : Hid (∀ (b : Option Addr) (n c : Nat) (B : Nat) (wx : World), n = 16386 → wx.ownsRow B 5 1 (.slice b n c) n (cellsB (prL (lA 4096) ++ [13, 10])) → Table wx →
        Calls Tryd.prog 8 #[.slice b n c] wx fun e w' => ∃ b2 c2, e = .returned (.tuple #[.slice b2 4096 c2, .int .i64 16386, .agg #[.int .i64 0, .int .i64 0]]) ∧ Below wx.heap.size wx w') := fun b n c B wx hn ho h =>
        HPA.out [13, 10] (.inr rfl) (by decide) b n c B wx hn ho h
      clear HPA
      have hz1 : (w.heap.size : Nat) ≤ w1.heap.size := HB1.out.size
      generalize prL (lA 4096) = P at *
      go_wp2_with fail
      refine (HPA0.out _ _ _ _ HO2.out (tab_below HT.out HB2.out)).mono ?_
      rintro e w3 ⟨b3, c3, rfl, hb3⟩
      have HO3 : Hid (w3.ownsRow w.heap.size 5 1 (.slice b2 16384 c2) 16384 (cellsB P)) := ownT_below HO2.out hb3
      have HL3 : Hid (w3.ownsRow w.heap.size 32 2 (.slice la 4096 lc) 4096 (cellsF (lA 4096))) := ownT_below HL2.out hb3
      have HB3 : Hid (Below w.heap.size w w3) := HB2.out.trans (hb3.mono HB2.out.size)
      clear hb3 HPA0 HO2 HL2 HB2
      obtain ⟨W3, hW3⟩ : ∃ W3, W3 = w3.alloc (.cells #[.int .i64 0, .int .i64 0] 27) := ⟨_, rfl⟩
      have HW3 : Hid (w3.alloc (.cells #[.int .i64 0, .int .i64 0] 27) = W3) := hW3.symm
      have hx3 : Below w3.heap.size w3 W3 := by rw [hW3]; exact (Below.refl _ _).alloc (Nat.le_refl _) _
      have HS3 : Hid (Lies W3 w3.heap.size #[.int .i64 0, .int .i64 0] 27) := by rw [hW3]; exact Lies.new w3 _ _
      have HO4 : Hid (W3.ownsRow w.heap.size 5 1 (.slice b2 16384 c2) 16384 (cellsB P)) := ownT_below HO3.out hx3
      have HL4 : Hid (W3.ownsRow w.heap.size 32 2 (.slice la 4096 lc) 4096 (cellsF (lA 4096))) := ownT_below HL3.out hx3
      have HB4 : Hid (Below w.heap.size w W3) := HB3.out.trans (hx3.mono HB3.out.size)
      have HZ3 : Hid (w.heap.size ≤ w3.heap.size ∧ w3.heap.size < W3.heap.size) := ⟨HB3.out.size, HS3.out.lt⟩
      have HN3 : Hid (Lies (W3.alloc (.cells #[.string ⟨#[65]⟩, .string ⟨#[]⟩] 32)) (w3.heap.size + 1) #[.string ⟨#[65]⟩, .string ⟨#[]⟩] 32) := by
        have := Lies.new W3 #[.string ⟨#[65]⟩, .string ⟨#[]⟩] 32
        rw [show W3.heap.size = w3.heap.size + 1 by rw [hW3]; simp] at this
        exact this
      clear hx3 hW3 HO3 HL3 HB3
      go_wp2_with (first
        | (at_builtin; rw [HW3.out]; refine wpList_appF rfl _ _ rfl w.heap.size _ 4096 (cellsF (lA 4096)) rfl (HL4.out.alloc _) (w3.heap.size + 1) 1 #[.string ⟨#[65]⟩, .string ⟨#[]⟩] rfl (by simp [Value.oneCell']) rfl HN3.out (by omega) (by have := HB4.out.size; simp; omega) ?_; intro v5 w5 ho5 hg5; have HO5 : Hid _ := ho5; have HG5 : Hid _ := hg5; clear ho5 hg5))
      have hg5b : w.heap.size ≤ W3.heap.size := HB4.out.size
      have HL5 : Hid (w5.ownsRow w.heap.size 32 2 v5 4097 (cellsF (lA 4097))) := by
        show World.ownsRow _ _ _ _ _ _ _
        rw [cells_A]
        exact HO5.out
      have HB5 : Hid (Below w.heap.size w w5) := (HB4.out.alloc HB4.out.size _).grown HG5.out (by simp; omega) (fun q hq => (HL4.out.lt q hq).1)
      have HO6 : Hid (w5.ownsRow w.heap.size 5 1 (.slice b2 16384 c2) 16384 (cellsB P)) := (HO4.out.alloc _).kept HG5.out (own_ne HO4.out HL4.out (by decide))
      have HS5 : Hid (Lies w5 w3.heap.size #[.int .i64 0, .int .i64 0] 27) := (HG5.out.block w3.heap.size (by have := HZ3.out; simp; omega) (lies_ne HS3.out HL4.out (by decide))).trans (HS3.out.alloc _)
      obtain ⟨l5, k5, hv5, hfd5, -⟩ := own_fds (l := lA 4097) (by rw [lA_len]; exact HL5.out)
      rw [lA_len] at hv5
      subst hv5
      refine (HFQ.out _ _ _ hfd5 (tab_below HT.out HB5.out)).mono ?_
      rintro e w6 ⟨b6, n6, c6, rfl, hb6⟩
      have HO7 : Hid (w6.ownsRow w.heap.size 5 1 (.slice b2 16384 c2) 16384 (cellsB P)) := ownT_below HO6.out hb6
      have HS6 : Hid (Lies w6 w3.heap.size #[.int .i64 0, .int .i64 0] 27) := HS5.out.below hb6 HS5.out.lt
      have HB6 : Hid (Below w.heap.size w w6) := HB5.out.trans (hb6.mono HB5.out.size)
      clear hb6 HO6 HS5 HB5 HL5 hfd5 HFQ HG5 HO5 HL4 HO4 HS3 HB4 HN3 HW3 hg5b
      have HD6 : Hid (Bts (some ⟨w6.heap.size, 0, none⟩) [65, 58, 13, 10] (w6.alloc (.cells #[.int .u8 65, .int .u8 58, .int .u8 13, .int .u8 10] 5))) := .inr ⟨w6.heap.size, 0, rfl, by simp, fun j hj => by
        rw [Nat.zero_add]
        exact (cell_of_row _ w6.heap.size j _ 5 (0, 0) (heap_alloc_new w6 _)).trans (by rw [show (#[Value.int .u8 65, .int .u8 58, .int .u8 13, .int .u8 10] : Array Value) = (cellsB [65, 58, 13, 10]).toArray from rfl, List.getElem?_toArray]; exact cellsB_at _ _ hj)⟩
      go_wp2_with (at_builtin; refine wpList_app2 rfl _ _ rfl w.heap.size b2 16384 c2 P rfl (HO7.out.alloc _) (by decide) w6.heap.size [65, 58, 13, 10] 4 4 rfl rfl HD6.out (by decide) (by have := HB6.out.size; simp; omega) ?_; intro v7 w7 ho7 hd7 hg7; have HO8 : Hid _ := ho7; have HP8 : Hid _ := hd7; have HG7 : Hid _ := hg7; clear ho7 hd7 hg7)
      have HB8 : Hid (Below w.heap.size w w7) := (HB6.out.alloc HB6.out.size _).grown HG7.out (by have := HB6.out.size; simp; omega) (fun q hq => (HO7.out.lt q hq).1)
      have HS8 : Hid (Lies w7 w3.heap.size #[.int .i64 0, .int .i64 0] 27) := (HG7.out.block w3.heap.size (by have := HS6.out.lt; simp; omega) (lies_ne HS6.out HO7.out (by decide))).trans (HS6.out.alloc _)
      obtain ⟨a7, k7, hv7, -⟩ := own_bts HO8.out
      subst hv7
      refine (HPB.out _ _ _ _ _ rfl HO8.out (tab_below HT.out HB8.out)).mono ?_
      rintro e w8 ⟨b8, n8, c8, bt8, rfl, hb8⟩
      have HO9 : Hid (w8.ownsRow w.heap.size 5 1 (.slice b2 16384 c2) 16384 (cellsB P)) := ownT_below HP8.out hb8
      have HS9 : Hid (Lies w8 w3.heap.size #[.int .i64 0, .int .i64 0] 27) := HS8.out.below hb8 HS8.out.lt
      have HB9 : Hid (Below w.heap.size w w8) := HB8.out.trans (hb8.mono HB8.out.size)
      clear hb8 HO8 HP8 HG7 HB8 HS8 HD6 HO7 HS6 HB6 HPB
      obtain ⟨W8, hW8⟩ : ∃ W8, W8 = w8.alloc (.cells #[.int .i64 160, .int .i64 16384] 27) := ⟨_, rfl⟩
      have HW8 : Hid (w8.alloc (.cells #[.int .i64 160, .int .i64 16384] 27) = W8) := hW8.symm
      have hx8 : Below w8.heap.size w8 W8 := by rw [hW8]; exact (Below.refl _ _).alloc (Nat.le_refl _) _
      have HA8 : Hid (Lies W8 w8.heap.size #[.int .i64 160, .int .i64 16384] 27) := by rw [hW8]; exact Lies.new w8 _ _
      have HOA : Hid (W8.ownsRow w.heap.size 5 1 (.slice b2 16384 c2) 16384 (cellsB P)) := ownT_below HO9.out hx8
      have HSA : Hid (Lies W8 w3.heap.size #[.int .i64 0, .int .i64 0] 27) := HS9.out.below hx8 HS9.out.lt
      have HBA : Hid (Below w.heap.size w W8) := HB9.out.trans (hx8.mono HB9.out.size)
      have hz8 : W8.heap.size = w8.heap.size + 1 := by rw [hW8]; simp
      have HDA : Hid (Bts (some ⟨w8.heap.size + 1, 0, none⟩) [13, 10] (W8.alloc (.cells #[.int .u8 13, .int .u8 10] 5))) := .inr ⟨w8.heap.size + 1, 0, rfl, by simp [hz8], fun j hj => by
        rw [Nat.zero_add, ← hz8]
        exact (cell_of_row _ W8.heap.size j _ 5 (0, 0) (heap_alloc_new W8 _)).trans (by rw [show (#[Value.int .u8 13, .int .u8 10] : Array Value) = (cellsB [13, 10]).toArray from rfl, List.getElem?_toArray]; exact cellsB_at _ _ hj)⟩
      have HZ8 : Hid (W8.heap.size = w8.heap.size + 1) := hz8
      clear hx8 hW8 hz8 HO9 HS9 HB9
      go_wp2_with (at_builtin; rw [HW8.out]; refine wpList_app2 rfl _ _ rfl w.heap.size b2 16384 c2 P rfl (HOA.out.alloc _) (by decide) (w8.heap.size + 1) [13, 10] 2 2 rfl rfl HDA.out (by decide) (by have := HBA.out.size; simp; omega) ?_; intro v9 w9 ho9 hd9 hg9; have HOB : Hid _ := ho9; have HGB : Hid _ := hg9; clear ho9 hd9 hg9)
      have HBB : Hid (Below w.heap.size w w9) := (HBA.out.alloc HBA.out.size _).grown HGB.out (by have := HBA.out.size; simp; omega) (fun q hq => (HOA.out.lt q hq).1)
      have HSB : Hid (Lies w9 w3.heap.size #[.int .i64 0, .int .i64 0] 27) := (HGB.out.block w3.heap.size (by have := HSA.out.lt; simp; omega) (lies_ne HSA.out HOA.out (by decide))).trans (HSA.out.alloc _)
      have HAB : Hid (Lies w9 w8.heap.size #[.int .i64 160, .int .i64 16384] 27) := (HGB.out.block w8.heap.size (by have := HA8.out.lt; simp; omega) (lies_ne HA8.out HOA.out (by decide))).trans (HA8.out.alloc _)
      obtain ⟨a9, k9, hv9, -⟩ := own_bts HOB.out
      subst hv9
      refine (HPA2.out _ _ _ _ _ rfl HOB.out (tab_below HT.out HBB.out)).mono ?_
      rintro e wa ⟨ba, ca, rfl, hba⟩
      have HSC : Hid (Lies (wa.alloc (.cells #[.int .i64 0, .int .i64 0] 27)) w3.heap.size #[.int .i64 0, .int .i64 0] 27) := (HSB.out.below hba HSB.out.lt).alloc _
      have HAC : Hid (Lies (wa.alloc (.cells #[.int .i64 0, .int .i64 0] 27)) w8.heap.size #[.int .i64 160, .int .i64 16384] 27) := (HAB.out.below hba HAB.out.lt).alloc _
      have HFC : Hid (Lies (wa.alloc (.cells #[.int .i64 0, .int .i64 0] 27)) wa.heap.size #[.int .i64 0, .int .i64 0] 27) := Lies.new wa _ _
      have HBC : Hid (Below w.heap.size w (wa.alloc (.cells #[.int .i64 0, .int .i64 0] 27))) := (HBB.out.trans (hba.mono HBB.out.size)).alloc (HBB.out.trans (hba.mono HBB.out.size)).size _
      have s0 := HSC.out.cell 0
      have s1 := HSC.out.cell 1
      have t0 := HAC.out.cell 0
      have t1 := HAC.out.cell 1
      have f0 := HFC.out.cell 0
      have f1 := HFC.out.cell 1
      simp only [List.getElem?_toArray, List.getElem?_cons_zero, List.getElem?_cons_succ] at s0 s1 t0 t1 f0 f1
      clear hba HSB HAB HBB HOB HGB HOA HSA HBA HA8 HDA HW8 HZ8
      go_wp2_with fail
      go_ret
      exact ⟨rfl, HBC.out⟩
end Go.Proofs.YtpepjiocjcjeeabDoor.fieldMost
