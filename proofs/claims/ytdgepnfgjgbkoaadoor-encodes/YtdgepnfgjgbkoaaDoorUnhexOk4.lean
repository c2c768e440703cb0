/-
  A statement whose order is drawn, within a round of a loop over an iterator.
-/
import Derived.Test.YtdgepnfgjgbkoaaDoorLate5
import Derived.OrdersIn
import Derived.TacticsIn
import Derived.RangeFuncIn
import Derived.RangeFuncCalls
import Derived.Test.YtdgepnfgjgbkoaaDoorUnhex4
namespace Go.Proofs.YtdgepnfgjgbkoaaDoor

def noDefer (ops : Array Oper) : Bool := ops.all fun o => match o.op with
  | .defer _ => false
  | _ => true
theorem noDefer_at {ops : Array Oper} (h : noDefer ops = true) (i : Nat) (o : Oper) (hi : ops[i]? = some o) : ∀ c, o.op ≠ .defer c := fun c e => by
  have := Array.all_eq_true'.1 h o (Array.mem_of_getElem? hi)
  rw [e] at this
  cases this
theorem upon_round {P : Program} {o : Oper} {a : Act} {K : Act → World → Prop} {Q : Exit → Act → World → Prop} (l n : Nat) (r : Result Next) (h : o.upon P a K Q r) : o.uponIn (Fence.wide.inRound l) n P a K Q r := by
  cases r with
  | ok x w' =>
    cases x with
    | value v => exact h
    | skip => exact h
    | defer d => exact h
    | enter f args => exact ⟨fun h => (by cases h), (callsIn_wide.2 h : CallsIn Fence.wide (n - 1) P f args w' _)⟩
    | row s args => exact ⟨fun h => (by cases h), fun c cs hr => (h c cs).imp fun v h => h.imp fun w'' h => ⟨h.1, stepsIn_wide.2 h.2⟩⟩
    | round l f tmps assign body => exact h.elim
    | _ => exact h.elim
  | halt x w' => cases x <;> exact h
theorem wpOp_round {P : Program} {ops : Array Oper} {Q : Exit → Act → World → Prop} (hd : noDefer ops = true) (hlo : ¬ LetsOut Q) (l n i : Nat) {K K' : Act → World → Prop} (hK : ∀ a w, K a w → K' a w) (a : Act) (w : World) (h : wpOp P ops Q i K a w) : wpOpIn (Fence.wide.inRound l) n P ops Q i K' a w := by
  refine wpOpIn_mono hK ?_
  unfold wpOp at h
  unfold wpOpIn
  cases hi : ops[i]? with
  | none =>
    rw [hi] at h
    exact h
  | some o =>
    rw [hi] at h
    simp only at h ⊢
    split at h
    · rename_i hw
      rw [if_pos hw]
      rcases h with h | ⟨_, h⟩
      · refine ⟨fun _ _ => trivial, ?_⟩
        rw [Fence.inRound_round, Oper.semAt_some l _ _ (noDefer_at hd i o hi)]
        exact upon_round l n _ h
      · exact absurd h hlo
    · rename_i hw
      rw [if_neg hw]
      exact ⟨fun _ _ => trivial, h⟩
theorem wpAny_round {P : Program} {ops : Array Oper} {Q : Exit → Act → World → Prop} {md : Region.Mode} (hd : noDefer ops = true) (hlo : ¬ LetsOut Q) (l n : Nat) : ∀ (fuel : Nat) (listed : Array Bool) (a : Act) (w : World), wpAny P md ops Q fuel listed a w → wpAnyIn (Fence.wide.inRound l) n P md ops Q fuel listed a w
  | 0, _, _, _, h => h
  | fuel + 1, _, a, w, h => ⟨h.1, fun i hi => wpOp_round hd hlo l n i (fun a' w' h' => wpAny_round hd hlo l n fuel _ a' w' h') a w (h.2 i hi)⟩
/-- A statement that neither leaves nor panics. -/
def OnlyN (S : Act → World → Prop) : Exit → Act → World → Prop
  | .normal, a, w => S a w
  | _, _, _ => False
theorem wp_onlyN {P : Program} {c : Code} {Q : Exit → Act → World → Prop} {a : Act} {w : World} (h : c.wp P (OnlyN (fun a w => Q .normal a w)) a w) : c.wp P Q a w :=
  Code.wp_mono (fun e a' w' h => by cases e <;> first | exact h | exact (h : False).elim) h
/-- The beginning, within a round. -/
theorem wpIn_region_late {P : Program} {ops : Array Oper} {Q : Exit → Act → World → Prop} (S : World → Prop) (L : Nat) {id l n : Nat} {a : Act} {w : World} (hm : P.follows .mixedOrders = true) (hd : noDefer ops = true) (hlo : ¬ LetsOut Q) (hS : S w.drew)
    (h : S w.drew → wpAnyE P .any ops Q S L ops.size (Array.replicate ops.size false) a w.drew) : (Code.region id ops true).wpIn (Fence.wide.inRound l) n P Q a w :=
  wpIn_region_any hm (wpAny_round hd hlo l n _ _ _ _ (wpAny_of_late _ _ _ _ (h hS)))
end Go.Proofs.YtdgepnfgjgbkoaaDoor
/-
  The contract of octet.Unhex of a text that it takes.
-/
namespace Go.Proofs.YtdgepnfgjgbkoaaDoor
open Go.RowKit

/-- The bytes that are read so far, noughts behind them. -/
def fillL (l : List UInt8) (k : Nat) : List UInt8 := l.take k ++ List.replicate (l.length - k) 0
theorem fillL_length (l : List UInt8) (k : Nat) (h : k ≤ l.length) : (fillL l k).length = l.length := by
  simp [fillL]; omega
theorem fillL_set (l : List UInt8) (k : Nat) (h : k < l.length) : (fillL l k).set k l[k] = fillL l (k + 1) := by
  unfold fillL
  have e : l.length - k = (l.length - (k + 1)) + 1 := by omega
  rw [e, List.replicate_succ, List.set_append_right _ _ (by simp; omega)]
  have e2 : k - (l.take k).length = 0 := by simp; omega
  rw [e2, List.set_cons_zero, List.take_succ_eq_append_getElem h, List.append_assoc]
  rfl
theorem cellsB_set (l : List UInt8) (k : Nat) (x : UInt8) : (cellsB l).set k (.int .u8 (x.toNat : Int)) = cellsB (l.set k x) := by
  simp [cellsB, List.map_set]

theorem fillL_zero (l : List UInt8) : fillL l 0 = List.replicate l.length 0 := by simp [fillL]
theorem fillL_all (l : List UInt8) (k : Nat) (h : k = l.length) : fillL l k = l := by subst h; simp [fillL]
theorem grown_setCell (w : World) (a : Addr) (u : Value) : w.grownBy (w.setCell a u) (some a.block) :=
  ⟨rfl, rfl, rfl, by simp [World.setCell], fun k _ hne => Below.heap_setCell w a u k (fun e => hne (by rw [e]))⟩
theorem byte_at (s : ByteArray) (i j : Nat) (h : i = j) (hi : i < s.size) (hj : j < s.size) : (s[i]'hi).toNat = (s[j]'hj).toNat := by
  subst h
  rfl

theorem or16 : ∀ a : Fin 16, ∀ b : Fin 16, bits .or .u8 (IntKind.u8.wrap ((a.val : Int) * 16)) (b.val : Int) = (a.val : Int) * 16 + (b.val : Int) := by decide +kernel

set_option maxRecDepth 100000 in
set_option maxHeartbeats 4000000 in
theorem unhex_okn (s : ByteArray) (n : Nat) (hn : s.size = 2 * n) (w : World) (ht : Table w) (hs : s.size ≤ 281474976710656) (hok : hexOk s.data.toList) :
    Calls Tryd.prog 85 #[.string s] w fun e w' => ∃ g, e = .returned (.tuple #[.slice (some ⟨g, 0, none⟩) n n, .agg #[.int .i64 0, .int .i64 0]]) ∧ w.heap.size ≤ g ∧
      w'.ownsRow w.heap.size 5 1 (.slice (some ⟨g, 0, none⟩) n n) n (cellsB (unL s.data.toList)) ∧ Below w.heap.size w w' := by
  have hl : s.data.toList.length = s.size := by rw [Array.length_toList]; rfl
  obtain ⟨h1, h2⟩ := hok
  have HA : Hid (∀ k, (h : k < s.size) → isB 4 (s[k].toNat : Int) = true) := fun k h => hexOk_at s.data.toList h1 k (by omega)
  have HU : Hid ((unL s.data.toList).length = n) := by show _ = _; rw [unL_length, hl]; omega
  rw [hl] at h1 h2
  have ms : s.size ≤ maxLen := by unfold maxLen; omega
  have HT : Hid (Table w) := ht
  have hz : ((s.size : Int) % 2 != 0) = false := by simp; omega
  obtain ⟨i0, hi, hz0, hz1, hz2⟩ := info_parts info5
  have HN : Hid (s.size = 2 * n) := hn
  have hnn : ((s.size : Int) / 2) = (n : Int) := by omega
  have hn1 : n ≤ 140737488355328 := by omega
  clear ht hl hn h2
  have h1' : ((badN 4 s.data.toList : Nat) : Int) = (s.size : Int) := by omega
  go_enter Tryd.func85, Tryd.ntmps85
  go_wp2_with fail
  refine (bad_anyT 4 s _ (HT.out.keep ((Below.refl _ _).alloc (Nat.le_refl _) _)) ms).mono ?_
  rintro e w' ⟨rfl, rfl⟩
  clear h1
  go_wp2_with (at_make; refine wpList_make_full _ rfl _ _ 38 rfl w.heap.size 5 i0 (.int .u8 0) 1 Tryd.underlying38 hi hz0 hz1 .i64 .i64 _ _ n rfl rfl (by omega) (by omega) (by rw [hz2]; omega) (by unfold maxLen; omega) (by simp) ?_)
  intro w1 hown hgrow
  rw [made_zero] at hown
  have HO : Hid (w1.ownsRow w.heap.size 5 1 (.slice (some ⟨w.heap.size + 1, 0, none⟩) n n) n (cellsB (fillL (unL s.data.toList) 0))) := by
    show w1.ownsRow _ _ _ _ _ _
    rw [fillL_zero, HU.out]
    simpa using hown
  have HB : Hid (Below w.heap.size w w1) := ((Below.refl _ _).alloc (Nat.le_refl _) _).grown hgrow (by simp) (fun k h => by cases h)
  have HS : Hid (w1.heap[w.heap.size]? = some (.cells #[.int .i64 0, .int .i64 0] 25 (0, 0))) := by
    show _ = _
    rw [hgrow.block w.heap.size (by simp) (by simp)]
    exact heap_alloc_new w _
  clear hown hgrow
  go_wp2
  go_loopw [27] (fun i wr => ∃ k : Nat, k ≤ n ∧ i = .int .i64 k ∧ Hid (wr.ownsRow w.heap.size 5 1 (.slice (some ⟨w.heap.size + 1, 0, none⟩) n n) n (cellsB (fillL (unL s.data.toList) k))) ∧ Hid (Below w.heap.size w wr) ∧ Hid (wr.heap[w.heap.size]? = some (.cells #[.int .i64 0, .int .i64 0] 25 (0, 0)))) (fun i _ => n - (intOf i).toNat)
  case atStart => exact ⟨0, Nat.zero_le _, rfl, HO, HB, HS⟩
  case round =>
    obtain ⟨k, hk, rfl, HO, HB, HS⟩ := hrel
    by_cases hlt : k < n
    · have hn2 := HN.out
      have i1 : 2 * k < s.size := by omega
      have i2 : 2 * k + 1 < s.size := by omega
      have x1 := hex_iff _ (HA.out (2 * k) i1)
      have y1 := hex_iff _ (HA.out (2 * k + 1) i2)
      have vx := hexV_lt _ (HA.out (2 * k) i1)
      have vy := hexV_lt _ (HA.out (2 * k + 1) i2)
      have hua : (unL s.data.toList)[k]'(by rw [HU.out]; exact hlt) = UInt8.ofNat (hexV s[2 * k].toNat * 16 + hexV s[2 * k + 1].toNat) := unL_at s.data.toList k (by simpa using i2) _
      obtain ⟨x, hx⟩ : ∃ x : Nat, x = s[2 * k].toNat := ⟨_, rfl⟩
      obtain ⟨y, hy⟩ : ∃ y : Nat, y = s[2 * k + 1].toNat := ⟨_, rfl⟩
      rw [← hx] at x1 vx hua
      rw [← hy] at y1 vy hua
      have j1 : (2 * (k : Int)).toNat < s.size := by omega
      have j2 : (2 * (k : Int) + 1).toNat < s.size := by omega
      have hx' : (s[(2 * (k : Int)).toNat]'j1).toNat = x := by rw [hx]; exact byte_at s _ _ (by omega) _ _
      have hy' : (s[(2 * (k : Int) + 1).toNat]'j2).toNat = y := by rw [hy]; exact byte_at s _ _ (by omega) _ _
      clear hx hy
      have x48 : 48 ≤ x := by omega
      have x102 : x ≤ 102 := by omega
      have y48 : 48 ≤ y := by omega
      have y102 : y ≤ 102 := by omega
      clear x1 y1
      have ho := or16 ⟨hexV x, vx⟩ ⟨hexV y, vy⟩
      simp only at ho
      have b1 : (0 : Int) ≤ (k : Int) := by omega
      have b2 : (k : Int) < (n : Int) := by omega
      have q1 : IntKind.i64.wrap (2 * (k : Int)) = 2 * (k : Int) := by rw [IntKind.wrap_i64]; omega
      have q2 : IntKind.i64.wrap (2 * (k : Int) + 1) = 2 * (k : Int) + 1 := by rw [IntKind.wrap_i64]; omega
      have b0 : (0 : Int) ≤ 2 * (k : Int) := by omega
      have b5 : (0 : Int) ≤ 2 * (k : Int) + 1 := by omega
      have b3 : (2 : Int) * (k : Int) < (s.size : Int) := by omega
      have b4 : (2 : Int) * (k : Int) + 1 < (s.size : Int) := by omega
      have hlen : (fillL (unL s.data.toList) k).length = n := by rw [fillL_length _ _ (by rw [HU.out]; exact hk), HU.out]
      have hcell : ∃ v, wr.cell? ⟨w.heap.size + 1, k, none⟩ = some v := by
        have := HO.out.cellAt k (by omega)
        rw [this]
        exact ⟨_, List.getElem?_eq_getElem (by rw [cellsB_length, hlen]; exact hlt)⟩
      obtain ⟨v0, hc0⟩ := hcell
      have hf0 : wr.frozen? ⟨w.heap.size + 1, k, none⟩ = false := HO.out.frozenAt k
      have hval : ((unL s.data.toList)[k]'(by rw [HU.out]; exact hlt)).toNat = hexV x * 16 + hexV y := by
        rw [hua]
        simp
        omega
      have st := HO.out.stored k (.int .u8 ((hexV x : Int) * 16 + (hexV y : Int)))
      have R : Hid ((wr.setCell ⟨w.heap.size + 1, k, none⟩ (.int .u8 ((hexV x : Int) * 16 + (hexV y : Int)))).drew.ownsRow w.heap.size 5 1 (.slice (some ⟨w.heap.size + 1, 0, none⟩) n n) n (cellsB (fillL (unL s.data.toList) (k + 1)))) := by
        have h1 := st.1
        have e : Value.int .u8 ((hexV x : Int) * 16 + (hexV y : Int)) = .int .u8 ((((unL s.data.toList)[k]'(by rw [HU.out]; exact hlt)).toNat : Nat) : Int) := by
          rw [hval]
          congr 1
        rw [e, cellsB_set, fillL_set] at h1
        rw [e]
        exact h1
      have HB3 : Hid (Below w.heap.size w (wr.setCell ⟨w.heap.size + 1, k, none⟩ (.int .u8 ((hexV x : Int) * 16 + (hexV y : Int)))).drew) := (HB.out.setCell (p := ⟨w.heap.size + 1, k, none⟩) (by simp) _).drew
      have HS3 : Hid ((wr.setCell ⟨w.heap.size + 1, k, none⟩ (.int .u8 ((hexV x : Int) * 16 + (hexV y : Int)))).drew.heap[w.heap.size]? = some (.cells #[.int .i64 0, .int .i64 0] 25 (0, 0))) := by
        show _ = _
        rw [← HS.out]
        exact Below.heap_setCell wr ⟨w.heap.size + 1, k, none⟩ _ w.heap.size (by simp)
      clear hval st hua vx vy hn2 HO HB HS
      go_wp2_with fail
      go_region_held3 (fun w' => True) (trivial)
        (first | (go_at_call 103; refine (hexv_any _ _ (by omega) (by omega)).mono ?_; rintro e w' ⟨rfl, rfl⟩))
      all_goals
        go_wp2
        go_roundw
        case rel => exact ⟨k + 1, by omega, by go_num, R, HB3, HS3⟩
        case measure => simp [intOf]; omega
    · obtain rfl : k = n := by omega
      have hown := HO.out
      rw [fillL_all _ _ HU.out.symm] at hown
      have c0 : wr.cell? ⟨w.heap.size, 0, none⟩ = some (.int .i64 0) := by simp [World.cell?, HS.out]
      have c1 : wr.cell? ⟨w.heap.size, 1, none⟩ = some (.int .i64 0) := by simp [World.cell?, HS.out]
      have f0 : wr.frozen? ⟨w.heap.size, 0, none⟩ = false := by simp [World.frozen?, HS.out]
      have f1 : wr.frozen? ⟨w.heap.size, 1, none⟩ = false := by simp [World.frozen?, HS.out]
      have HOW : Hid (wr.ownsRow w.heap.size 5 1 (.slice (some ⟨w.heap.size + 1, 0, none⟩) k k) k (cellsB (unL s.data.toList))) := hown
      clear hown HO
      go_wp2
      refine bodyPost_ret (v := .tuple #[.slice (some ⟨w.heap.size + 1, 0, none⟩) k k, .agg #[.int .i64 0, .int .i64 0]]) (by simp [results, Tryd.results85, go_sem, c0, c1]) rfl ⟨w.heap.size + 1, rfl, by omega, ?_, ?_⟩
      · have o1 := HOW.out.kept (grown_setCell wr ⟨w.heap.size, 0, none⟩ (.int .i64 0)) (.inr (by simp [Value.ownBlock]))
        exact o1.kept (grown_setCell _ ⟨w.heap.size, 1, none⟩ (.int .i64 0)) (.inr (by simp [Value.ownBlock]))
      · exact (HB.out.setCell (p := ⟨w.heap.size, 0, none⟩) (Nat.le_refl _) _).setCell (p := ⟨w.heap.size, 1, none⟩) (Nat.le_refl _) _
end Go.Proofs.YtdgepnfgjgbkoaaDoor
