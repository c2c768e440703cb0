/-
  A statement whose order is drawn, within a round of a loop over an iterator.
-/
import Derived.Test.YtdgepnfgjgbkoaaDoorOwn2
import Derived.OrdersIn
import Derived.TacticsIn
import Derived.RangeFuncIn
import Derived.RangeFuncCalls
import Derived.Test.YtdgepnfgjgbkoaaDoorHexOf4
import Derived.Test.YtdgepnfgjgbkoaaDoorPureUp
import Derived.Deep.RegionHeld3
namespace Go.Proofs.YtdgepnfgjgbkoaaDoor

def noDefer (ops : Array Oper) : Bool := ops.all fun o => match o.op with
  | .defer _ => false
  | _ => true
theorem noDefer_at {ops : Array Oper} (h : noDefer ops = true) (i : Nat) (o : Oper) (hi : ops[i]? = some o) : ∀ c, o.op ≠ .defer c := fun c e => by
  have := Array.all_eq_true'.1 h o (Array.mem_of_getElem? hi)
  rw [e] at this
  cases this
theorem upon_round {P : Program} {o : Oper} {a : Act} {K : Act → World → Prop} {Q : Exit → Act → World → Prop} (l n : Nat) (r : Result Next) (h : o.upon P a K Q r) : o.uponIn (Fence.wide.inRound l) n P a K Q r := by
  cases r with
  | ok x w' =>
    cases x with
    | value v => exact h
    | skip => exact h
    | defer d => exact h
    | enter f args => exact ⟨fun h => (by cases h), (callsIn_wide.2 h : CallsIn Fence.wide (n - 1) P f args w' _)⟩
    | row s args => exact ⟨fun h => (by cases h), fun c cs hr => (h c cs).imp fun v h => h.imp fun w'' h => ⟨h.1, stepsIn_wide.2 h.2⟩⟩
    | round l f tmps assign body => exact h.elim
    | _ => exact h.elim
  | halt x w' => cases x <;> exact h
theorem wpOp_round {P : Program} {ops : Array Oper} {Q : Exit → Act → World → Prop} (hd : noDefer ops = true) (hlo : ¬ LetsOut Q) (l n i : Nat) {K K' : Act → World → Prop} (hK : ∀ a w, K a w → K' a w) (a : Act) (w : World) (h : wpOp P ops Q i K a w) : wpOpIn (Fence.wide.inRound l) n P ops Q i K' a w := by
  refine wpOpIn_mono hK ?_
  unfold wpOp at h
  unfold wpOpIn
  cases hi : ops[i]? with
  | none =>
    rw [hi] at h
    exact h
  | some o =>
    rw [hi] at h
    simp only at h ⊢
    split at h
    · rename_i hw
      rw [if_pos hw]
      rcases h with h | ⟨_, h⟩
      · refine ⟨fun _ _ => trivial, ?_⟩
        rw [Fence.inRound_round, Oper.semAt_some l _ _ (noDefer_at hd i o hi)]
        exact upon_round l n _ h
      · exact absurd h hlo
    · rename_i hw
      rw [if_neg hw]
      exact ⟨fun _ _ => trivial, h⟩
theorem wpAny_round {P : Program} {ops : Array Oper} {Q : Exit → Act → World → Prop} {md : Region.Mode} (hd : noDefer ops = true) (hlo : ¬ LetsOut Q) (l n : Nat) : ∀ (fuel : Nat) (listed : Array Bool) (a : Act) (w : World), wpAny P md ops Q fuel listed a w → wpAnyIn (Fence.wide.inRound l) n P md ops Q fuel listed a w
  | 0, _, _, _, h => h
  | fuel + 1, _, a, w, h => ⟨h.1, fun i hi => wpOp_round hd hlo l n i (fun a' w' h' => wpAny_round hd hlo l n fuel _ a' w' h') a w (h.2 i hi)⟩
/-- A statement that neither leaves nor panics. -/
def OnlyN (S : Act → World → Prop) : Exit → Act → World → Prop
  | .normal, a, w => S a w
  | _, _, _ => False
theorem wp_onlyN {P : Program} {c : Code} {Q : Exit → Act → World → Prop} {a : Act} {w : World} (h : c.wp P (OnlyN (fun a w => Q .normal a w)) a w) : c.wp P Q a w :=
  Code.wp_mono (fun e a' w' h => by cases e <;> first | exact h | exact (h : False).elim) h
/-- The beginning, within a round. -/
theorem wpIn_region_late {P : Program} {ops : Array Oper} {Q : Exit → Act → World → Prop} (S : World → Prop) (L : Nat) {id l n : Nat} {a : Act} {w : World} (hm : P.follows .mixedOrders = true) (hd : noDefer ops = true) (hlo : ¬ LetsOut Q) (hS : S w.drew)
    (h : S w.drew → wpAnyE P .any ops Q S L ops.size (Array.replicate ops.size false) a w.drew) : (Code.region id ops true).wpIn (Fence.wide.inRound l) n P Q a w :=
  wpIn_region_any hm (wpAny_round hd hlo l n _ _ _ _ (wpAny_of_late _ _ _ _ (h hS)))
end Go.Proofs.YtdgepnfgjgbkoaaDoor
/-
  The contracts of octet.Unhex and of its helper.
-/
namespace Go.Proofs.YtdgepnfgjgbkoaaDoor
open Go.RowKit

theorem Table.keep {w w' : World} (h : Table w) (hb : Below w.heap.size w w') : Table w' := by
  intro c hc
  have h0 : (1 : Nat) < w.heap.size := World.block_lt_of_cell? w _ (h c hc)
  rw [hb.cell (p := ⟨1, c, none⟩) h0]
  exact h c hc

set_option maxHeartbeats 400000 in
theorem hexv_any (c : Nat) (w : World) (h0 : 48 ≤ c) (h1 : c ≤ 102) :
    Calls Tryd.prog 103 #[.int .u8 (c : Int)] w fun e w' => e = .returned (.int .u8 (hexV c : Int)) ∧ w' = w := by
  by_cases a : 97 ≤ c
  · have e : ((hexV c : Nat) : Int) = (c : Int) - 97 + 10 := by unfold hexV; rw [if_pos a]; omega
    rw [e]
    go_enter Tryd.func103, Tryd.ntmps103
    go_wp2
    go_ret
    exact ⟨rfl, rfl⟩
  · by_cases b : 65 ≤ c
    · have e : ((hexV c : Nat) : Int) = (c : Int) - 65 + 10 := by unfold hexV; rw [if_neg a, if_pos b]; omega
      rw [e]
      go_enter Tryd.func103, Tryd.ntmps103
      go_wp2
      go_ret
      exact ⟨rfl, rfl⟩
    · have e : ((hexV c : Nat) : Int) = (c : Int) - 48 := by unfold hexV; rw [if_neg a, if_neg b]; omega
      rw [e]
      go_enter Tryd.func103, Tryd.ntmps103
      go_wp2
      go_ret
      exact ⟨rfl, rfl⟩

set_option maxRecDepth 100000 in
set_option maxHeartbeats 1000000 in
theorem unhex_bad (s : ByteArray) (w : World) (ht : Table w) (hs : s.size ≤ maxLen) (hok : ¬ hexOk s.data.toList) :
    Calls Tryd.prog 85 #[.string s] w fun e w' => e = .returned (.tuple #[.slice none 0 0, .agg #[.int .i64 10, .int .i64 (badN 4 s.data.toList)]]) ∧ Below w.heap.size w w' := by
  have hl : s.data.toList.length = s.size := by rw [Array.length_toList]; rfl
  unfold hexOk at hok
  rw [hl] at hok
  have hb := badN_le 4 s.data.toList
  rw [hl] at hb
  have ms := hs
  unfold maxLen at ms
  have HT : Hid (Table w) := ht
  obtain ⟨n, hn⟩ : ∃ n : Nat, n = badN 4 s.data.toList := ⟨_, rfl⟩
  have hn' : badN 4 s.data.toList = n := hn.symm
  rw [← hn] at hok hb
  clear hn hl ht
  by_cases h1 : n < s.size
  · go_enter Tryd.func85, Tryd.ntmps85
    go_wp2_with fail
    refine (bad_anyT 4 s _ (HT.out.keep ((Below.refl _ _).alloc (Nat.le_refl _) _)) hs).mono ?_
    rintro e w' ⟨rfl, rfl⟩
    go_wp2
    refine bodyPost_ret (v := .tuple #[.slice none 0 0, .agg #[.int .i64 10, .int .i64 (n : Int)]]) (by simp [results, Tryd.results85, go_sem]) rfl ⟨by rw [hn'], ?_⟩
    exact (Below.refl _ _).alloc (Nat.le_refl _) _
  · have h2 : ((s.size : Int) % 2 != 0) = true := by simp; omega
    go_enter Tryd.func85, Tryd.ntmps85
    go_wp2_with fail
    refine (bad_anyT 4 s _ (HT.out.keep ((Below.refl _ _).alloc (Nat.le_refl _) _)) hs).mono ?_
    rintro e w' ⟨rfl, rfl⟩
    go_wp2
    refine bodyPost_ret (v := .tuple #[.slice none 0 0, .agg #[.int .i64 10, .int .i64 (n : Int)]]) (by simp [results, Tryd.results85, go_sem]) rfl ⟨by rw [hn'], ?_⟩
    exact (Below.refl _ _).alloc (Nat.le_refl _) _
end Go.Proofs.YtdgepnfgjgbkoaaDoor
