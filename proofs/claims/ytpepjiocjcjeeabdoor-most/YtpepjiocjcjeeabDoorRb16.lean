/-
  Rows of bytes: lineEnd, rowEnd, isFold, rows.
-/
import Derived.Test.YtpepjiocjcjeeabDoorRa16
namespace Go.Proofs.YtpepjiocjcjeeabDoor
open Go.RowKit Go.Shelf

attribute [local go_sem] Oper.semAt_some

set_option maxHeartbeats 1000000 in
theorem leb_any (ad : Option Addr) (l : List UInt8) (n cap a : Nat) (hn : n = l.length) (hs : l.length ≤ 281474976710656) (ha : a ≤ 281474976710656) (w : World) (hb : Bts ad l w) : Calls Tryd.prog 39 #[.slice ad n cap, .int .i64 (a : Int)] w fun e w' => e = .returned (.bool (leH (l.drop a))) ∧ w' = w := by
  subst hn
  by_cases h : a + 1 < l.length
  · rw [leH_yes l a h]
    have h' : (a : Int) + 1 < (l.length : Int) := by omega
    have e1 : IntKind.i64.wrap ((a : Int) + 1) = (a : Int) + 1 := by rw [IntKind.wrap_i64]; omega
    obtain ⟨g, q, rfl, hg, hrow⟩ := hb.resolve_left (fun e => by rw [e] at h; cases h)
    have c0 := hrow a (by omega)
    have c1 := hrow (a + 1) h
    have h'' : (a : Int) < (l.length : Int) := by omega
    clear hrow hg
    by_cases h1 : l[a] = 13
    · have k1 := u8v (m := 13) h1
      by_cases h2 : l[a + 1] = 10
      · have k2 := u8v (m := 10) h2
        rw [decide_eq_true h1, decide_eq_true h2]
        clear h1 h2
        generalize l[a] = x at *
        generalize l[a + 1] = y at *
        go_enter Tryd.func39, Tryd.ntmps39
        go_wp2
        go_ret
        exact ⟨rfl, rfl⟩
      · have k2 := u8w (m := 10) h2
        rw [decide_eq_true h1, decide_eq_false h2]
        clear h1 h2
        generalize l[a] = x at *
        generalize l[a + 1] = y at *
        go_enter Tryd.func39, Tryd.ntmps39
        go_wp2
        go_ret
        exact ⟨rfl, rfl⟩
    · have k1 := u8w (m := 13) h1
      rw [decide_eq_false h1, Bool.false_and]
      clear h1
      generalize l[a] = x at *
      go_enter Tryd.func39, Tryd.ntmps39
      go_wp2
      go_ret
      exact ⟨rfl, rfl⟩
  · rw [leH_no l a h]
    have h' : ¬ (a : Int) + 1 < (l.length : Int) := by omega
    have e1 : IntKind.i64.wrap ((a : Int) + 1) = (a : Int) + 1 := by rw [IntKind.wrap_i64]; omega
    go_enter Tryd.func39, Tryd.ntmps39
    go_wp2
    go_ret
    exact ⟨rfl, rfl⟩
set_option maxHeartbeats 2000000 in
theorem freb_any (ad : Option Addr) (l : List UInt8) (n cap a : Nat) (hn : n = l.length) (hs : l.length ≤ 281474976710656) (ha : a ≤ l.length) (w : World) (hb : Bts ad l w) : Calls Tryd.prog 38 #[.slice ad n cap, .int .i64 (a : Int)] w fun e w' => e = .returned (.int .i64 (rwE l a : Int)) ∧ w' = w := by
  subst hn
  have hsI : (l.length : Int) ≤ 281474976710656 := by omega
  have HBT : Hid (Bts ad l w) := hb
  clear hb
  go_enter Tryd.func38, Tryd.ntmps38
  go_wp2_with fail
  go_loopw [5] (fun iv wr => ∃ k : Nat, k ≤ l.length ∧ iv = .int .i64 (k : Int) ∧ wr = w ∧ Hid (rwE l a = rwE l k)) (fun iv _ => l.length - (intOf iv).toNat)
  case atStart => exact ⟨a, ha, rfl, rfl, rfl⟩
  case round =>
    obtain ⟨k, hk, rfl, rfl, HE⟩ := hrel
    by_cases hlt : k < l.length
    · have hki : (k : Int) < (l.length : Int) := by omega
      obtain ⟨g, q, rfl, hg, hrow⟩ := HBT.out.resolve_left (fun e => by rw [e] at hlt; cases hlt)
      have c0 := hrow k hlt
      have HH : Hid (crB l[k] = true → rwE l k = k) := fun h => rwE_hit _ _ hlt h
      have HO : Hid (crB l[k] = false → rwE l k = rwE l (k + 1)) := fun h => rwE_on _ _ hlt h
      clear hrow hg
      generalize l[k] = x at *
      by_cases h13 : x = 13
      · have k13 := u8nv (m := 13) h13
        have HR : Hid (rwE l a = k) := HE.out.trans (HH.out (by rw [h13]; rfl))
        clear HE HH HO h13
        go_wp2_with fail
        go_ret
        exact ⟨by rw [HR.out]; rfl, rfl⟩
      · have k13 := u8nw (m := 13) h13
        by_cases h10 : x = 10
        · have k10 := u8nv (m := 10) h10
          have HR : Hid (rwE l a = k) := HE.out.trans (HH.out (by rw [h10]; rfl))
          clear HE HH HO h13 h10
          go_wp2_with fail
          go_ret
          exact ⟨by rw [HR.out]; rfl, rfl⟩
        · have k10 := u8nw (m := 10) h10
          have HR : Hid (rwE l a = rwE l (k + 1)) := HE.out.trans (HO.out (by unfold crB; simp [h13, h10]))
          clear HE HH HO h13 h10
          go_wp2_with fail
          go_roundw
          case rel => exact ⟨k + 1, by omega, by go_num, trivial, HR.out⟩
          case measure => simp [intOf]; omega
    · obtain rfl : k = l.length := by omega
      have HR : Hid (rwE l a = l.length) := HE.out.trans (rwE_end _ _ (Nat.le_refl _))
      go_wp2_with fail
      go_ret
      exact ⟨by rw [HR.out]; rfl, rfl⟩
set_option maxHeartbeats 2000000 in
theorem fisfb_any (ad : Option Addr) (l : List UInt8) (n cap : Nat) (hn : n = l.length) (hs : l.length ≤ 281474976710656) (w : World) (hb : Bts ad l w) : Calls Tryd.prog 50 #[.slice ad n cap] w fun e w' => e = .returned (.bool (fldB l)) ∧ w' = w := by
  subst hn
  have hsI : (l.length : Int) ≤ 281474976710656 := by omega
  by_cases h0 : 0 < l.length
  · obtain ⟨g, q, rfl, hg, hrow⟩ := hb.resolve_left (fun e => by rw [e] at h0; cases h0)
    have HRW : Hid (∀ j, (h : j < l.length) → w.cell? ⟨g, q + j, none⟩ = some (.int .u8 (l[j].toNat : Int))) := hrow
    clear hrow hg hb
    have HIB : Hid (∀ (k : Nat) (hk : k < l.length) wx, Calls Tryd.prog 40 #[.int .u8 (l[k].toNat : Int)] wx fun e w' => e = .returned (.bool (blB l[k])) ∧ w' = wx) := fun k hk wx => isb_any _ wx
    have HF : Hid (fldB l = (blB l[0] && l.any fun c => !blB c)) := by
      show fldB l = _
      unfold fldB
      congr 1
      cases l with
      | nil => cases h0
      | cons c r => rfl
    have hz : ((l.length : Int) == 0) = false := by rw [beq_eq_false_iff_ne]; omega
    have hne : ¬ l = [] := fun e => by rw [e] at h0; cases h0
    have h0I : (0 : Int) < (l.length : Int) := by omega
    have cz := HRW.out 0 h0
    rw [Nat.add_zero] at cz
    cases hb : blB l[0] with
    | false =>
      have HF2 : Hid (fldB l = false) := by rw [HF.out, hb]; rfl
      have HI0 := HIB.out 0 h0
      rw [hb] at HI0
      clear HF hb HIB
      generalize l[0] = x at *
      go_enter Tryd.func50, Tryd.ntmps50
      go_wp2_with (go_at_call 40; refine (HI0 _).mono ?_; rintro e w1 ⟨rfl, rfl⟩)
      go_ret
      exact ⟨by rw [HF2.out]; rfl, rfl⟩
    | true =>
      have HF2 : Hid (fldB l = l.any fun c => !blB c) := by rw [HF.out, hb]; rfl
      have HI0 := HIB.out 0 h0
      rw [hb] at HI0
      clear HF hb
      generalize l[0] = x at *
      go_enter Tryd.func50, Tryd.ntmps50
      go_wp2_with (go_at_call 40; refine (HI0 _).mono ?_; rintro e w1 ⟨rfl, h1⟩; rw [h1]; clear h1 w1)
      go_loopw [3, 16] (fun _ iv wr => ∃ k : Nat, k ≤ l.length ∧ iv = .int .i64 (k : Int) ∧ wr = w ∧ Hid ((l.any fun c => !blB c) = (l.drop k).any fun c => !blB c)) (fun _ iv _ => l.length - (intOf iv).toNat)
      case atStart => exact ⟨0, Nat.zero_le _, rfl, rfl, rfl⟩
      case round =>
        obtain ⟨k, hk, rfl, rfl, HE⟩ := hrel
        clear HI0 cz
        by_cases hlt : k < l.length
        · have hki : (k : Int) < (l.length : Int) := by omega
          have HE2 : Hid ((l.any fun c => !blB c) = (!blB l[k] || (l.drop (k + 1)).any fun c => !blB c)) := by
            rw [HE.out, List.drop_eq_getElem_cons hlt, List.any_cons]
            exact rfl
          have HIK := HIB.out k hlt
          have ck := HRW.out k hlt
          clear HE HIB
          generalize l[k] = y at *
          generalize blB y = b at *
          cases b with
          | true =>
            go_wp2_with (go_at_call 40; refine (HIK _).mono ?_; rintro e w1 ⟨rfl, h1⟩; rw [h1]; clear h1 w1)
            go_roundw
            case rel => exact ⟨k + 1, by omega, by go_num, trivial, HE2.out⟩
            case measure => simp [intOf]; omega
          | false =>
            have HT : Hid (fldB l = true) := by rw [HF2.out, HE2.out]; rfl
            go_wp2_with (go_at_call 40; refine (HIK _).mono ?_; rintro e w1 ⟨rfl, h1⟩; rw [h1]; clear h1 w1)
            go_ret
            exact ⟨by rw [HT.out]; rfl, rfl⟩
        · obtain rfl : k = l.length := by omega
          have HT : Hid (fldB l = false) := by
            rw [HF2.out, HE.out, List.drop_eq_nil_of_le (Nat.le_refl _)]
            exact rfl
          clear HIB
          go_wp2_with fail
          go_ret
          exact ⟨by rw [HT.out]; rfl, rfl⟩
  · have hne : l = [] := List.eq_nil_of_length_eq_zero (by omega)
    subst hne
    go_enter Tryd.func50, Tryd.ntmps50
    go_wp2_with fail
    go_ret
    exact ⟨rfl, rfl⟩
/-- The blocks that the iterator reads: its own variable, and the bytes. -/
def Gb (g : Nat) (ad : Option Addr) (k : Nat) : Prop := k = g ∨ ∃ a, ad = some a ∧ a.block = k
/-- Where the bytes lie, if there are any. -/
def adL (ad : Option Addr) (l : List UInt8) : Option Addr := if l = [] then none else ad
theorem adL_lt {ad : Option Addr} {l : List UInt8} {w : World} (h : Bts ad l w) : ∀ a, adL ad l = some a → a.block < w.heap.size := fun a e => by
  unfold adL at e
  by_cases h0 : l = []
  · rw [if_pos h0] at e
    cases e
  · rw [if_neg h0] at e
    rcases h with h | ⟨b, o, h1, h2, _⟩
    · exact absurd h h0
    · rw [h1] at e
      cases e
      exact h2
theorem Kg.bts {g : Nat} {ad : Option Addr} {l : List UInt8} {W W' : World} (h : Kg (Gb g (adL ad l)) W W') (hb : Bts ad l W) : Bts ad l W' := by
  rcases hb with hb | ⟨b, o, rfl, hlt, hr⟩
  · exact .inl hb
  · by_cases h0 : l = []
    · exact .inl h0
    · have e0 : adL (some ⟨b, o, none⟩) l = some ⟨b, o, none⟩ := by unfold adL; rw [if_neg h0]
      rw [e0] at h
      refine .inr ⟨b, o, rfl, Nat.lt_of_lt_of_le hlt h.size, fun j hj => ?_⟩
      have hc := hr j hj
      have : ∃ ob, W.heap[b]? = some ob ∧ ob.isCells = true := by
        unfold World.cell? at hc
        cases ho : W.heap[b]? with
        | none => simp [ho] at hc
        | some ob =>
          cases ob with
          | cells cs t f => exact ⟨_, rfl, rfl⟩
          | _ => simp [ho] at hc
      obtain ⟨ob, ho, hoc⟩ := this
      have h2 := h.same b ob (.inr ⟨_, rfl, rfl⟩) ho hoc
      rw [← hc]
      unfold World.cell?
      rw [h2, ho]
set_option maxRecDepth 100000 in
set_option maxHeartbeats 2000000 in
theorem rowsb_in (ad : Option Addr) (l : List UInt8) (cap : Nat) (hs : l.length ≤ 140737488355328) (lp g n : Nat) (hn : 1 ≤ n) (J Jx : Nat → World → Prop) (W : World)
    (hY : ∀ (k : Nat) (hk : k < (vsR l).length) (W1 : World), J k W1 → YieldAt Fence.wide (n - 1) Tryd.prog lp (vsR l)[k] W1 fun e W' => (e = .returned (.bool true) ∧ J (k + 1) W' ∧ Kg (Gb g (adL ad l)) W1 W') ∨ (e = .returned (.bool false) ∧ Jx (k + 1) W'))
    (hb : Lies W g #[.slice ad l.length cap] 22) (hbt : Bts ad l W) (h0 : J 0 W) :
    CallsIn Fence.wide n Tryd.prog 37 #[.func (.yield lp) #[] #[], .pointer (some ⟨g, 0, none⟩)] W fun e W' => (∃ v, e = .returned v) ∧ (J (vsR l).length W' ∨ ∃ k, k ≤ (vsR l).length ∧ Jx k W') := by
  have hsI : (l.length : Int) ≤ 140737488355328 := by omega
  have HY : Hid (∀ (k : Nat) (hk : k < (vsR l).length) (W1 : World), J k W1 → YieldAt Fence.wide (n - 1) Tryd.prog lp (vsR l)[k] W1 fun e W' => (e = .returned (.bool true) ∧ J (k + 1) W' ∧ Kg (Gb g (adL ad l)) W1 W') ∨ (e = .returned (.bool false) ∧ Jx (k + 1) W')) := hY
  have H0 : Hid (J 0 W) := h0
  have HB : Hid (Lies W g #[.slice ad l.length cap] 22) := hb
  have HBT : Hid (Bts ad l W) := hbt
  clear hY h0 hb hbt
  refine callsIn_of_wp Tryd.func37 rfl trivial ?_ rfl
  simp only [Tryd.ntmps37, List.size_toArray, List.length_cons, List.length_nil, Nat.reduceAdd, Nat.reduceSub, Array.replicate_succ, Array.replicate_zero, List.push_toArray, List.append_toArray, List.nil_append, List.cons_append]
  gi_wp2
  gi_loopw [3, 4] (fun iv _ wr => ∃ (f : Nat) (pre : List (Nat × Nat)), f ≤ l.length ∧ iv = .int .i64 (f : Int) ∧ Hid (rws l 0 = pre ++ rws l f) ∧ Hid (J pre.length wr) ∧ Hid (Lies wr g #[.slice ad l.length cap] 22) ∧ Hid (Bts ad l wr)) (fun iv _ _ => l.length + 2 - (intOf iv).toNat)
  case atStart => exact ⟨0, [], Nat.zero_le _, rfl, rfl, H0.out, HB.out, HBT.out⟩
  case round =>
    obtain ⟨f, pre, hf, rfl, HP, HJ, HL, HBW⟩ := hrel
    clear H0 HB HBT
    have c0 := HL.out.cell 0
    rw [show (#[Value.slice ad l.length cap] : Array Value)[0]? = some (.slice ad l.length cap) from rfl] at c0
    have HRE : Hid (Calls Tryd.prog 38 #[.slice ad l.length cap, .int .i64 (f : Int)] wr fun e w' => e = .returned (.int .i64 (rwE l f : Int)) ∧ w' = wr) := freb_any ad l l.length cap f rfl (by omega) hf wr HBW.out
    have hge := rwE_ge l f
    have hle := rwE_le l f hf
    have HLE : Hid (∀ wx, Bts ad l wx → Calls Tryd.prog 39 #[.slice ad l.length cap, .int .i64 (rwE l f : Int)] wx fun e w' => e = .returned (.bool (leH (l.drop (rwE l f)))) ∧ w' = wx) := fun wx hx => leb_any ad l l.length cap _ rfl (by omega) (by omega) wx hx
    obtain ⟨hk, hv⟩ := rws_split HP.out
    obtain ⟨fn, tmps, assign, body, hy, hR⟩ := HY.out _ hk wr HJ.out
    rw [hv] at hy
    have HNX : Hid (leH (l.drop (rwE l f)) = true → rwE l f + 2 ≤ l.length ∧ rws l 0 = (pre ++ [(f, rwE l f)]) ++ rws l (rwE l f + 2)) := fun h => ⟨by have := leH_lt _ _ h; omega, rws_next HP.out h⟩
    have HLS : Hid (leH (l.drop (rwE l f)) = false → (vsR l).length = pre.length + 1) := fun h => rws_last HP.out h
    have HKL : Hid (pre.length < (vsR l).length) := hk
    clear hk hv HP
    generalize leH (l.drop (rwE l f)) = b at *
    generalize rwE l f = tz at *
    have e2 : IntKind.i64.wrap ((tz : Int) + 2) = (tz : Int) + 2 := by rw [IntKind.wrap_i64]; omega
    gi_wp2_with fail
    refine ⟨trivial, ?_⟩
    refine (callsIn_wide.2 HRE.out).mono ?_
    rintro e w1 ⟨rfl, h1⟩
    rw [h1]
    clear h1 w1 HRE
    gi_wp2_with fail
    refine hR.mono ?_
    rintro e W3 (⟨rfl, hJ3, hk3⟩ | ⟨rfl, hJx3⟩)
    · have HJ3 : Hid (J (pre.length + 1) W3) := hJ3
      have HL3 : Hid (Lies W3 g #[.slice ad l.length cap] 22) := hk3.lies HL.out (.inl rfl)
      have HB3 : Hid (Bts ad l W3) := hk3.bts HBW.out
      have c3 := HL3.out.cell 0
      rw [show (#[Value.slice ad l.length cap] : Array Value)[0]? = some (.slice ad l.length cap) from rfl] at c3
      clear hk3 hJ3
      cases b with
      | true =>
        obtain ⟨hto, hpre⟩ := HNX.out rfl
        have HPR : Hid (rws l 0 = (pre ++ [(f, tz)]) ++ rws l (tz + 2)) := hpre
        clear hpre HNX HLS
        gi_wp2_with fail
        refine ⟨trivial, ?_⟩
        refine (callsIn_wide.2 (HLE.out _ HB3.out)).mono ?_
        rintro e w1 ⟨rfl, h1⟩
        rw [h1]
        clear h1 w1
        gi_wp2_with fail
        go_roundw
        case rel => exact ⟨tz + 2, pre ++ [(f, tz)], hto, by go_num, HPR.out, by rw [List.length_append]; exact HJ3.out, HL3.out, HB3.out⟩
        case measure => simp [intOf]; omega
      | false =>
        have HE : Hid ((vsR l).length = pre.length + 1) := HLS.out rfl
        clear HNX HLS
        gi_wp2_with fail
        refine ⟨trivial, ?_⟩
        refine (callsIn_wide.2 (HLE.out _ HB3.out)).mono ?_
        rintro e w1 ⟨rfl, h1⟩
        rw [h1]
        clear h1 w1
        gi_wp2_with fail
        refine bodyPost_ret (results_none rfl _ _ _) rfl ?_
        exact ⟨⟨_, rfl⟩, .inl (by rw [HE.out]; exact HJ3.out)⟩
    · gi_wp2_with fail
      refine ⟨trivial, ?_⟩
      gi_wp2_with fail
      refine bodyPost_ret (results_none rfl _ _ _) rfl ?_
      exact ⟨⟨_, rfl⟩, .inr ⟨_, HKL.out, hJx3⟩⟩
theorem rowsb_seq (ad : Option Addr) (l : List UInt8) (cap : Nat) (hs : l.length ≤ 140737488355328) (g n : Nat) (hn : 1 ≤ n) (w : World) (h : Lies w g #[.slice ad l.length cap] 22) (hb : Bts ad l w) : SeqL n Tryd.prog 37 #[.pointer (some ⟨g, 0, none⟩)] (vsR l) (Kg (Gb g (adL ad l))) w :=
  fun lp J Jx W hW _ hY h0 => rowsb_in ad l cap hs lp g n hn J Jx W hY (h.below hW h.lt) (hb.below hW) h0
theorem rowsb_any (ad : Option Addr) (n cap : Nat) (w : World) : Calls Tryd.prog 18 #[.slice ad n cap] w fun e w' => e = .returned (.func (.func 37) #[] #[.pointer (some ⟨w.heap.size, 0, none⟩)]) ∧ w' = w.alloc (.cells #[.slice ad n cap] 22) := by
  go_enter Tryd.func18, Tryd.ntmps18
  go_wp2
  go_ret
  exact ⟨rfl, rfl⟩
end Go.Proofs.YtpepjiocjcjeeabDoor
