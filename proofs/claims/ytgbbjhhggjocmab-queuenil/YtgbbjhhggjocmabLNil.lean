/-
  R1, P7.5: no ring and no heap, and such as their calls did not make, tell nothing and take nothing; a heap of no order is none; proved for every input.
-/
import Derived.Test.YtgbbjhhggjocmabRzI
import Derived.Test.YtgbbjhhggjocmabRzS
import Derived.Test.YtgbbjhhggjocmabRuI
import Derived.Test.YtgbbjhhggjocmabRuS
import Derived.Test.YtgbbjhhggjocmabWak
import Derived.Test.YtgbbjhhggjocmabHz
import Derived.Test.YtgbbjhhggjocmabOpen7
import Derived.Test.YtgbbjhhggjocmabRows
import Derived.ProofKit
import Derived.ChangeMaps5
import Derived.OpenShut
import Derived.ShutString
import Derived.ChangeOld
import Derived.SizedLaws
namespace Go.Proofs.Ytgbbjhhggjocmab.queueNil
open Go.ChangeShapes Go.WideShapes Go.ChangeAt Go.RowKit

attribute [local go_sem] Oper.semAt_some
theorem at0I (n : Int) : atXI [] n = 0 := by unfold atXI; split <;> rfl
theorem at0S (n : Int) : atXS [] n = ByteArray.empty := by unfold atXS; split <;> rfl
theorem at0B (n : Int) : atB 0 n = false := decide_eq_false (by omega)
theorem drop0 (n : Int) : 0 = dropN 0 n := by unfold dropN; omega
theorem rg0S {w : World} {p q : Option Nat} {l : List ByteArray} (h : RgS w p q 0 l) : q = none := by
  generalize hm : (0 : Nat) = m at h
  cases h with
  | no => rfl
  | zero b h => rfl
  | made b q most A f c hg => have := hg.pos; omega
/-- What lies there while nothing is done. -/
structure Nl (w0 : World) (Ds : List Nat) (w : World) : Prop where
  rg : RgS w (some (w0.heap.size + 1)) none 0 []
  hz : HzS w (w0.heap.size + 2)
  rs : Lies w w0.heap.size #[.bool false] 4
  bel : Below w0.heap.size w0 w
  ds : ∀ D ∈ Ds, w0.heap.size + 3 ≤ D ∧ w.heap[D]? = some (.deferred (some []))
theorem Nl.dlt {w0 w : World} {Ds : List Nat} (h : Nl w0 Ds w) (D : Nat) (hD : D ∈ Ds) : D < w.heap.size := (Array.getElem?_eq_some_iff.1 (h.ds D hD).2).1
theorem Nl.later {w0 w w' : World} {Ds : List Nat} (h : Nl w0 Ds w) (hb : Below w.heap.size w w') : Nl w0 Ds w' := ⟨h.rg.below hb, Lies.below h.hz hb (Lies.lt h.hz), h.rs.below hb h.rs.lt, h.bel.trans (hb.mono h.bel.size), fun D hD => ⟨(h.ds D hD).1, (hb.block D (h.dlt D hD)).trans (h.ds D hD).2⟩⟩
theorem Nl.ring {w0 w w' : World} {Ds : List Nat} (h : Nl w0 Ds w) (hr : RgS w' (some (w0.heap.size + 1)) none 0 []) (hc : Chg (Fq (some (w0.heap.size + 1)) none) w w') : Nl w0 Ds w' :=
  ⟨hr, hc.lies h.hz (fun hk => by rcases hk with hk | hk; have := Option.some.inj hk; omega; cases hk), hc.lies h.rs (fun hk => by rcases hk with hk | hk; have := Option.some.inj hk; omega; cases hk), h.bel.trans (hc.to_below h.bel.size (fun k hk => by rcases hk with hk | hk; have := Option.some.inj hk; omega; cases hk)), fun D hD => ⟨(h.ds D hD).1, (hc.block D (h.dlt D hD) (fun hk => by have := (h.ds D hD).1; rcases hk with hk | hk; have := Option.some.inj hk; omega; cases hk)).trans (h.ds D hD).2⟩⟩
theorem Nl.chg0 {w0 w w' : World} {Ds : List Nat} (h : Nl w0 Ds w) (hc : Chg (Fq none none) w w') : Nl w0 Ds w' :=
  h.later ⟨hc.os, hc.tape, hc.output, hc.size, fun k hk => hc.block k hk (fun hf => by rcases hf with hf | hf <;> cases hf)⟩
theorem Nl.own {α : Type} {w0 : World} {B : Nat} {Ds : List Nat} (hB : w0.heap.size + 3 ≤ B) (hDs : ∀ D ∈ Ds, D < B) : OwnFrom B (fun (_ : List α) W => Nl w0 Ds W) := fun s W W' row hs hg hr => by
  have hk : ∀ k, k < B → k < W.heap.size → W'.heap[k]? = W.heap[k]? := fun k h1 h2 => hg.block k h2 (fun e => by have := (hr k e.symm).1; omega)
  have hs3 : w0.heap.size + 2 < W.heap.size := Lies.lt hs.hz
  refine ⟨hs.rg.keep (fun k hf => ?_), (hk _ (by omega) hs3).trans hs.hz, (hk _ (by omega) (by omega)).trans hs.rs, hs.bel.trans ⟨hg.os, hg.tape, hg.output, hg.size, fun k h => hk k (by omega) (by omega)⟩, fun D hD => ⟨(hs.ds D hD).1, (hk D (hDs D hD) (hs.dlt D hD)).trans (hs.ds D hD).2⟩⟩
  rcases hf with hf | hf
  · have := Option.some.inj hf
    exact hk k (by omega) (by omega)
  · cases hf
def encI (x : Int × Int) : Array Value := #[.int .i64 x.1, .int .i64 x.2]
def encS (x : Int × ByteArray) : Array Value := #[.int .i64 x.1, .string x.2]
set_option maxRecDepth 100000 in
set_option maxHeartbeats 8000000 in
theorem walk (n : Int) (_hb : -9223372036854775808 ≤ n ∧ n ≤ 9223372036854775807) (w : World) : Calls Try.prog 4 #[.int .i64 n] w fun e w' => e = .returned (.bool true) ∧ Below w.heap.size w w' := by
  have HPOPI : Hid (∀ wx Ds, Nl w Ds wx → Calls Try.prog 17 #[.pointer none] wx fun e w' => e = .returned (.tuple #[.int .i64 0, .bool false]) ∧ Nl w Ds w') := fun wx Ds h => (popI_any none none 0 [] wx .no).mono (fun e w' hh => ⟨hh.1, h.chg0 hh.2.2⟩)
  have HPOPS : Hid (∀ wx Ds, Nl w Ds wx → Calls Try.prog 18 #[.pointer (some ⟨w.heap.size + 1, 0, none⟩)] wx fun e w' => e = .returned (.tuple #[.string ByteArray.empty, .bool false]) ∧ Nl w Ds w') := fun wx Ds h => (popS_any (some (w.heap.size + 1)) none 0 [] wx h.rg).mono (fun e w' hh => ⟨hh.1, h.ring hh.2.1 hh.2.2⟩)
  have HATI : Hid (∀ wx Ds, Nl w Ds wx → Calls Try.prog 19 #[.pointer none, .int .i64 n] wx fun e w' => e = .returned (.tuple #[.int .i64 0, .bool false]) ∧ Nl w Ds w') := fun wx Ds h => (atI_any none none 0 [] n wx .no).mono (fun e w' hh => ⟨by rw [hh.1, at0I, show atB ([] : List Int).length n = false from at0B n]; rfl, h.later hh.2⟩)
  have HATS : Hid (∀ wx Ds, Nl w Ds wx → Calls Try.prog 20 #[.pointer (some ⟨w.heap.size + 1, 0, none⟩), .int .i64 n] wx fun e w' => e = .returned (.tuple #[.string ByteArray.empty, .bool false]) ∧ Nl w Ds w') := fun wx Ds h => (atS_any (some (w.heap.size + 1)) none 0 [] n wx h.rg).mono (fun e w' hh => ⟨by rw [hh.1, at0S, show atB ([] : List ByteArray).length n = false from at0B n]; rfl, h.later hh.2⟩)
  have HHPOPI : Hid (∀ wx Ds, Nl w Ds wx → Calls Try.prog 21 #[.pointer none] wx fun e w' => e = .returned (.tuple #[.int .i64 0, .bool false]) ∧ Nl w Ds w') := fun wx Ds h => (hpopI_nil wx).mono (fun e w' hh => ⟨hh.1, by rw [hh.2]; exact h⟩)
  have HHPOPS : Hid (∀ wx Ds, Nl w Ds wx → Calls Try.prog 22 #[.pointer (some ⟨w.heap.size + 2, 0, none⟩)] wx fun e w' => e = .returned (.tuple #[.string ByteArray.empty, .bool false]) ∧ Nl w Ds w') := fun wx Ds h => (hpopS_zero _ wx h.hz).mono (fun e w' hh => ⟨hh.1, by rw [hh.2]; exact h⟩)
  have HHPEEKI : Hid (∀ wx Ds, Nl w Ds wx → Calls Try.prog 23 #[.pointer none] wx fun e w' => e = .returned (.tuple #[.int .i64 0, .bool false]) ∧ Nl w Ds w') := fun wx Ds h => (hpeekI_nil wx).mono (fun e w' hh => ⟨hh.1, by rw [hh.2]; exact h⟩)
  have HHPEEKS : Hid (∀ wx Ds, Nl w Ds wx → Calls Try.prog 24 #[.pointer (some ⟨w.heap.size + 2, 0, none⟩)] wx fun e w' => e = .returned (.tuple #[.string ByteArray.empty, .bool false]) ∧ Nl w Ds w') := fun wx Ds h => (hpeekS_zero _ wx h.hz).mono (fun e w' hh => ⟨hh.1, by rw [hh.2]; exact h⟩)
  have HPUSHI : Hid (∀ wx Ds, Nl w Ds wx → Calls Try.prog 25 #[.pointer none, .int .i64 n] wx fun e w' => e = .returned (.int .i64 1) ∧ Nl w Ds w') := fun wx Ds h => (pushI_any none none 0 [] n wx .no).mono (fun e w' hh => by obtain ⟨r1, q', _, r3, _⟩ := hh; exact ⟨r1, h.chg0 r3⟩)
  have HPUSHS : Hid (∀ wx Ds, Nl w Ds wx → Calls Try.prog 26 #[.pointer (some ⟨w.heap.size + 1, 0, none⟩), .string ByteArray.empty] wx fun e w' => e = .returned (.int .i64 1) ∧ Nl w Ds w') := fun wx Ds h => (pushS_any (some (w.heap.size + 1)) none 0 [] ByteArray.empty wx h.rg).mono (fun e w' hh => by obtain ⟨r1, q', r2, r3, _⟩ := hh; have e0 := rg0S r2; subst e0; exact ⟨r1, h.ring r2 r3⟩)
  have HHPUSHI : Hid (∀ wx Ds, Nl w Ds wx → Calls Try.prog 27 #[.pointer none, .int .i64 n] wx fun e w' => e = .returned (.int .i64 1) ∧ Nl w Ds w') := fun wx Ds h => (hpushI_nil n wx).mono (fun e w' hh => ⟨hh.1, by rw [hh.2]; exact h⟩)
  have HHPUSHS : Hid (∀ wx Ds, Nl w Ds wx → Calls Try.prog 28 #[.pointer (some ⟨w.heap.size + 2, 0, none⟩), .string ByteArray.empty] wx fun e w' => e = .returned (.int .i64 1) ∧ Nl w Ds w') := fun wx Ds h => (hpushS_zero _ ByteArray.empty wx h.hz).mono (fun e w' hh => ⟨hh.1, by rw [hh.2]; exact h⟩)
  have HWAKES : Hid (∀ wx Ds, Nl w Ds wx → Calls Try.prog 31 #[] wx fun e w' => e = .returned (.bool true) ∧ Nl w Ds w') := fun wx Ds h => (wakes_any wx).mono (fun e w' hh => ⟨hh.1, h.later hh.2⟩)
  have HLENI : Hid (∀ wx Ds, Nl w Ds wx → Calls Try.prog 32 #[.pointer none] wx fun e w' => e = .returned (.int .i64 0) ∧ Nl w Ds w') := fun wx Ds h => (lenI_any none none 0 [] wx .no).mono (fun e w' hh => ⟨hh.1, by rw [hh.2]; exact h⟩)
  have HLENS : Hid (∀ wx Ds, Nl w Ds wx → Calls Try.prog 33 #[.pointer (some ⟨w.heap.size + 1, 0, none⟩)] wx fun e w' => e = .returned (.int .i64 0) ∧ Nl w Ds w') := fun wx Ds h => (lenS_any (some (w.heap.size + 1)) none 0 [] wx h.rg).mono (fun e w' hh => ⟨hh.1, by rw [hh.2]; exact h⟩)
  have HHLENI : Hid (∀ wx Ds, Nl w Ds wx → Calls Try.prog 34 #[.pointer none] wx fun e w' => e = .returned (.int .i64 0) ∧ Nl w Ds w') := fun wx Ds h => (hlenI_nil wx).mono (fun e w' hh => ⟨hh.1, by rw [hh.2]; exact h⟩)
  have HHLENS : Hid (∀ wx Ds, Nl w Ds wx → Calls Try.prog 35 #[.pointer (some ⟨w.heap.size + 2, 0, none⟩)] wx fun e w' => e = .returned (.int .i64 0) ∧ Nl w Ds w') := fun wx Ds h => (hlenS_zero _ wx h.hz).mono (fun e w' hh => ⟨hh.1, by rw [hh.2]; exact h⟩)
  have HROOMI : Hid (∀ wx Ds, Nl w Ds wx → Calls Try.prog 36 #[.pointer none] wx fun e w' => e = .returned (.int .i64 0) ∧ Nl w Ds w') := fun wx Ds h => (roomI_any none none 0 [] wx .no).mono (fun e w' hh => by obtain ⟨r1, m, rfl⟩ := hh; exact ⟨r1, h.later (below_drewN wx m)⟩)
  have HROOMS : Hid (∀ wx Ds, Nl w Ds wx → Calls Try.prog 37 #[.pointer (some ⟨w.heap.size + 1, 0, none⟩)] wx fun e w' => e = .returned (.int .i64 0) ∧ Nl w Ds w') := fun wx Ds h => (roomS_any (some (w.heap.size + 1)) none 0 [] wx h.rg).mono (fun e w' hh => by obtain ⟨r1, m, rfl⟩ := hh; exact ⟨r1, h.later (below_drewN wx m)⟩)
  have HDROPI : Hid (∀ wx Ds, Nl w Ds wx → Calls Try.prog 38 #[.pointer none, .int .i64 n] wx fun e w' => e = .returned (.int .i64 0) ∧ Nl w Ds w') := fun wx Ds h => (dropI_any none none 0 [] n wx .no 0 (drop0 n)).mono (fun e w' hh => ⟨hh.1, h.chg0 hh.2.2⟩)
  have HDROPS : Hid (∀ wx Ds, Nl w Ds wx → Calls Try.prog 39 #[.pointer (some ⟨w.heap.size + 1, 0, none⟩), .int .i64 n] wx fun e w' => e = .returned (.int .i64 0) ∧ Nl w Ds w') := fun wx Ds h => (dropS_any (some (w.heap.size + 1)) none 0 [] n wx h.rg 0 (drop0 n)).mono (fun e w' hh => ⟨hh.1, h.ring hh.2.1 hh.2.2⟩)
  have HNEWI : Hid (∀ wx Ds, Nl w Ds wx → Calls Try.prog 40 #[.nilFunc] wx fun e w' => e = .returned (.pointer none) ∧ Nl w Ds w') := fun wx Ds h => (hnewI_nil wx).mono (fun e w' hh => ⟨hh.1, by rw [hh.2]; exact h⟩)
  have HS : Hid (Nl w [] (((w.alloc (.cells #[.bool false] 4)).alloc (.cells #[.int .i64 0, .slice none 0 0, .int .i64 0, .int .i64 0] 43)).alloc (.cells #[.nilFunc, .slice none 0 0, .int .u64 0] 49))) := by
    refine ⟨.zero _ ?_, ?_, ((Lies.new w _ _).alloc _).alloc _, (((Below.refl _ w).alloc (Nat.le_refl _) _).alloc (by simp) _).alloc (by simp; omega) _, fun D hD => by cases hD⟩
    · have := Lies.new (w.alloc (.cells #[.bool false] 4)) #[.int .i64 0, .slice none 0 0, .int .i64 0, .int .i64 0] 43
      rw [World.size_alloc] at this
      exact this.alloc _
    · have := Lies.new ((w.alloc (.cells #[.bool false] 4)).alloc (.cells #[.int .i64 0, .slice none 0 0, .int .i64 0, .int .i64 0] 43)) #[.nilFunc, .slice none 0 0, .int .u64 0] 49
      rw [World.size_alloc, World.size_alloc] at this
      exact this
  refine (callsIn_wide (n := 9)).1 ?_
  refine callsIn_of_wp_marks Try.func4 rfl trivial ?_ rfl
  simp only [Try.ntmps4, List.size_toArray, List.length_cons, List.length_nil, Nat.reduceAdd, Nat.reduceSub, Array.replicate_succ, Array.replicate_zero, List.push_toArray, List.append_toArray, List.nil_append, List.cons_append]
  gi_wp2_with (first
    | (refine ⟨trivial, ?_⟩; gi_at_call 17; refine (callsIn_wide.2 (HPOPI.out _ _ HS.out)).mono ?_; clear HPOPI HS; rintro e wn ⟨rfl, hs⟩; have HS : Hid (Nl w [] wn) := hs; clear hs)
    | (refine ⟨trivial, ?_⟩; gi_at_call 18; refine (callsIn_wide.2 (HPOPS.out _ _ HS.out)).mono ?_; clear HPOPS HS; rintro e wn ⟨rfl, hs⟩; have HS : Hid (Nl w [] wn) := hs; clear hs)
    | (refine ⟨trivial, ?_⟩; gi_at_call 19; refine (callsIn_wide.2 (HATI.out _ _ HS.out)).mono ?_; clear HATI HS; rintro e wn ⟨rfl, hs⟩; have HS : Hid (Nl w [] wn) := hs; clear hs)
    | (refine ⟨trivial, ?_⟩; gi_at_call 20; refine (callsIn_wide.2 (HATS.out _ _ HS.out)).mono ?_; clear HATS HS; rintro e wn ⟨rfl, hs⟩; have HS : Hid (Nl w [] wn) := hs; clear hs)
    | (refine ⟨trivial, ?_⟩; gi_at_call 21; refine (callsIn_wide.2 (HHPOPI.out _ _ HS.out)).mono ?_; clear HHPOPI HS; rintro e wn ⟨rfl, hs⟩; have HS : Hid (Nl w [] wn) := hs; clear hs)
    | (refine ⟨trivial, ?_⟩; gi_at_call 22; refine (callsIn_wide.2 (HHPOPS.out _ _ HS.out)).mono ?_; clear HHPOPS HS; rintro e wn ⟨rfl, hs⟩; have HS : Hid (Nl w [] wn) := hs; clear hs)
    | (refine ⟨trivial, ?_⟩; gi_at_call 23; refine (callsIn_wide.2 (HHPEEKI.out _ _ HS.out)).mono ?_; clear HHPEEKI HS; rintro e wn ⟨rfl, hs⟩; have HS : Hid (Nl w [] wn) := hs; clear hs)
    | (refine ⟨trivial, ?_⟩; gi_at_call 24; refine (callsIn_wide.2 (HHPEEKS.out _ _ HS.out)).mono ?_; clear HHPEEKS HS; rintro e wn ⟨rfl, hs⟩; have HS : Hid (Nl w [] wn) := hs; clear hs)
    | (refine ⟨trivial, ?_⟩; gi_at_call 25; refine (callsIn_wide.2 (HPUSHI.out _ _ HS.out)).mono ?_; clear HPUSHI HS; rintro e wn ⟨rfl, hs⟩; have HS : Hid (Nl w [] wn) := hs; clear hs)
    | (refine ⟨trivial, ?_⟩; gi_at_call 26; refine (callsIn_wide.2 (HPUSHS.out _ _ HS.out)).mono ?_; clear HPUSHS HS; rintro e wn ⟨rfl, hs⟩; have HS : Hid (Nl w [] wn) := hs; clear hs)
    | (refine ⟨trivial, ?_⟩; gi_at_call 27; refine (callsIn_wide.2 (HHPUSHI.out _ _ HS.out)).mono ?_; clear HHPUSHI HS; rintro e wn ⟨rfl, hs⟩; have HS : Hid (Nl w [] wn) := hs; clear hs)
    | (refine ⟨trivial, ?_⟩; gi_at_call 28; refine (callsIn_wide.2 (HHPUSHS.out _ _ HS.out)).mono ?_; clear HHPUSHS HS; rintro e wn ⟨rfl, hs⟩; have HS : Hid (Nl w [] wn) := hs; clear hs)
    | (refine ⟨trivial, ?_⟩; gi_at_call 29; refine (callsIn_wide.2 (eachI_any (.pointer none) _ rfl)).mono ?_; rintro e w2 ⟨rfl, hw⟩; have HW : Hid (w2 = wn.alloc (.cells #[.pointer none] 40)) := hw; clear hw; apply Hid.out))
  unfold Hid
  have HA : Hid (Nl w [] w2) := by rw [HW.out]; exact HS.out.later ((Below.refl _ _).alloc (Nat.le_refl _) _)
  have hc1 : w2.cell? ⟨wn.heap.size, 0, none⟩ = some (.pointer none) := by rw [HW.out]; exact (Lies.new wn #[.pointer none] 40).cell 0
  have hz1 : w.heap.size + 3 ≤ w2.heap.size := by have := Lies.lt HA.out.hz; omega
  clear HW HS
  gi_wp2
  refine wpIn_rangeFunc_ownH rfl (by decide) (gf := 68) (lb := #[.pointer (some ⟨wn.heap.size, 0, none⟩)]) rfl trivial (Go.Proofs.enters_of Try.func68 (by kernel_rfl) rfl)
    (eachI_stops none none wn.heap.size 0 w2 encI .no hc1 _ (fun _ _ => True)) (fun _ _ => trivial) (fun _ _ _ _ _ _ _ _ => trivial) (Below.refl _ _) (fun _ => rfl)
    (fun _ W => Nl w [] W) (fun _ _ _ => False) (Nl.own hz1 (fun D hD => by cases hD)) (fun _ _ _ _ _ hs _ _ => hs) HA.out (fun _ _ _ => True) (fun _ _ _ _ _ _ _ _ _ => trivial) ?assign ?body ?done ?stop
  case body => exact fun l pre x a' W _ _ _ _ h => absurd h (Nat.not_lt_zero _)
  case stop => exact fun D c pre W _ h => h.elim
  case assign =>
    intro l pre x W K hi hK
    gi_wp2
    exact hK _ _ (KeepsFrom.refl _ _) trivial hi trivial
  case done =>
    rintro D xs W hD rfl hN hK
    have HS : Hid (Nl w [D] W) := ⟨hN.rg, hN.hz, hN.rs, hN.bel, fun D' hD' => by
      rw [List.mem_singleton] at hD'
      subst hD'
      exact ⟨by omega, hK⟩⟩
    clear hN hK hD hc1 hz1
    gi_wp2_with (refine ⟨trivial, ?_⟩; gi_at_call 30; refine (callsIn_wide.2 (eachS_any (.pointer (some ⟨w.heap.size + 1, 0, none⟩)) _ rfl)).mono ?_; rintro e w3 ⟨rfl, hw⟩; have HW : Hid (w3 = W.alloc (.cells #[.pointer (some ⟨w.heap.size + 1, 0, none⟩)] 82)) := hw; clear hw; apply Hid.out)
    unfold Hid
    have HA : Hid (Nl w [D] w3) := by rw [HW.out]; exact HS.out.later ((Below.refl _ _).alloc (Nat.le_refl _) _)
    have hc1 : w3.cell? ⟨W.heap.size, 0, none⟩ = some (.pointer (some ⟨w.heap.size + 1, 0, none⟩)) := by rw [HW.out]; exact (Lies.new W #[.pointer (some ⟨w.heap.size + 1, 0, none⟩)] 82).cell 0
    have hz1 : w.heap.size + 3 ≤ w3.heap.size := by have := Lies.lt HA.out.hz; omega
    clear HW HS
    gi_wp2
    refine wpIn_rangeFunc_ownH rfl (by decide) (gf := 70) (lb := #[.pointer (some ⟨W.heap.size, 0, none⟩)]) rfl trivial (Go.Proofs.enters_of Try.func70 (by kernel_rfl) rfl)
      (eachS_stops (some (w.heap.size + 1)) none W.heap.size 0 w3 encS HA.out.rg hc1 _ (fun _ _ => True)) (fun _ _ => trivial) (fun _ _ _ _ _ _ _ _ => trivial) (Below.refl _ _) (fun _ => rfl)
      (fun _ W => Nl w [D] W) (fun _ _ _ => False) (Nl.own hz1 HA.out.dlt) (fun _ _ _ _ _ hs _ _ => hs) HA.out (fun _ _ _ => True) (fun _ _ _ _ _ _ _ _ _ => trivial) ?assign2 ?body2 ?done2 ?stop2
    case body2 => exact fun l pre x a' W _ _ _ _ h => absurd h (Nat.not_lt_zero _)
    case stop2 => exact fun D c pre W _ h => h.elim
    case assign2 =>
      intro l pre x W K hi hK
      gi_wp2
      exact hK _ _ (KeepsFrom.refl _ _) trivial hi trivial
    case done2 =>
      rintro D2 xs W2 hD rfl hN hK
      have hD12 : D < w3.heap.size := HA.out.dlt D (List.mem_singleton.2 rfl)
      have HNE : Hid (D ≠ D2) := by unfold Hid; omega
      have HS : Hid (Nl w [D2, D] W2) := ⟨hN.rg, hN.hz, hN.rs, hN.bel, fun D' hD' => by
        rcases List.mem_cons.1 hD' with rfl | hD'
        · exact ⟨by omega, hK⟩
        · exact hN.ds D' hD'⟩
      clear hN hK hD hc1 hz1 hD12 HA
      gi_wp2_with (first
        | (refine ⟨trivial, ?_⟩; gi_at_call 31; refine (callsIn_wide.2 (HWAKES.out _ _ HS.out)).mono ?_; clear HWAKES HS; rintro e wn ⟨rfl, hs⟩; have HS : Hid (Nl w [D2, D] wn) := hs; clear hs)
        | (refine ⟨trivial, ?_⟩; gi_at_call 32; refine (callsIn_wide.2 (HLENI.out _ _ HS.out)).mono ?_; clear HLENI HS; rintro e wn ⟨rfl, hs⟩; have HS : Hid (Nl w [D2, D] wn) := hs; clear hs)
        | (refine ⟨trivial, ?_⟩; gi_at_call 33; refine (callsIn_wide.2 (HLENS.out _ _ HS.out)).mono ?_; clear HLENS HS; rintro e wn ⟨rfl, hs⟩; have HS : Hid (Nl w [D2, D] wn) := hs; clear hs)
        | (refine ⟨trivial, ?_⟩; gi_at_call 34; refine (callsIn_wide.2 (HHLENI.out _ _ HS.out)).mono ?_; clear HHLENI HS; rintro e wn ⟨rfl, hs⟩; have HS : Hid (Nl w [D2, D] wn) := hs; clear hs)
        | (refine ⟨trivial, ?_⟩; gi_at_call 35; refine (callsIn_wide.2 (HHLENS.out _ _ HS.out)).mono ?_; clear HHLENS HS; rintro e wn ⟨rfl, hs⟩; have HS : Hid (Nl w [D2, D] wn) := hs; clear hs)
        | (refine ⟨trivial, ?_⟩; gi_at_call 36; refine (callsIn_wide.2 (HROOMI.out _ _ HS.out)).mono ?_; clear HROOMI HS; rintro e wn ⟨rfl, hs⟩; have HS : Hid (Nl w [D2, D] wn) := hs; clear hs)
        | (refine ⟨trivial, ?_⟩; gi_at_call 37; refine (callsIn_wide.2 (HROOMS.out _ _ HS.out)).mono ?_; clear HROOMS HS; rintro e wn ⟨rfl, hs⟩; have HS : Hid (Nl w [D2, D] wn) := hs; clear hs)
        | (refine ⟨trivial, ?_⟩; gi_at_call 38; refine (callsIn_wide.2 (HDROPI.out _ _ HS.out)).mono ?_; clear HDROPI HS; rintro e wn ⟨rfl, hs⟩; have HS : Hid (Nl w [D2, D] wn) := hs; clear hs)
        | (refine ⟨trivial, ?_⟩; gi_at_call 39; refine (callsIn_wide.2 (HDROPS.out _ _ HS.out)).mono ?_; clear HDROPS HS; rintro e wn ⟨rfl, hs⟩; have HS : Hid (Nl w [D2, D] wn) := hs; clear hs)
        | (refine ⟨trivial, ?_⟩; gi_at_call 40; refine (callsIn_wide.2 (HNEWI.out _ _ HS.out)).mono ?_; clear HNEWI HS; rintro e wn ⟨rfl, hs⟩; have HS : Hid (Nl w [D2, D] wn) := hs; clear hs; have r0 : wn.cell? ⟨w.heap.size, 0, none⟩ = some (.bool false) := HS.out.rs.cell 0; have z0 := HS.out.rs.frozen 0))
      obtain ⟨e1, hd1⟩ := HS.out.ds D (by simp)
      obtain ⟨e2, hd2⟩ := HS.out.ds D2 (by simp)
      have hl1 := HS.out.dlt D (by simp)
      have k2 : (wn.setCell ⟨w.heap.size, 0, none⟩ (.bool true)).heap[D2]? = some (.deferred (some [])) := (Below.heap_setCell _ _ _ _ (by simp; omega)).trans hd2
      have k1 : ((wn.setCell ⟨w.heap.size, 0, none⟩ (.bool true)).putObj D2 (.deferred none)).heap[D]? = some (.deferred (some [])) := ((grownBy_putObj' _ D2 (.deferred none)).block D (by rw [World.size_setCell]; exact hl1) (fun e => HNE.out (Option.some.inj e))).trans ((Below.heap_setCell _ _ _ _ (by simp; omega)).trans hd1)
      have hL0 : Lies (wn.setCell ⟨w.heap.size, 0, none⟩ (.bool true)) w.heap.size #[.bool true] 4 := HS.out.rs.set 0 _
      have hL1 : Lies ((wn.setCell ⟨w.heap.size, 0, none⟩ (.bool true)).putObj D2 (.deferred none)) w.heap.size #[.bool true] 4 := ((grownBy_putObj' _ D2 (.deferred none)).block w.heap.size hL0.lt (fun e => by have := Option.some.inj e; omega)).trans hL0
      have hL2 : Lies (((wn.setCell ⟨w.heap.size, 0, none⟩ (.bool true)).putObj D2 (.deferred none)).putObj D (.deferred none)) w.heap.size #[.bool true] 4 := ((grownBy_putObj' _ D (.deferred none)).block w.heap.size hL1.lt (fun e => by have := Option.some.inj e; omega)).trans hL1
      have hc5 : (((wn.setCell ⟨w.heap.size, 0, none⟩ (.bool true)).putObj D2 (.deferred none)).putObj D (.deferred none)).cell? ⟨w.heap.size, 0, none⟩ = some (.bool true) := hL2.cell 0
      have hB1 : Below w.heap.size w (wn.setCell ⟨w.heap.size, 0, none⟩ (.bool true)) := HS.out.bel.setCell (p := ⟨w.heap.size, 0, none⟩) (Nat.le_refl _) _
      have hB2 := hB1.trans (belowK_b (w := w) (Nat.le_refl _) _ D2 _ (.deferred none) (by omega) k2 rfl rfl)
      have hB3 := hB2.trans (belowK_b (w := w) (Nat.le_refl _) _ D _ (.deferred none) (by omega) k1 rfl rfl)
      refine ⟨by simp, .inl ⟨_, _, rfl, run_takeDeferred k2, ?_⟩⟩
      refine ⟨by simp, .inl ⟨_, _, rfl, run_takeDeferred k1, ?_⟩⟩
      refine ⟨.bool true, ?_, rfl, hB3⟩
      simp [results, Try.results4, go_sem, hc5]

theorem own : ownKnob Try.prog.godebug = none := by kernel_rfl
set_option maxRecDepth 100000 in
theorem contract (H : Type) (enc : TypeId × Value → H) (W : World) (base : Nat) (args : Array Value) (ds gs : List (DataW H)) (before : List MemPlace)
    (hval : ∀ (j : Nat) t v, Try.f4.params[j]? = some t → args[j]? = some v → Value.okWide Try.prog W .any base t v)
    (hW : DataW.Whole enc Try.prog Try.f4.params.toList Rows.queueNilSpec.vars false W args.toList ds gs before)
    (hsz : (DataW.weightsEach Try.prog (Try.f4.params.toList ++ Rows.queueNilSpec.plain.varTypes Try.prog) (ds ++ gs)).all (· ≤ reachBytes) = true)
    :
    Calls Try.prog 4 args W fun e W' => ∃ v, e = .returned v ∧ Rows.queueNilSpec.post enc Try.prog Try.f4 false true false false W args v W' := by
  have hW' := hW
  obtain ⟨p, q, hA0, hV, rfl, hfz, hnd⟩ := hW
  have hA : DataW.TrodAll enc Try.prog W 0 (fun _ => true) true Try.f4.params.toList args.toList ds p := hA0
  rw [Try.params4] at hA hval hsz
  obtain ⟨v0, vs0, d0, ds0, p0, q0, hargs, rfl, rfl, h0, r0⟩ := trodAll_cons hA
  obtain ⟨rfl, rfl, rfl⟩ := trodAll_nil r0
  obtain rfl : args = #[v0] := by cases args; simp_all
  obtain ⟨rfl, rfl⟩ := trodVars_none hV
  obtain ⟨a0, rfl, rfl, rfl, w0⟩ := open_int Try.underlying3 (hval 0 3 v0 rfl rfl) h0
  have b0 := bounds_i64 w0
  clear hA0
  simp only [List.append_nil] at hW'
  refine (walk a0 b0 W).mono fun e W' ⟨he, bel⟩ => ?_
  subst he
  exact ⟨_, rfl, _, _, _, [], [], [], hW', trodAll_mk1 (shut_bool Try.underlying4 _), trodAll_cons_mk (shut_int Try.underlying3 w0) trodAll_mk0, rfl, bel.frame _, fun h => by cases h⟩

set_option maxRecDepth 100000 in
theorem lifted (os : Os) (started : os.Started) (H : Type) (enc : TypeId × Value → H) :
    ReturnsInHanded {} Try.checked os 4 .any (Rows.queueNilSpec.pre6 enc Try.prog Try.f4 Rows.queueNilRow.domain false) (Rows.queueNilSpec.post enc Try.prog Try.f4 false true false false) := by
  refine returnsInHanded_of_change_sized (C := Try.checked) own started (by kernel_rfl) Try.func4
    (ChangeSpec.witness6 (enc := enc) (C := Try.checked) false ⟨#[], #[.int .i64 0], []⟩ 8 (by kernel_rfl) (by kernel_rfl) (by kernel_rfl) (by kernel_rfl)) ?_
  intro W base args ds gs before hval0 hW hcnd hsz0 _
  exact contract H enc W base args ds gs before hval0 hW hsz0

theorem over : Rows.queueNilRow.holds Try.pinned (OpenSpec.ofChange Rows.queueNilSpec) :=
  OpenClaim.holds_of_wide 4 Try.f4 rfl rfl rfl rfl rfl rfl rfl ⟨rfl, rfl, rfl, rfl, rfl⟩ rfl rfl rfl rfl rfl (by kernel_rfl) Try.func4 (by kernel_rfl)
    (of_decide_eq_true (by kernel_rfl)) (by unfold Func.isWrapper; first | (rw [if_pos (by decide +kernel)]; kernel_rfl) | (rw [if_neg (by decide +kernel)]; exact ⟨rfl, rfl⟩))
    (fun os started H enc _ => lifted os started H enc)
end Go.Proofs.Ytgbbjhhggjocmab.queueNil
namespace Go.Proofs.Ytgbbjhhggjocmab
theorem queueNil_said : Rows.QueueNilSaid := queueNil.over
#print axioms queueNil_said
end Go.Proofs.Ytgbbjhhggjocmab
