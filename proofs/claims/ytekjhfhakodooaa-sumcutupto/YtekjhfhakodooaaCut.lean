/-
  P2.5: however bytes are cut, More, Join and a stream come to the sum of all; proved where the arguments hold together at most 1048576 values.
-/
import Derived.Test.YtekjhfhakodooaaPieces
import Derived.Test.YtekjhfhakodooaaStreamm
import Derived.Test.YtekjhfhakodooaaOpenn
import Derived.Test.YtekjhfhakodooaaBulk
import Derived.Test.YtekjhfhakodooaaRows
import Derived.ProofKit
import Derived.OpenShut
import Derived.ChangeOld
import Derived.SizedLaws
namespace Go.Proofs.Ytekjhfhakodooaa.sumCut
open Go.ChangeShapes Go.WideShapes Go.ChangeAt Go.RowKit

theorem of_len (a : Option Addr) (l : List UInt8) (n cap : Nat) (w : World) (h : Bts a l w) (hn : l.length = n) (hl : n ≤ maxLen) :
    Calls Try.prog 11 #[.slice a n cap] w fun e w' => e = .returned (.int .u32 (more 0#32 l).toNat) ∧ w' = w := by subst hn; exact of_any a l cap w h hl
theorem more_len (s : BitVec 32) (a : Option Addr) (l : List UInt8) (n cap : Nat) (w : World) (h : Bts a l w) (hn : l.length = n) (hl : n ≤ maxLen) :
    Calls Try.prog 14 #[.int .u32 s.toNat, .slice a n cap] w fun e w' => e = .returned (.int .u32 (more s l).toNat) ∧ w' = w := by subst hn; exact more_any s a l cap w h hl
theorem write_len (g : Nat) (x : BitVec 32) (m : Int) (a : Option Addr) (l : List UInt8) (n cap : Nat) (w : World) (h : Lies w g (strm true x m) 39) (hb : Bts a l w) (hn : l.length = n) (hl : n ≤ maxLen)
    (h0 : 0 ≤ m) (hm : m + n < 9223372036854775808) :
    Calls Try.prog 20 #[.pointer (some ⟨g, 0, none⟩), .slice a n cap] w fun e w' => e = .returned (.int .i64 0) ∧ Lies w' g (strm true (more x l) (m + n)) 39 ∧ But g w w' := by subst hn; exact write_any g x m a l cap w h hb hl h0 hm
theorem take_next (l : List UInt8) {i j : Nat} (h : i ≤ j) : l.take i ++ (l.drop i).take (j - i) = l.take j := by
  have := List.take_append_drop i (l.take j)
  rw [List.take_take, Nat.min_eq_left h, List.drop_take] at this
  exact this

set_option maxRecDepth 100000 in
set_option maxHeartbeats 1000000 in
theorem walk (a : Option Addr) (l : List UInt8) (ca : Nat) {w : World} (ha : Bts a l w) (sa : l.length ≤ 1048576) (qa : l.length ≤ ca) (na : a = none → ca = 0)
    (b : Option Addr) (zs : List Int) (cb : Nat) (hz : Ints b zs w) (sz : zs.length ≤ 1048576) :
    Calls Try.prog 7 #[.slice a l.length ca, .slice b zs.length cb] w fun e w' => e = .returned (.bool true) ∧ Below w.heap.size w w' := by
  have HA : Hid (Bts a l w) := ha
  have HZ : Hid (Ints b zs w) := hz
  have HN : Hid (a = none → ca = 0) := na
  have ML : Hid (l.length ≤ maxLen) := by show _ ≤ _; unfold maxLen; omega
  clear ha hz na
  go_enter Try.func7, Try.ntmps7
  go_wp2_with fail
  refine (of_any a l ca w HA.out ML.out).mono ?_
  rintro e w1 ⟨rfl, hw⟩
  rw [hw]
  clear hw w1
  go_wp2_with fail
  refine (new_any w).mono ?_
  rintro e w2 ⟨rfl, hw2⟩
  have HB2 : Hid (Below w.heap.size w w2) := by rw [hw2]; exact (Below.refl _ _).alloc (Nat.le_refl _) _
  have HS2 : Hid (Lies w2 w.heap.size (strm true 0#32 0) 39) := by rw [hw2]; exact Lies.new _ _ _
  clear hw2
  obtain ⟨gs, hgs⟩ : ∃ gs, gs = w.heap.size := ⟨_, rfl⟩
  rw [← hgs] at HS2
  have GS : Hid (gs = w.heap.size) := hgs
  rw [← hgs]
  clear hgs
  go_wp2_with fail
  refine (pieces_any a l ca b zs cb w2 (HA.out.below HB2.out) (HZ.out.below HB2.out) sa qa sz HN.out).mono ?_
  rintro e w3 ⟨v, p, cells, rfl, hown, hpl, hpe, hcells, hb3⟩
  obtain ⟨gp, cpp, rfl, hgp, hcell3⟩ : ∃ gp cpp, v = .slice (some ⟨gp, 0, none⟩) (zs.length + 1) cpp ∧ w2.heap.size ≤ gp ∧ ∃ cur : Array Value, Lies w3 gp cur 22 ∧ ∀ k, k < zs.length + 1 → cur[k]? = cells[k]? := by
    rcases hown.2 with ⟨_, h⟩ | ⟨g, cp, cur, rfl, hg, hg2, hn, hm, hs, ht⟩
    · omega
    · refine ⟨g, cp, rfl, hg, cur, hg2, fun k hk => ?_⟩
      rw [← ht, List.getElem?_take, if_pos (by omega), Array.getElem?_toList]
  obtain ⟨cur, hlc, hcur⟩ := hcell3
  have NE : Hid (gp ≠ gs) := by have := HS2.out.lt; show _ ≠ _; omega
  have GP : Hid (w.heap.size ≤ gp) := by have := HB2.out.size; show _ ≤ _; omega
  have HL3 : Hid (Lies w3 gp cur 22) := hlc
  have HS3 : Hid (Lies w3 gs (strm true 0#32 0) 39) := HS2.out.below hb3 HS2.out.lt
  have HB3 : Hid (Below w.heap.size w w3) := HB2.out.trans (hb3.mono HB2.out.size)
  have HC : Hid (∀ k, k < zs.length + 1 → ∃ A c, cur[k]? = some (.slice A (p (k + 1) - p k) c) ∧ ∀ w0, Bts a l w0 → Bts A ((l.drop (p k)).take (p (k + 1) - p k)) w0) := fun k hk => by rw [hcur k hk]; exact hcells k hk
  have HP : Hid (Places l.length p (zs.length + 1)) := hpl
  have HE : Hid (p (zs.length + 1) = l.length) := hpe
  clear hown hlc hcur hcells hb3 hpl hpe hgp HS2
  go_wp2_with fail
  go_loopw [7, 8, 20] (fun m j i wr => ∃ (k : Nat) (x : BitVec 32), k ≤ zs.length + 1 ∧ i = .int .i64 k ∧ m = .int .u32 x.toNat ∧ j = .int .u32 x.toNat ∧ Hid (x = more 0#32 (l.take (p k))) ∧ Hid (Lies wr gs (strm true x (p k)) 39) ∧ Hid (Lies wr gp cur 22) ∧ Hid (Below w.heap.size w wr)) (fun _ _ i _ => zs.length + 1 - (intOf i).toNat)
  case atStart => exact ⟨0, 0#32, by omega, rfl, rfl, rfl, by show _ = _; rw [HP.out.start]; exact (more_nil _).symm, by rw [HP.out.start]; exact HS3, HL3, HB3⟩
  case round =>
    obtain ⟨k, x, hk, rfl, rfl, rfl, HX, HS, HL, HB⟩ := hrel
    by_cases hlt : k < zs.length + 1
    · obtain ⟨A, c, hck, hbk⟩ := HC.out k hlt
      have hup := HP.out.up k hlt
      have htop := HP.out.top (k + 1) (by omega)
      obtain ⟨sg, hsg⟩ : ∃ sg, sg = (l.drop (p k)).take (p (k + 1) - p k) := ⟨_, rfl⟩
      obtain ⟨nk, hnk⟩ : ∃ nk, nk = p (k + 1) - p k := ⟨_, rfl⟩
      have lsg : sg.length = nk := by rw [hsg, List.length_take, List.length_drop]; omega
      have HT : Hid (more x sg = more 0#32 (l.take (p (k + 1)))) := by show _ = _; rw [HX.out, ← more_append, hsg, take_next l hup]
      have HJ : Hid (join x (more 0#32 sg) nk = more x sg) := by show _ = _; rw [more_join x sg, lsg]
      rw [← hnk] at hck
      have hbk' : Bts A sg wr := by rw [hsg]; exact hbk wr (HA.out.below HB.out)
      have BK : Hid (Bts A sg wr) := hbk'
      have hc : wr.cell? ⟨gp, k, none⟩ = some (.slice A nk c) := (HL.out.cell k).trans hck
      have LS : Hid (sg.length = nk) := lsg
      have PK : Hid ((p k : Int) + (nk : Int) = ((p (k + 1) : Nat) : Int)) := by show _ = _; omega
      have MN : Hid (nk ≤ maxLen) := by show _ ≤ _; unfold maxLen; omega
      have nk1 : nk < 9223372036854775808 := by omega
      have p0 : (0 : Int) ≤ (p k : Int) := by omega
      have pb : (p k : Int) + (nk : Int) < 9223372036854775808 := by omega
      have P0 : Hid ((0 : Int) ≤ (p k : Int) ∧ (p k : Int) + (nk : Int) < 9223372036854775808) := ⟨p0, pb⟩
      have ik : (k : Int) < (zs.length : Int) + 1 := by omega
      clear hbk hbk' hck hsg hnk lsg hup htop p0 pb
      go_wp2_with fail
      refine (more_len x A sg nk c wr BK.out LS.out MN.out).mono ?_
      rintro e w4 ⟨rfl, hw⟩
      rw [hw]
      clear hw w4
      go_wp2_with fail
      refine (of_len A sg nk c wr BK.out LS.out MN.out).mono ?_
      rintro e w4 ⟨rfl, hw⟩
      rw [hw]
      clear hw w4
      go_wp2_with fail
      refine (join_any x (more 0#32 sg) nk nk1 wr).mono ?_
      rintro e w4 ⟨rfl, hb4⟩
      rw [HJ.out]
      have HS4 : Hid (Lies w4 gs (strm true x (p k)) 39) := HS.out.below hb4 HS.out.lt
      have HL4 : Hid (Lies w4 gp cur 22) := HL.out.below hb4 HL.out.lt
      have HB4 : Hid (Below w.heap.size w w4) := HB.out.trans (hb4.mono HB.out.size)
      have BK4 : Hid (Bts A sg w4) := BK.out.below hb4
      clear hb4 hc
      go_wp2_with fail
      refine (write_len gs x (p k) A sg nk c w4 HS4.out BK4.out LS.out MN.out P0.out.1 P0.out.2).mono ?_
      rintro e w5 ⟨rfl, hs5, hbut⟩
      have HS5 : Hid (Lies w5 gs (strm true (more x sg) (p (k + 1))) 39) := by rw [PK.out] at hs5; exact hs5
      have HL5 : Hid (Lies w5 gp cur 22) := hbut.lies HL4.out NE.out
      have HB5 : Hid (Below w.heap.size w w5) := HB4.out.trans (hbut.below (by rw [GS.out]; exact Nat.le_refl _) HB4.out.size)
      clear hs5 hbut
      go_wp2_with fail
      go_roundw
      case rel => exact ⟨k + 1, more x sg, by omega, by go_num, rfl, rfl, HT, HS5, HL5, HB5⟩
      case measure => simp [intOf]; omega
    · obtain rfl : k = zs.length + 1 := by omega
      have HX2 : x = more 0#32 l := by have := HX.out; rw [HE.out, List.take_length] at this; exact this
      have HS2 : Hid (Lies wr gs (strm true x l.length) 39) := by have := HS.out; rw [HE.out] at this; exact this
      obtain ⟨y, hy⟩ : ∃ y, y = more 0#32 l := ⟨_, rfl⟩
      rw [← hy] at HX2 ⊢
      clear hy
      subst HX2
      clear HX HS
      go_wp2_with fail
      refine (sum_any gs _ l.length wr HS2.out).mono ?_
      rintro e w4 ⟨rfl, hw⟩
      rw [hw]
      clear hw w4
      go_wp2_with fail
      refine (len_any gs _ l.length wr HS2.out).mono ?_
      rintro e w4 ⟨rfl, hw⟩
      rw [hw]
      clear hw w4
      go_wp2_with fail
      refine (wakes_any wr).mono ?_
      rintro e w4 ⟨rfl, hb4⟩
      go_wp2
      go_ret
      exact ⟨rfl, HB.out.trans (hb4.mono HB.out.size)⟩
theorem own : ownKnob Try.prog.godebug = none := by kernel_rfl
theorem laidOut : laidOutB Try.prog = true := by kernel_rfl

set_option maxRecDepth 100000 in
theorem contract (H : Type) (enc : TypeId × Value → H) (W : World) (base : Nat) (args : Array Value) (ds gs : List (DataW H)) (before : List MemPlace)
    (hval0 : ∀ (j : Nat) t v, Try.f7.params[j]? = some t → args[j]? = some v → Value.okWide Try.prog W .any base t v)
    (hW : DataW.Whole enc Try.prog Try.f7.params.toList Rows.sumCutSpec.vars false W args.toList ds gs before) (hk : Rows.uptoSmall H (ds ++ gs) = true) :
    Calls Try.prog 7 args W fun e W' => ∃ v, e = .returned v ∧ Rows.sumCutSpec.post enc Try.prog Try.f7 false true false false W args v W' := by
  have hval : ∀ (j : Nat) t v, Try.f7.params[j]? = some t → args[j]? = some v → Value.okWide Try.prog W .any base t v := hval0
  have hW' := hW
  obtain ⟨p, q, hA0, hV, rfl, hfz, hnd⟩ := hW
  have hA : DataW.TrodAll enc Try.prog W 0 (fun _ => true) true Try.f7.params.toList args.toList ds p := hA0
  rw [Try.params7] at hA hval
  obtain ⟨v0, vs0, d0, ds0, p0, q0, hargs, rfl, rfl, h0, r0⟩ := trodAll_cons hA
  obtain ⟨v1, vs1, d1, ds1, p1, q1, rfl, rfl, rfl, h1, r1⟩ := trodAll_cons r0
  obtain ⟨rfl, rfl, rfl⟩ := trodAll_nil r1
  obtain rfl : args = #[v0, v1] := by cases args; simp_all
  obtain ⟨rfl, rfl⟩ := trodVars_none hV
  obtain ⟨a0, len0, cap0, rfl⟩ := okWide_slice Try.underlying22 (hval 0 22 v0 rfl rfl)
  have k0 := h0
  have lt0 : ∀ x ∈ p0, x.block < W.heap.size := by obtain ⟨m, hm⟩ := k0; exact DataW.trod_lt m _ _ _ hm
  obtain ⟨l0, e0, row0, cp0, bd0⟩ := open_bytes h0
  have nn0 := open_none k0
  obtain ⟨a1, len1, cap1, rfl⟩ := okWide_slice Try.underlying53 (hval 1 53 v1 rfl rfl)
  have k1 := h1
  have lt1 : ∀ x ∈ p1, x.block < W.heap.size := by obtain ⟨m, hm⟩ := k1; exact DataW.trod_lt m _ _ _ hm
  obtain ⟨l1, e1, row1, bd1⟩ := open_nums h1
  clear hA0 hval0
  have s0 : l0.length ≤ 1048576 := by
    rcases bd0 with ⟨el, sp, rfl, hl⟩ | ⟨rfl, hl⟩
    · have := bulk_slice hk (el := el) (sp := sp) (by simp)
      omega
    · omega
  subst e0
  have s1 : l1.length ≤ 1048576 := by
    rcases bd1 with ⟨el, sp, rfl, hl⟩ | ⟨rfl, hl⟩
    · have := bulk_slice hk (el := el) (sp := sp) (by simp)
      omega
    · omega
  subst e1
  refine (walk a0 l0 cap0 row0 s0 cp0 nn0 a1 l1 cap1 row1 s1).mono fun e W' ⟨he, bel⟩ => ?_
  subst he
  exact ⟨_, rfl, _, _, _, [], _, [], hW', trodAll_mk1 (shut_bool Try.underlying4 _), trodAll_cons_mk (Below.trod laidOut (by kernel_rfl) (of_decide_eq_true (by kernel_rfl)) k0 bel lt0) (trodAll_cons_mk (Below.trod laidOut (by kernel_rfl) (of_decide_eq_true (by kernel_rfl)) k1 bel lt1) trodAll_mk0), rfl, bel.frame _, fun h => by cases h⟩

set_option maxRecDepth 100000 in
theorem lifted (os : Os) (started : os.Started) (H : Type) (enc : TypeId × Value → H) (F : Stop.Interp) :
    ReturnsInHanded {} Try.checked os 7 .any ((Rows.OpenSpec.upto Rows.sumCutSpec).pre6 enc Try.prog Try.f7 Rows.sumCutUptoRow.domain false) (((Rows.OpenSpec.upto Rows.sumCutSpec).at F).post enc Try.prog Try.f7 false true false false) := by
  refine returnsInHanded_of_cond (C := Try.checked) (s := Rows.OpenSpec.upto Rows.sumCutSpec) (k := Rows.uptoSmall) rfl own started (by kernel_rfl) Try.func7
    (OpenSpec.witness (enc := enc) (C := Try.checked) (s := Rows.OpenSpec.upto Rows.sumCutSpec) (k := Rows.uptoSmall) rfl false ⟨#[], #[.slice none 0 0, .slice none 0 0], []⟩ 8 (by kernel_rfl) (by kernel_rfl) (by kernel_rfl)
      (x := ([.nil, .nil], [], [])) (by kernel_rfl) rfl (by kernel_rfl)) ?_
  intro W base args ds gs before hval hW _ hk _
  exact contract H enc W base args ds gs before hval hW hk

theorem over : Rows.SumCutUptoSaid :=
  OpenClaim.holds_of_cond 7 Try.f7 rfl rfl rfl rfl rfl rfl rfl ⟨rfl, rfl, rfl, rfl, rfl⟩ rfl rfl rfl rfl rfl (by kernel_rfl) Try.func7 (by kernel_rfl)
    (of_decide_eq_true (by kernel_rfl)) (by unfold Func.isWrapper; first | (rw [if_pos (by decide +kernel)]; kernel_rfl) | (rw [if_neg (by decide +kernel)]; exact ⟨rfl, rfl⟩))
    (fun os started H enc _ F => lifted os started H enc F)
end Go.Proofs.Ytekjhfhakodooaa.sumCut
namespace Go.Proofs.Ytekjhfhakodooaa
theorem sumCutUpto_said : Rows.SumCutUptoSaid := sumCut.over
#print axioms sumCutUpto_said
end Go.Proofs.Ytekjhfhakodooaa
