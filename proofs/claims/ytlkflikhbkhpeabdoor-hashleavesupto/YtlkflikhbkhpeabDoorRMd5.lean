/-
  The document's digest of bytes.
-/
import Derived.Test.YtlkflikhbkhpeabDoorPadded
namespace Go.Proofs.YtlkflikhbkhpeabDoor
open Go.RowKit

/-- The register as the document has it. -/
def rgu (r : Rg) : Array Value := #[.int .u64 r.a.toNat, .int .u64 r.b.toNat, .int .u64 r.c.toNat, .int .u64 r.d.toNat]
theorem rgu_size (r : Rg) : (rgu r).size = 4 := rfl
theorem rgu_one (r : Rg) : (rgu r).all (·.oneCell') = true := by
  simp [rgu]
  exact ⟨rfl, rfl, rfl, rfl⟩
theorem infoU (r : Rg) : (Tryd.prog.info? 49).map (·.size) = some (rgu r).size := by
  rw [rgu_size]
  kernel_rfl
theorem rgu_at (r : Rg) (k : Nat) (h : k < 4) : (rgu r)[k]? = some (.int .u64 ((r.at k).toNat : Int)) := by
  match k, h with
  | 0, _ => rfl
  | 1, _ => rfl
  | 2, _ => rfl
  | 3, _ => rfl
theorem rgu0_spelt : (#[.int .u64 1732584193, .int .u64 4023233417, .int .u64 2562383102, .int .u64 271733878] : Array Value) = rgu rg0 := by kernel_rfl
theorem infoD' (l : List UInt8) : (Tryd.prog.info? 24).map (·.size) = some (rowV (md5 l)).size := by rw [rowV_size, md5_length]; kernel_rfl

theorem add64 (x y : BitVec 32) : IntKind.u64.wrap ((x.toNat : Int) + (y.toNat : Int)) = ((x.toNat + y.toNat : Nat) : Int) := by
  have := x.isLt
  have := y.isLt
  rw [IntKind.wrap_u64]
  omega
theorem add64n (x : Nat) (y : BitVec 32) (h : x ≤ 1152921504606846976) : IntKind.u64.wrap ((x : Int) + (y.toNat : Int)) = ((x + y.toNat : Nat) : Int) := by
  have := y.isLt
  rw [IntKind.wrap_u64]
  omega
theorem rem64 (x : Nat) (F : BitVec 32) (h : x % 4294967296 = F.toNat) : (x : Int).tmod 4294967296 = (F.toNat : Int) := by
  rw [Int.tmod_eq_emod_of_nonneg (by omega)]
  omega
theorem wrapF (F : BitVec 32) : IntKind.u64.wrap (F.toNat : Int) = (F.toNat : Int) := by
  have := F.isLt
  rw [IntKind.wrap_u64]
  omega
/-- The first k words have been added. -/
structure AddedU (k : Nat) (c : Array Value) (r x : Rg) : Prop where
  upto : Upto k c (rgu (addR r x))
  rest : ∀ j, k ≤ j → c[j]? = (rgu r)[j]?
theorem AddedU.zero (r x : Rg) : AddedU 0 (rgu r) r x := ⟨⟨rfl, fun j h => by omega⟩, fun _ _ => rfl⟩
theorem AddedU.next {k : Nat} {c : Array Value} {r x : Rg} (h : AddedU k c r x) (hk : k < 4) : AddedU (k + 1) (c.setIfInBounds k (.int .u64 (((r.at k) + (x.at k)).toNat : Int))) r x :=
  ⟨h.upto.next (by rw [rgu_at _ k hk, addR_at r x k hk]), fun j hj => by rw [Array.getElem?_setIfInBounds_ne (by omega)]; exact h.rest j (by omega)⟩

set_option maxHeartbeats 1000000 in
set_option maxRecDepth 100000 in
theorem rmd5_any (a : Option Addr) (l : List UInt8) (cap : Nat) (w : World) (h : Bts a l w) (hnc : a = none → cap = 0) (hl : l.length ≤ 140737488355000) :
    Calls Tryd.prog 13 #[.slice a l.length cap] w fun e w' => e = .returned (.agg (rowV (md5 l))) ∧ Below w.heap.size w w' := by
  have HH : Hid (Bts a l w) := h
  have HNC : Hid (a = none → cap = 0) := hnc
  have HLL : Hid (l.length ≤ 140737488355000) := hl
  clear h hnc hl
  go_enter Tryd.func13, Tryd.ntmps13
  go_wp2_with fail
  rw [zeroD_spelt]
  refine (padded_any a l cap _ (HH.out.below ((Below.refl _ _).alloc (Nat.le_refl _) _)) HNC.out HLL.out).mono ?_
  rintro e w1 ⟨v, rfl, hown, hb1⟩
  obtain ⟨A, cp, rfl, hbts, hlen, hrest⟩ := own_bts hown
  have HB1 : Hid (Below w.heap.size w w1) := ((Below.refl _ _).alloc (Nat.le_refl _) _).trans (hb1.mono (by simp))
  have HD1 : Hid (Lies w1 w.heap.size zeroD 24) := (Lies.new w zeroD 24).below hb1 (by simp)
  have HP1 : Hid (Bts A (pad l) w1) := hbts
  clear hown hb1 hbts hlen hrest
  obtain ⟨P, hP⟩ : ∃ P, P = pad l := ⟨_, rfl⟩
  have HP : Hid (P = pad l) := hP
  rw [← hP] at HP1
  rw [← hP]
  have HPR : Hid (P.length % 64 = 0) := by rw [hP]; exact pad_rows l
  have hPL : P.length ≤ 140737488355328 := by
    have := HLL.out
    have h2 := nou_lt l.length
    rw [hP, pad_length]
    omega
  clear hP
  obtain ⟨N, hN⟩ : ∃ N, N = P.length := ⟨_, rfl⟩
  have HN : Hid (N = P.length) := hN
  rw [← hN] at hPL
  rw [← hN]
  clear hN
  have hs1 : w.heap.size + 1 ≤ w1.heap.size := by have := HD1.out.lt; omega
  go_wp2_with fail
  rw [rgu0_spelt]
  have HG0 : Hid (Lies (w1.alloc (.cells (rgu rg0) 49)) w1.heap.size (rgu (eat P 0)) 49) := Lies.new w1 _ _
  have HW0 : Hid (Below w1.heap.size w1 (w1.alloc (.cells (rgu rg0) 49))) := (Below.refl _ _).alloc (Nat.le_refl _) _
  generalize w1.alloc (.cells (rgu rg0) 49) = w2 at HG0 HW0 ⊢
  go_loopw [5] (fun i wr => ∃ q p : Nat, i = .int .i64 p ∧ p ≤ N ∧ Hid (p = 64 * q) ∧ Hid (Lies wr w1.heap.size (rgu (eat P q)) 49) ∧ Hid (Below w1.heap.size w1 wr)) (fun i _ => N - (intOf i).toNat)
  case atStart => exact ⟨0, 0, rfl, by omega, rfl, HG0, HW0⟩
  case round =>
    obtain ⟨q, p, rfl, hp, HPQ, HG, HW⟩ := hrel
    obtain ⟨r, hr⟩ : ∃ r, r = eat P q := ⟨_, rfl⟩
    have HR : Hid (r = eat P q) := hr
    rw [← hr] at HG
    clear hr
    by_cases hlt : p < N
    · have hp64 : p + 64 ≤ N := by
        have h1 := HPQ.out
        have h2 := HPR.out
        rw [← HN.out] at h2
        omega
      have hws : w1.heap.size + 1 ≤ wr.heap.size := by have := HG.out.lt; omega
      go_wp2_with (first | (refine wpList_load_row rfl 49 _ rfl _ rfl (rgu r) 49 _ HG.out Tryd.underlying49 rfl (infoU _) ?_) | (refine wpList_store_row rfl 49 _ _ rfl wr.heap.size rfl _ (rgu r) rfl 49 (Lies.new wr _ _) (infoU _) rfl (rgu_one _) rfl ?_; refine wpList_gen (fun w3 => Hid (Lies w3 w1.heap.size (rgu r) 49) ∧ Hid (Lies w3 wr.heap.size (rgu r) 49) ∧ Hid (Below w1.heap.size w1 w3)) ⟨(HG.out.alloc _).row_other (by omega) _, (Lies.new wr _ _).row _, below_row (HW.out.alloc (by omega) _) (by omega) _⟩ ?_; rintro w3 ⟨HG3, HX3, HW3⟩))
      obtain ⟨m, hm⟩ : ∃ m : Nat → BitVec 32, m = fun j => wd P (64 * q + 4 * j) := ⟨_, rfl⟩
      have HMM : Hid (m = fun j => wd P (64 * q + 4 * j)) := hm
      clear hm
      obtain ⟨X, hX⟩ : ∃ X, X = wr.heap.size := ⟨_, rfl⟩
      have hXG : w1.heap.size + 1 ≤ X := by omega
      rw [← hX] at HX3
      rw [← hX]
      clear hX
      clear HG HW
      go_loopw [7] (fun i wr => ∃ (k : Nat) (x : Rg), k ≤ 64 ∧ i = .int .i64 k ∧ Hid (Lies wr w1.heap.size (rgu r) 49) ∧ Hid (Lies wr X (rgu x) 49) ∧ Hid (Below w1.heap.size w1 wr) ∧ Hid (x = stps m k r)) (fun i _ => 64 - (intOf i).toNat)
      case atStart => exact ⟨0, r, by omega, rfl, HG3, HX3, HW3, rfl⟩
      case round =>
        obtain ⟨k, x, hk, rfl, HGk, HXk, HWk, HS⟩ := hrel
        by_cases hk64 : k < 64
        · obtain ⟨f, hf⟩ : ∃ f, f = ff k x.b x.c x.d := ⟨_, rfl⟩
          have HFF : Hid (f = ff k x.b x.c x.d) := hf
          obtain ⟨K, hK⟩ : ∃ K, K = kk k := ⟨_, rfl⟩
          have HK : Hid (K = kk k) := hK
          obtain ⟨pl, hpl⟩ : ∃ pl, pl = gg k := ⟨_, rfl⟩
          have HPL : Hid (pl = gg k) := hpl
          have pl16 : pl < 16 := by rw [hpl]; exact gg_lt k
          obtain ⟨V, hV⟩ : ∃ V, V = m pl := ⟨_, rfl⟩
          have HV : Hid (V = wd P (p + 4 * pl) ∧ V = m pl) := ⟨by rw [hV, HMM.out, HPQ.out], hV⟩
          clear hf hK hpl hV
          have e1 := add64 x.a f
          obtain ⟨s1, hs1'⟩ : ∃ s1, s1 = x.a.toNat + f.toNat := ⟨_, rfl⟩
          rw [← hs1'] at e1
          have b1 : s1 ≤ 8589934592 := by have := x.a.isLt; have := f.isLt; omega
          have e2 := add64n s1 K (by omega)
          obtain ⟨s2, hs2'⟩ : ∃ s2, s2 = s1 + K.toNat := ⟨_, rfl⟩
          rw [← hs2'] at e2
          have b2 : s2 ≤ 17179869184 := by have := K.isLt; omega
          have e3 := add64n s2 V (by omega)
          obtain ⟨s3, hs3'⟩ : ∃ s3, s3 = s2 + V.toNat := ⟨_, rfl⟩
          rw [← hs3'] at e3
          obtain ⟨F, hF⟩ : ∃ F, F = x.a + (f + K + V) := ⟨_, rfl⟩
          have HF : Hid (F = x.a + (f + K + V)) := hF
          have e4 := rem64 s3 F (by
            rw [hF, hs3', hs2', hs1', BitVec.toNat_add, BitVec.toNat_add, BitVec.toNat_add]
            omega)
          have e5 := wrapF F
          have e6 : IntKind.i64.wrap (4 * (pl : Int)) = ((4 * pl : Nat) : Int) := by rw [IntKind.wrap_i64]; omega
          have e7 : IntKind.i64.wrap ((p : Int) + ((4 * pl : Nat) : Int)) = ((p + 4 * pl : Nat) : Int) := by rw [IntKind.wrap_i64]; omega
          obtain ⟨fp, hfp⟩ : ∃ fp, fp = 4 * pl := ⟨_, rfl⟩
          rw [← hfp] at e6 e7
          obtain ⟨pp, hpp⟩ : ∃ pp, pp = p + fp := ⟨_, rfl⟩
          rw [← hpp] at e7
          have HPP : Hid (pp = p + 4 * pl) := by rw [hpp, hfp]; rfl
          have hpp4 : pp + 4 ≤ N := by omega
          clear hF hs1' hs2' hs3' b1 b2 hfp hpp
          have HS4 : Hid (∀ w', Below wr.heap.size wr w' → w'.cell? ⟨X, 0, none⟩ = some (.int .u64 (x.a.toNat : Int)) ∧ w'.cell? ⟨X, 1, none⟩ = some (.int .u64 (x.b.toNat : Int)) ∧ w'.cell? ⟨X, 2, none⟩ = some (.int .u64 (x.c.toNat : Int)) ∧ w'.cell? ⟨X, 3, none⟩ = some (.int .u64 (x.d.toNat : Int))) := fun w' hb => by
            have h5 := HXk.out.below hb HXk.out.lt
            exact ⟨h5.cell 0, h5.cell 1, h5.cell 2, h5.cell 3⟩
          go_wp2_with fail
          refine wp_region_late (fun w' => w'.cell? ⟨X, 0, none⟩ = some (.int .u64 (x.a.toNat : Int)) ∧ w'.cell? ⟨X, 1, none⟩ = some (.int .u64 (x.b.toNat : Int)) ∧ w'.cell? ⟨X, 2, none⟩ = some (.int .u64 (x.c.toNat : Int)) ∧ w'.cell? ⟨X, 3, none⟩ = some (.int .u64 (x.d.toNat : Int))) 23 (by kernel_rfl) (HS4.out _ (Below.refl _ wr).drew) (fun hHeld => ?_)
          refine wpAnyE_take (i := 0) (d := some 29) (v := ?_) rfl (by kernel_rfl) (by kernel_rfl) (by kernel_rfl) (by kernel_rfl) (fun _ _ _ h => h) rfl rfl ?hy (by assumption) ?_
          case hy => (intro w' hSw; (try dsimp only at hSw); go_simp <;> (try with_reducible rfl))
          simp only [Act.put, List.setIfInBounds_toArray, List.set_cons_zero, List.set_cons_succ]
          refine wpAnyE_take (i := 1) (d := some 30) (v := ?_) rfl (by kernel_rfl) (by kernel_rfl) (by kernel_rfl) (by kernel_rfl) (fun _ _ _ h => h) rfl rfl ?hy (by assumption) ?_
          case hy => (intro w' hSw; (try dsimp only at hSw); go_simp <;> (try with_reducible rfl))
          simp only [Act.put, List.setIfInBounds_toArray, List.set_cons_zero, List.set_cons_succ]
          refine wpAnyE_take (i := 2) (d := some 31) (v := ?_) rfl (by kernel_rfl) (by kernel_rfl) (by kernel_rfl) (by kernel_rfl) (fun _ _ _ h => h) rfl rfl ?hy (by assumption) ?_
          case hy => (intro w' hSw; (try dsimp only at hSw); go_simp <;> (try with_reducible rfl))
          simp only [Act.put, List.setIfInBounds_toArray, List.set_cons_zero, List.set_cons_succ]
          refine wpAnyE_take (i := 3) (d := some 32) (v := ?_) rfl (by kernel_rfl) (by kernel_rfl) (by kernel_rfl) (by kernel_rfl) (fun _ _ _ h => h) rfl rfl ?hy (by assumption) ?_
          case hy => (intro w' hSw; (try dsimp only at hSw); go_simp <;> (try with_reducible rfl))
          simp only [Act.put, List.setIfInBounds_toArray, List.set_cons_zero, List.set_cons_succ]
          refine wpAnyE_take (i := 4) (d := some 33) (v := ?_) rfl (by kernel_rfl) (by kernel_rfl) (by kernel_rfl) (by kernel_rfl) (fun _ _ _ h => h) rfl rfl ?hy (by assumption) ?_
          case hy => (intro w' hSw; (try dsimp only at hSw); go_simp <;> (try with_reducible rfl))
          simp only [Act.put, List.setIfInBounds_toArray, List.set_cons_zero, List.set_cons_succ]
          refine wpAnyE_take (i := 5) (d := some 34) (v := ?_) rfl (by kernel_rfl) (by kernel_rfl) (by kernel_rfl) (by kernel_rfl) (fun _ _ _ h => h) rfl rfl ?hy (by assumption) ?_
          case hy => (intro w' hSw; (try dsimp only at hSw); go_simp <;> (try with_reducible rfl))
          simp only [Act.put, List.setIfInBounds_toArray, List.set_cons_zero, List.set_cons_succ]
          refine wpAnyE_take (i := 6) (d := some 35) (v := ?_) rfl (by kernel_rfl) (by kernel_rfl) (by kernel_rfl) (by kernel_rfl) (fun _ _ _ h => h) rfl rfl ?hy (by assumption) ?_
          case hy => (intro w' hSw; (try dsimp only at hSw); go_simp <;> (try with_reducible rfl))
          simp only [Act.put, List.setIfInBounds_toArray, List.set_cons_zero, List.set_cons_succ]
          refine wpAnyE_take (i := 7) (d := some 36) (v := ?_) rfl (by kernel_rfl) (by kernel_rfl) (by kernel_rfl) (by kernel_rfl) (fun _ _ _ h => h) rfl rfl ?hy (by assumption) ?_
          case hy => (intro w' hSw; (try dsimp only at hSw); go_simp <;> (try with_reducible rfl))
          simp only [Act.put, List.setIfInBounds_toArray, List.set_cons_zero, List.set_cons_succ]
          refine wpAnyE_take (i := 8) (d := some 37) (v := ?_) rfl (by kernel_rfl) (by kernel_rfl) (by kernel_rfl) (by kernel_rfl) (fun _ _ _ h => h) rfl rfl ?hy (by assumption) ?_
          case hy => (intro w' hSw; (try dsimp only at hSw); go_simp <;> (try with_reducible rfl))
          simp only [Act.put, List.setIfInBounds_toArray, List.set_cons_zero, List.set_cons_succ]
          refine wpAnyE_take (i := 11) (d := some 40) (v := ?_) rfl (by kernel_rfl) (by kernel_rfl) (by kernel_rfl) (by kernel_rfl) (fun _ _ _ h => h) rfl rfl ?hy (by assumption) ?_
          case hy => (intro w' hSw; (try dsimp only at hSw); go_simp <;> (try with_reducible rfl))
          simp only [Act.put, List.setIfInBounds_toArray, List.set_cons_zero, List.set_cons_succ]
          refine wpAnyE_take (i := 14) (d := some 43) (v := ?_) rfl (by kernel_rfl) (by kernel_rfl) (by kernel_rfl) (by kernel_rfl) (fun _ _ _ h => h) rfl rfl ?hy (by assumption) ?_
          case hy => (intro w' hSw; (try dsimp only at hSw); go_simp <;> (try with_reducible rfl))
          simp only [Act.put, List.setIfInBounds_toArray, List.set_cons_zero, List.set_cons_succ]
          refine wpAnyE_take (i := 15) (d := some 44) (v := ?_) rfl (by kernel_rfl) (by kernel_rfl) (by kernel_rfl) (by kernel_rfl) (fun _ _ _ h => h) rfl rfl ?hy (by assumption) ?_
          case hy => (intro w' hSw; (try dsimp only at hSw); go_simp <;> (try with_reducible rfl))
          simp only [Act.put, List.setIfInBounds_toArray, List.set_cons_zero, List.set_cons_succ]
          refine wpAnyE_take (i := 16) (d := some 45) (v := ?_) rfl (by kernel_rfl) (by kernel_rfl) (by kernel_rfl) (by kernel_rfl) (fun _ _ _ h => h) rfl rfl ?hy (by assumption) ?_
          case hy => (intro w' hSw; (try dsimp only at hSw); go_simp <;> (try with_reducible rfl))
          simp only [Act.put, List.setIfInBounds_toArray, List.set_cons_zero, List.set_cons_succ]
          refine wpAnyE_one (i := 9) (by kernel_rfl) rfl rfl ?_
          go_simp
          refine (rmixed_any x.b x.c x.d k _).mono ?_
          rintro e w4 ⟨rfl, hw⟩
          subst hw
          rw [← HFF.out]
          refine ⟨hHeld, ?_⟩
          refine wpAnyE_take (i := 10) (d := some 39) (v := ?_) rfl (by kernel_rfl) (by kernel_rfl) (by kernel_rfl) (by kernel_rfl) (fun _ _ _ h => h) rfl rfl ?hy (by assumption) ?_
          case hy => (intro w' hSw; (try dsimp only at hSw); go_simp <;> (try with_reducible rfl))
          simp only [Act.put, List.setIfInBounds_toArray, List.set_cons_zero, List.set_cons_succ]
          clear e1
          refine wpAnyE_one (i := 12) (by kernel_rfl) rfl rfl ?_
          go_simp
          refine (table_any k hk64 _).mono ?_
          rintro e w5 ⟨rfl, hb0⟩
          have hb5 : Below wr.heap.size wr w5 := ⟨hb0.os, hb0.tape, hb0.output, hb0.size, hb0.block⟩
          clear hb0
          rw [← HK.out]
          have hH5 := HS4.out _ hb5
          refine ⟨hH5, ?_⟩
          have HB5 : Hid (Below wr.heap.size wr w5) := hb5
          have HX5 : Hid (Lies w5 X (rgu x) 49) := HXk.out.below hb5 HXk.out.lt
          have HG5 : Hid (Lies w5 w1.heap.size (rgu r) 49) := HGk.out.below hb5 HGk.out.lt
          have HW5 : Hid (Below w1.heap.size w1 w5) := HWk.out.trans (hb5.mono HWk.out.size)
          clear hb5 hHeld HS4
          refine wpAnyE_take (i := 13) (d := some 42) (v := ?_) rfl (by kernel_rfl) (by kernel_rfl) (by kernel_rfl) (by kernel_rfl) (fun _ _ _ h => h) rfl rfl ?hy (by assumption) ?_
          case hy => (intro w' hSw; (try dsimp only at hSw); go_simp <;> (try with_reducible rfl))
          simp only [Act.put, List.setIfInBounds_toArray, List.set_cons_zero, List.set_cons_succ]
          clear e2
          refine wpAnyE_one (i := 17) (by kernel_rfl) rfl rfl ?_
          go_simp
          refine (place_any k hk64 _).mono ?_
          rintro e w6 ⟨rfl, hw⟩
          subst hw
          rw [← HPL.out]
          try refine ⟨hH5, ?_⟩
          refine wpAnyE_take (i := 18) (d := some 47) (v := ?_) rfl (by kernel_rfl) (by kernel_rfl) (by kernel_rfl) (by kernel_rfl) (fun _ _ _ h => h) rfl rfl ?hy (by assumption) ?_
          case hy => (intro w' hSw; (try dsimp only at hSw); go_simp <;> (try with_reducible rfl))
          simp only [Act.put, List.setIfInBounds_toArray, List.set_cons_zero, List.set_cons_succ]
          refine wpAnyE_take (i := 19) (d := some 48) (v := ?_) rfl (by kernel_rfl) (by kernel_rfl) (by kernel_rfl) (by kernel_rfl) (fun _ _ _ h => h) rfl rfl ?hy (by assumption) ?_
          case hy => (intro w' hSw; (try dsimp only at hSw); go_simp <;> (try with_reducible rfl))
          simp only [Act.put, List.setIfInBounds_toArray, List.set_cons_zero, List.set_cons_succ]
          clear e6 e7
          refine wpAnyE_one (i := 20) (by kernel_rfl) rfl rfl ?_
          go_simp
          have hrw := rword_any A P cp pp w6 (HP1.out.below HW5.out) (by rw [← HN.out]; exact hpp4) (by unfold maxLen; rw [← HN.out]; omega)
          rw [← HN.out, HPP.out, ← HV.out.1, ← HPP.out] at hrw
          refine hrw.mono ?_
          clear hrw
          rintro e w7 ⟨rfl, hw⟩
          subst hw
          try refine ⟨hH5, ?_⟩
          refine wpAnyE_take (i := 21) (d := some 50) (v := ?_) rfl (by kernel_rfl) (by kernel_rfl) (by kernel_rfl) (by kernel_rfl) (fun _ _ _ h => h) rfl rfl ?hy (by assumption) ?_
          case hy => (intro w' hSw; (try dsimp only at hSw); go_simp <;> (try with_reducible rfl))
          simp only [Act.put, List.setIfInBounds_toArray, List.set_cons_zero, List.set_cons_succ]
          refine wpAnyE_take (i := 22) (d := some 51) (v := ?_) rfl (by kernel_rfl) (by kernel_rfl) (by kernel_rfl) (by kernel_rfl) (fun _ _ _ h => h) rfl rfl ?hy (by assumption) ?_
          case hy => (intro w' hSw; (try dsimp only at hSw); go_simp <;> (try with_reducible rfl))
          simp only [Act.put, List.setIfInBounds_toArray, List.set_cons_zero, List.set_cons_succ]
          clear e3 e4 e5
          refine wpAnyE_one (i := 23) (by kernel_rfl) rfl rfl ?_
          go_simp
          refine wpAnyE_done (by kernel_rfl) ?_ _
          clear hH5
          have HGc : Hid True := trivial
          obtain ⟨sh, hsh⟩ : ∃ sh, sh = ss k := ⟨_, rfl⟩
          have HSH : Hid (sh = ss k) := hsh
          have sh24 : sh < 24 := by rw [hsh]; exact ss_lt k hk64
          clear hsh
          obtain ⟨R, hR⟩ : ∃ R, R = F.rotateLeft sh := ⟨_, rfl⟩
          have HRO : Hid (R = F.rotateLeft sh) := hR
          clear hR
          have e1 := add64 x.b R
          obtain ⟨t1, ht1⟩ : ∃ t1, t1 = x.b.toNat + R.toNat := ⟨_, rfl⟩
          rw [← ht1] at e1
          obtain ⟨y1, hy1⟩ : ∃ y1, y1 = x.b + R := ⟨_, rfl⟩
          have HY1 : Hid (y1 = x.b + R) := hy1
          have e2 := rem64 t1 y1 (by rw [hy1, ht1, BitVec.toNat_add])
          have e3 := wrapF y1
          clear ht1 hy1 HGc
          have HS7 : Hid (∀ w', Below w7.heap.size w7 w' → w'.cell? ⟨X, 1, none⟩ = some (.int .u64 (x.b.toNat : Int))) := fun w' hb => (HX5.out.below hb HX5.out.lt).cell 1
          go_wp2_with fail
          refine wp_region_late (fun w' => w'.cell? ⟨X, 1, none⟩ = some (.int .u64 (x.b.toNat : Int))) 8 (by kernel_rfl) (HS7.out _ (Below.refl _ w7).drew) (fun hHeld => ?_)
          refine wpAnyE_take (i := 0) (d := some 52) (v := ?_) rfl (by kernel_rfl) (by kernel_rfl) (by kernel_rfl) (by kernel_rfl) (fun _ _ _ h => h) rfl rfl ?hy (by assumption) ?_
          case hy => (intro w' hSw; (try dsimp only at hSw); go_simp <;> (try with_reducible rfl))
          simp only [Act.put, List.setIfInBounds_toArray, List.set_cons_zero, List.set_cons_succ]
          refine wpAnyE_take (i := 1) (d := some 53) (v := ?_) rfl (by kernel_rfl) (by kernel_rfl) (by kernel_rfl) (by kernel_rfl) (fun _ _ _ h => h) rfl rfl ?hy (by assumption) ?_
          case hy => (intro w' hSw; (try dsimp only at hSw); go_simp <;> (try with_reducible rfl))
          simp only [Act.put, List.setIfInBounds_toArray, List.set_cons_zero, List.set_cons_succ]
          refine wpAnyE_take (i := 2) (d := some 54) (v := ?_) rfl (by kernel_rfl) (by kernel_rfl) (by kernel_rfl) (by kernel_rfl) (fun _ _ _ h => h) rfl rfl ?hy (by assumption) ?_
          case hy => (intro w' hSw; (try dsimp only at hSw); go_simp <;> (try with_reducible rfl))
          simp only [Act.put, List.setIfInBounds_toArray, List.set_cons_zero, List.set_cons_succ]
          refine wpAnyE_take (i := 3) (d := some 55) (v := ?_) rfl (by kernel_rfl) (by kernel_rfl) (by kernel_rfl) (by kernel_rfl) (fun _ _ _ h => h) rfl rfl ?hy (by assumption) ?_
          case hy => (intro w' hSw; (try dsimp only at hSw); go_simp <;> (try with_reducible rfl))
          simp only [Act.put, List.setIfInBounds_toArray, List.set_cons_zero, List.set_cons_succ]
          refine wpAnyE_one (i := 4) (by kernel_rfl) rfl rfl ?_
          go_simp
          refine (rturns_any k hk64 _).mono ?_
          rintro e w8 ⟨rfl, hb0⟩
          have hb8 : Below w7.heap.size w7 w8 := ⟨hb0.os, hb0.tape, hb0.output, hb0.size, hb0.block⟩
          clear hb0
          rw [← HSH.out]
          have hH8 := HS7.out _ hb8
          refine ⟨hH8, ?_⟩
          have HX8 : Hid (Lies w8 X (rgu x) 49) := HX5.out.below hb8 HX5.out.lt
          have HG8 : Hid (Lies w8 w1.heap.size (rgu r) 49) := HG5.out.below hb8 HG5.out.lt
          have HW8 : Hid (Below w1.heap.size w1 w8) := HW5.out.trans (hb8.mono HW5.out.size)
          clear hb8 hHeld HS7
          refine wpAnyE_one (i := 5) (by kernel_rfl) rfl rfl ?_
          go_simp
          refine (rturned_any F sh sh24 _).mono ?_
          rintro e w9 ⟨rfl, hw⟩
          subst hw
          rw [← HRO.out]
          try refine ⟨hH8, ?_⟩
          refine wpAnyE_take (i := 6) (d := some 58) (v := ?_) rfl (by kernel_rfl) (by kernel_rfl) (by kernel_rfl) (by kernel_rfl) (fun _ _ _ h => h) rfl rfl ?hy (by assumption) ?_
          case hy => (intro w' hSw; (try dsimp only at hSw); go_simp <;> (try with_reducible rfl))
          simp only [Act.put, List.setIfInBounds_toArray, List.set_cons_zero, List.set_cons_succ]
          refine wpAnyE_take (i := 7) (d := some 59) (v := ?_) rfl (by kernel_rfl) (by kernel_rfl) (by kernel_rfl) (by kernel_rfl) (fun _ _ _ h => h) rfl rfl ?hy (by assumption) ?_
          case hy => (intro w' hSw; (try dsimp only at hSw); go_simp <;> (try with_reducible rfl))
          simp only [Act.put, List.setIfInBounds_toArray, List.set_cons_zero, List.set_cons_succ]
          clear e1 e2 e3
          refine wpAnyE_one (i := 8) (by kernel_rfl) rfl rfl ?_
          go_simp
          refine wpAnyE_done (by kernel_rfl) ?_ _
          clear hH8
          have c1 : w9.cell? ⟨X, 1, none⟩ = some (.int .u64 (x.b.toNat : Int)) := HX8.out.cell 1
          have c2 : w9.cell? ⟨X, 2, none⟩ = some (.int .u64 (x.c.toNat : Int)) := HX8.out.cell 2
          have c3 : w9.cell? ⟨X, 3, none⟩ = some (.int .u64 (x.d.toNat : Int)) := HX8.out.cell 3
          go_wp2_with (refine wpList_store_row rfl 49 _ _ rfl X rfl (rgu x) (rgu ⟨x.d, y1, x.b, x.c⟩) rfl 49 HX8.out (infoU _) rfl (rgu_one _) rfl ?_; refine wpList_gen (fun w3 => Hid (Lies w3 w1.heap.size (rgu r) 49) ∧ Hid (Lies w3 X (rgu ⟨x.d, y1, x.b, x.c⟩) 49) ∧ Hid (Below w1.heap.size w1 w3)) ⟨HG8.out.row_other (by omega) _, HX8.out.row _, below_row HW8.out (by omega) _⟩ ?_; clear c1 c2 c3; rintro w3 ⟨HG9, HX9, HW9⟩)
          go_roundw
          case rel =>
            refine ⟨k + 1, ⟨x.d, y1, x.b, x.c⟩, by omega, by go_num, HG9, HX9, HW9, ?_⟩
            show _ = stp m k (stps m k r)
            rw [← HS.out, HY1.out, HRO.out, HF.out, HFF.out, HK.out, HV.out.2, HPL.out, HSH.out]
            rfl
          case measure => simp [intOf]; omega
        · have hI : (k : Int) = 64 := by omega
          rw [hI]
          have HS' : Hid (x = stps m 64 r) := by
            have := HS.out
            rw [show k = 64 by omega] at this
            exact this
          clear HS hI
          go_wp2_with fail
          go_loopw [10] (fun i wr => ∃ (j : Nat) (c : Array Value), j ≤ 4 ∧ i = .int .i64 j ∧ Hid (Lies wr w1.heap.size c 49) ∧ Hid (Lies wr X (rgu x) 49) ∧ Hid (Below w1.heap.size w1 wr) ∧ Hid (AddedU j c r x)) (fun i _ => 4 - (intOf i).toNat)
          case atStart => exact ⟨0, rgu r, by omega, rfl, HGk, HXk, HWk, AddedU.zero r x⟩
          case round =>
            obtain ⟨j, c, hj, rfl, HGj, HXj, HWj, HA⟩ := hrel
            by_cases hj4 : j < 4
            · have hc1 : wr.cell? ⟨w1.heap.size, j, none⟩ = some (.int .u64 ((r.at j).toNat : Int)) := (HGj.out.cell j).trans ((HA.out.rest j (Nat.le_refl _)).trans (rgu_at r j hj4))
              have hc2 : wr.cell? ⟨X, j, none⟩ = some (.int .u64 ((x.at j).toNat : Int)) := (HXj.out.cell j).trans (rgu_at x j hj4)
              have hfr := HGj.out.frozen j
              have jI : (j : Int) < 4 := by omega
              obtain ⟨u, hu⟩ : ∃ u, u = r.at j := ⟨_, rfl⟩
              obtain ⟨v, hv⟩ : ∃ v, v = x.at j := ⟨_, rfl⟩
              have HUV : Hid (u = r.at j ∧ v = x.at j) := ⟨hu, hv⟩
              rw [← hu] at hc1
              rw [← hv] at hc2
              clear hu hv
              have e1 := add64 u v
              obtain ⟨t1, ht1⟩ : ∃ t1, t1 = u.toNat + v.toNat := ⟨_, rfl⟩
              rw [← ht1] at e1
              obtain ⟨z, hz⟩ : ∃ z, z = u + v := ⟨_, rfl⟩
              have HZZ : Hid (z = u + v) := hz
              have e2 := rem64 t1 z (by rw [hz, ht1, BitVec.toNat_add])
              have e3 := wrapF z
              clear ht1 hz
              go_wp2_with fail
              refine wp_region_late (fun w' => w'.cell? ⟨w1.heap.size, j, none⟩ = some (.int .u64 (u.toNat : Int)) ∧ w'.cell? ⟨X, j, none⟩ = some (.int .u64 (v.toNat : Int))) 10 (by kernel_rfl) ⟨hc1, hc2⟩ (fun hHeld => ?_)
              refine wpAnyE_take (i := 0) (d := some 72) (v := ?_) rfl (by kernel_rfl) (by kernel_rfl) (by kernel_rfl) (by kernel_rfl) (fun _ _ _ h => h) rfl rfl ?hy (by assumption) ?_
              case hy => (intro w' hSw; (try dsimp only at hSw); go_simp <;> (try with_reducible rfl))
              simp only [Act.put, List.setIfInBounds_toArray, List.set_cons_zero, List.set_cons_succ]
              refine wpAnyE_take (i := 1) (d := some 73) (v := ?_) rfl (by kernel_rfl) (by kernel_rfl) (by kernel_rfl) (by kernel_rfl) (fun _ _ _ h => h) rfl rfl ?hy (by assumption) ?_
              case hy => (intro w' hSw; (try dsimp only at hSw); go_simp <;> (try with_reducible rfl))
              simp only [Act.put, List.setIfInBounds_toArray, List.set_cons_zero, List.set_cons_succ]
              refine wpAnyE_take (i := 2) (d := some 74) (v := ?_) rfl (by kernel_rfl) (by kernel_rfl) (by kernel_rfl) (by kernel_rfl) (fun _ _ _ h => h) rfl rfl ?hy (by assumption) ?_
              case hy => (intro w' hSw; (try dsimp only at hSw); go_simp <;> (try with_reducible rfl))
              simp only [Act.put, List.setIfInBounds_toArray, List.set_cons_zero, List.set_cons_succ]
              refine wpAnyE_take (i := 3) (d := some 75) (v := ?_) rfl (by kernel_rfl) (by kernel_rfl) (by kernel_rfl) (by kernel_rfl) (fun _ _ _ h => h) rfl rfl ?hy (by assumption) ?_
              case hy => (intro w' hSw; (try dsimp only at hSw); go_simp <;> (try with_reducible rfl))
              simp only [Act.put, List.setIfInBounds_toArray, List.set_cons_zero, List.set_cons_succ]
              refine wpAnyE_take (i := 4) (d := some 76) (v := ?_) rfl (by kernel_rfl) (by kernel_rfl) (by kernel_rfl) (by kernel_rfl) (fun _ _ _ h => h) rfl rfl ?hy (by assumption) ?_
              case hy => (intro w' hSw; (try dsimp only at hSw); go_simp <;> (try with_reducible rfl))
              simp only [Act.put, List.setIfInBounds_toArray, List.set_cons_zero, List.set_cons_succ]
              refine wpAnyE_take (i := 5) (d := some 77) (v := ?_) rfl (by kernel_rfl) (by kernel_rfl) (by kernel_rfl) (by kernel_rfl) (fun _ _ _ h => h) rfl rfl ?hy (by assumption) ?_
              case hy => (intro w' hSw; (try dsimp only at hSw); go_simp <;> (try with_reducible rfl))
              simp only [Act.put, List.setIfInBounds_toArray, List.set_cons_zero, List.set_cons_succ]
              refine wpAnyE_take (i := 6) (d := some 78) (v := ?_) rfl (by kernel_rfl) (by kernel_rfl) (by kernel_rfl) (by kernel_rfl) (fun _ _ _ h => h) rfl rfl ?hy (by assumption) ?_
              case hy => (intro w' hSw; (try dsimp only at hSw); go_simp <;> (try with_reducible rfl))
              simp only [Act.put, List.setIfInBounds_toArray, List.set_cons_zero, List.set_cons_succ]
              refine wpAnyE_take (i := 7) (d := some 79) (v := ?_) rfl (by kernel_rfl) (by kernel_rfl) (by kernel_rfl) (by kernel_rfl) (fun _ _ _ h => h) rfl rfl ?hy (by assumption) ?_
              case hy => (intro w' hSw; (try dsimp only at hSw); go_simp <;> (try with_reducible rfl))
              simp only [Act.put, List.setIfInBounds_toArray, List.set_cons_zero, List.set_cons_succ]
              refine wpAnyE_take (i := 8) (d := some 80) (v := ?_) rfl (by kernel_rfl) (by kernel_rfl) (by kernel_rfl) (by kernel_rfl) (fun _ _ _ h => h) rfl rfl ?hy (by assumption) ?_
              case hy => (intro w' hSw; (try dsimp only at hSw); go_simp <;> (try with_reducible rfl))
              simp only [Act.put, List.setIfInBounds_toArray, List.set_cons_zero, List.set_cons_succ]
              refine wpAnyE_take (i := 9) (d := some 81) (v := ?_) rfl (by kernel_rfl) (by kernel_rfl) (by kernel_rfl) (by kernel_rfl) (fun _ _ _ h => h) rfl rfl ?hy (by assumption) ?_
              case hy => (intro w' hSw; (try dsimp only at hSw); go_simp <;> (try with_reducible rfl))
              simp only [Act.put, List.setIfInBounds_toArray, List.set_cons_zero, List.set_cons_succ]
              refine wpAnyE_one (i := 10) (by kernel_rfl) rfl rfl ?_
              go_simp
              refine wpAnyE_done (by kernel_rfl) ?_ _
              clear hc1 hc2 hfr hHeld e1 e2 e3
              go_wp2
              go_roundw
              case rel =>
                refine ⟨j + 1, c.setIfInBounds j (.int .u64 (z.toNat : Int)), by omega, by go_num, (HGj.out.set j _).drew, (HXj.out.set_other (by simp; omega) _).drew, (HWj.out.setCell (by simp) _).drew, ?_⟩
                rw [HZZ.out, HUV.out.1, HUV.out.2]
                exact HA.out.next hj4
              case measure => simp [intOf]; omega
            · obtain rfl : j = 4 := by omega
              obtain rfl := HA.out.upto.all (rgu_size _)
              have HE : Hid (addR r x = eat P (q + 1)) := by
                show addR r x = blk (eat P q) (fun j => wd P (64 * q + 4 * j))
                unfold blk
                rw [HS'.out, HMM.out, HR.out]
              go_wp2
              go_roundw
              case rel => exact ⟨q + 1, p + 64, by go_num, by omega, by show _ = _; rw [HPQ.out]; omega, by rw [← HE.out]; exact HGj, HWj⟩
              case measure => simp [intOf]; omega
    · have HPN : Hid (rowV (dig r) = rowV (md5 l)) := by
        show _ = _
        have h1 := HPQ.out
        have h2 := HN.out
        have h3 : q = (pad l).length / 64 := by rw [← HP.out]; omega
        rw [HR.out, h3, HP.out]
        rfl
      clear HP1
      go_wp2_with fail
      rw [zeroD_spelt]
      obtain ⟨O, hO⟩ : ∃ O, O = wr.heap.size := ⟨_, rfl⟩
      have hOG : w1.heap.size + 1 ≤ O := by have := HG.out.lt; omega
      have HO0 : Hid (Lies (wr.alloc (.cells zeroD 24)) O zeroD 24) := by rw [hO]; exact Lies.new wr _ _
      have HG0' : Hid (Lies (wr.alloc (.cells zeroD 24)) w1.heap.size (rgu r) 49) := HG.out.alloc _
      have HW0' : Hid (Below w1.heap.size w1 (wr.alloc (.cells zeroD 24))) := HW.out.alloc (by omega) _
      rw [← hO]
      clear hO
      generalize wr.alloc (.cells zeroD 24) = w3 at HO0 HG0' HW0' ⊢
      clear HG HW
      go_loopw [12] (fun i wr => ∃ (j : Nat) (c : Array Value), j ≤ 4 ∧ i = .int .i64 j ∧ Hid (Lies wr w1.heap.size (rgu r) 49) ∧ Hid (Lies wr O c 24) ∧ Hid (Below w1.heap.size w1 wr) ∧ Hid (Upto (4 * j) c (rowV (dig r)))) (fun i _ => 4 - (intOf i).toNat)
      case atStart => exact ⟨0, zeroD, by omega, rfl, HG0', HO0, HW0', by rw [rowV_size, dig_length]; rfl, fun j h => by omega⟩
      case round =>
        obtain ⟨j, c, hj, rfl, HGj, HOj, HWj, HU⟩ := hrel
        by_cases hj4 : j < 4
        · have hc1 : wr.cell? ⟨w1.heap.size, j, none⟩ = some (.int .u64 ((r.at j).toNat : Int)) := (HGj.out.cell j).trans (rgu_at r j hj4)
          obtain ⟨v, hv⟩ : ∃ v, v = r.at j := ⟨_, rfl⟩
          have HV : Hid (v = r.at j) := hv
          rw [← hv] at hc1
          clear hv
          go_wp2_with fail
          clear hc1
          go_loopw [13, 14] (fun y i wr => ∃ (k z : Nat) (c : Array Value), k ≤ 4 ∧ i = .int .i64 k ∧ y = .int .u64 z ∧ z < 4294967296 ∧ Hid (z = v.toNat / 256 ^ k) ∧ Hid (Lies wr w1.heap.size (rgu r) 49) ∧ Hid (Lies wr O c 24) ∧ Hid (Below w1.heap.size w1 wr) ∧ Hid (Upto (4 * j + k) c (rowV (dig r)))) (fun _ i _ => 4 - (intOf i).toNat)
          case atStart => exact ⟨0, v.toNat, c, by omega, rfl, rfl, v.isLt, by show _ = _; simp, HGj, HOj, HWj, HU⟩
          case round =>
            obtain ⟨k, z, c, hk, rfl, rfl, hzb, HZ, HGk, HOk, HWk, HUk⟩ := hrel
            by_cases hk4 : k < 4
            · obtain ⟨t, ht⟩ : ∃ t, t = 4 * j + k := ⟨_, rfl⟩
              have htI : 4 * (j : Int) + (k : Int) = (t : Int) := by omega
              have ht16 : t < 16 := by omega
              have htc : t < c.size := by rw [HUk.out.size, rowV_size, dig_length]; exact ht16
              have HTT : Hid (t = 4 * j + k) := ht
              clear ht
              have hc2 : wr.cell? ⟨O, t, none⟩ = some c[t] := (HOk.out.cell t).trans (Array.getElem?_eq_getElem htc)
              have hfr := HOk.out.frozen t
              obtain ⟨b, hb⟩ : ∃ b, b = UInt8.ofNat z := ⟨_, rfl⟩
              have hbI : (z : Int) % 256 = (b.toNat : Int) := by rw [hb]; exact byte_of z
              have HBB : Hid (b = UInt8.ofNat z) := hb
              clear hb
              go_wp2
              clear hc2 hfr hbI htI
              go_roundw
              case rel =>
                refine ⟨k + 1, z / 256, _, by omega, by go_num, by go_num, by omega, ?_, HGk.out.set_other (by simp; omega) _, HOk.out.set t _, HWk.out.setCell (by simp; omega) _, ?_⟩
                · show _ = _
                  rw [HZ.out, Nat.div_div_eq_div_mul, Nat.pow_succ]
                · have hu := HUk.out
                  rw [← HTT.out] at hu
                  rw [show 4 * j + (k + 1) = t + 1 by rw [HTT.out]; omega]
                  refine hu.next ?_
                  rw [rowV_at _ t (by rw [dig_length]; exact ht16), dig_at, HBB.out, HZ.out, show t / 4 = j by rw [HTT.out]; omega, show t % 4 = k by rw [HTT.out]; omega, ← HV.out]
                  rfl
              case measure => simp [intOf]; omega
            · obtain rfl : k = 4 := by omega
              go_wp2
              go_roundw
              case rel => exact ⟨j + 1, c, by omega, by go_num, HGk, HOk, HWk, by rw [show 4 * (j + 1) = 4 * j + 4 by omega]; exact HUk⟩
              case measure => simp [intOf]; omega
        · obtain rfl : j = 4 := by omega
          obtain rfl := HU.out.all (show (rowV (dig r)).size = 4 * 4 by rw [rowV_size, dig_length])
          clear HU
          rw [HPN.out] at HOj
          have HDj : Hid (Lies wr w.heap.size zeroD 24) := HD1.out.below HWj.out (by omega)
          have HBj : Hid (Below w.heap.size w wr) := HB1.out.trans (HWj.out.mono (by omega))
          go_wp2_with (first | (refine wpList_load_row rfl 24 _ rfl _ rfl (rowV (md5 l)) 24 _ HOj.out Tryd.underlying24 rfl (infoD' _) ?_) | (refine wpList_store_row rfl 24 _ _ rfl w.heap.size rfl zeroD (rowV (md5 l)) rfl 24 HDj.out (infoD' _) (by rw [rowV_size, md5_length]; rfl) (rowV_one _) rfl ?_))
          refine bodyPost_ret (v := .agg (rowV (md5 l))) ?_ rfl ⟨rfl, below_row HBj.out (Nat.le_refl _) _⟩
          exact results_cell_row rfl _ _ _ 24 _ (0, 0) _ rfl (HDj.out.row _) Tryd.underlying24 rfl (infoD' _)
end Go.Proofs.YtlkflikhbkhpeabDoor
