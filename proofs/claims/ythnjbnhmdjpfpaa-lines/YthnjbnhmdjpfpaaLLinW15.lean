/-
  FramerLines' walk.
-/
import Derived.Test.YthnjbnhmdjpfpaaPy15
import Derived.Test.YthnjbnhmdjpfpaaLm15
import Derived.Test.YthnjbnhmdjpfpaaFp15
import Derived.Lib.AppendStr
import Derived.Lib.SmallJoins
import Derived.Deep.Strs
import Derived.ProofKit
import Derived.ChangeMaps5
import Derived.OpenShut
import Derived.SizedLaws
namespace Go.Proofs.Ythnjbnhmdjpfpaa
open Go.ChangeShapes Go.WideShapes Go.ChangeAt Go.RowKit

/-- Texts in memory. -/
def Txl (a : Option Addr) (L : List ByteArray) (w : World) : Prop := L = [] ∨ ∃ g o, a = some ⟨g, o, none⟩ ∧ g < w.heap.size ∧ ∀ j (h : j < L.length), w.cell? ⟨g, o + j, none⟩ = some (.string L[j])
theorem Txl.below {a : Option Addr} {L : List ByteArray} {w w' : World} (h : Txl a L w) (hb : Below w.heap.size w w') : Txl a L w' := by
  rcases h with h | ⟨g, o, e, hg, hc⟩
  · exact .inl h
  · exact .inr ⟨g, o, e, Nat.lt_of_lt_of_le hg hb.size, fun j hj => (hb.cell (p := ⟨g, o + j, none⟩) hg).trans (hc j hj)⟩
theorem Txl.take {a : Option Addr} {L : List ByteArray} {w : World} (h : Txl a L w) (n : Nat) : Txl a (L.take n) w := by
  rcases h with rfl | ⟨g, o, e, hg, hr⟩
  · exact .inl (by simp)
  · refine .inr ⟨g, o, e, hg, fun j hj => ?_⟩
    have hj' : j < L.length := by rw [List.length_take] at hj; omega
    rw [List.getElem_take]
    exact hr j hj'
set_option maxRecDepth 100000 in
theorem open_txl {H : Type} {enc : TypeId × Value → H} {W : World} {a : Option Addr} {len cap : Nat} {d : DataW H} {p : List MemPlace}
    (h : DataW.Trod enc Try.prog W 0 (fun _ => true) true 65 (.slice a len cap) d p) :
    ∃ L : List ByteArray, L.length = len ∧ Txl a L W ∧ len ≤ cap ∧ cap ≤ 9223372036854775807 ∧ ∀ s ∈ L, s.size ≤ 9223372036854775807 := by
  obtain ⟨fuel, hf⟩ := h
  rcases Go.Deep.open_strs Try.underlying65 Try.underlying9 (by kernel_rfl) hf with ⟨e, _⟩ | ⟨ad, len', cap', m, Sx, e, _, hl, hcm, hm, _, hc⟩
  · simp [Value.cells] at e
    obtain ⟨rfl, rfl, rfl⟩ := e
    exact ⟨[], rfl, .inl rfl, Nat.le_refl _, by decide, fun s hs => by cases hs⟩
  · simp [Value.cells] at e
    obtain ⟨rfl, rfl, rfl⟩ := e
    have hlm : len ≤ m := by rw [hm]; split <;> omega
    refine ⟨(List.range len).map Sx, by simp, ?_, hl, by unfold maxLen at hcm; omega, fun s hs => ?_⟩
    · by_cases h0 : len = 0
      · subst h0
        exact .inl rfl
      · obtain ⟨b, off, spot⟩ := ad
        have hc0 := (hc 0 (by omega)).1
        have hspot : spot = none := by simpa [Addr.add] using World.cell?_spot hc0
        subst hspot
        refine .inr ⟨b, off, rfl, World.block_lt_of_cell? W _ hc0, fun j hj => ?_⟩
        rw [List.length_map, List.length_range] at hj
        have := (hc j (by omega)).1
        rw [Addr.add_lit] at this
        rw [this, List.getElem_map, List.getElem_range]
    · obtain ⟨i, hi, rfl⟩ := List.mem_map.1 hs
      have := (hc i (by have := List.mem_range.1 hi; omega)).2
      unfold maxLen at this
      omega
/-- Rows of things of two kinds are apart. -/
theorem own_neT {w : World} {B B' t t' k k' n n' : Nat} {v v' : Value} {xs xs' : List Value} (h : w.ownsRow B t k v n xs) (h' : w.ownsRow B' t' k' v' n' xs') (ht : t ≠ t') : ∀ g, v.ownBlock = some g → v'.ownBlock ≠ some g := by
  intro g hg hg'
  rcases h.2 with ⟨rfl, _⟩ | ⟨g1, cap, cur, rfl, _, h1, _⟩
  · cases hg
  · cases hg
    rcases h'.2 with ⟨rfl, _⟩ | ⟨g2, cap', cur', rfl, _, h2, _⟩
    · cases hg'
    · cases hg'
      rw [h1] at h2
      injection h2 with h2
      injection h2 with _ h3
      exact ht h3
def rowB (p : List UInt8) : List UInt8 := p ++ [13, 10]
def lnE (p : List UInt8) : Ie := ⟨.line p, none, 0⟩
theorem rows_le (M : Nat) : ∀ (ps : List (List UInt8)), (∀ p ∈ ps, p.length ≤ M) → (ps.flatMap rowB).length ≤ (M + 2) * ps.length
  | [], _ => by simp
  | p :: ps, h => by
    have h1 := rows_le M ps (fun x hx => h x (by simp [hx]))
    have h2 := h p (by simp)
    rw [List.flatMap_cons, List.length_append, List.length_cons, Nat.mul_add, Nat.mul_one]
    simp only [rowB, List.length_append, List.length_cons, List.length_nil]
    omega
theorem rows_take (ps : List (List UInt8)) (i : Nat) (h : i < ps.length) : (ps.take (i + 1)).flatMap rowB = (ps.take i).flatMap rowB ++ (ps[i] ++ [13, 10]) := by
  rw [List.take_succ_eq_append_getElem h, List.flatMap_append]
  simp [rowB]
namespace framerLines
set_option maxRecDepth 100000 in
set_option maxHeartbeats 8000000 in
theorem walk {w : World} (most : Int) (_ : -9223372036854775808 ≤ most ∧ most ≤ 9223372036854775807) (a1 : Option Addr) (L0 : List ByteArray) (cap1 : Nat) (hq : Txl a1 L0 w) (hc1 : L0.length ≤ cap1) (hcm1 : cap1 ≤ 9223372036854775807) (hsz : ∀ s ∈ L0, s.size ≤ 9223372036854775807)
    (a2 : Option Addr) (cl : List UInt8) (cap2 : Nat) (hcb : Bts a2 cl w) (hcl : cl.length ≤ 1048576) (_ : cl.length ≤ cap2) (_ : a2 = none → cap2 = 0) (_ : cap2 ≤ 9223372036854775807) :
    Calls Try.prog 6 #[.int .i64 most, .slice a1 L0.length cap1, .slice a2 cl.length cap2] w fun z w' => z = .returned (.bool true) ∧ Below w.heap.size w w' := by
  have HHD := lhead_any w
  obtain ⟨T, hT⟩ : ∃ T, T = L0.take 4096 := ⟨_, rfl⟩
  have hTl : T.length ≤ 4096 := by rw [hT, List.length_take]; omega
  have hTc : T.length ≤ cap1 := by rw [hT, List.length_take]; omega
  have HQ0 : Hid (Txl a1 T w) := by rw [hT]; exact hq.take 4096
  have HSZ : Hid (∀ s ∈ T, s.size ≤ 9223372036854775807) := fun s hs => hsz s (by rw [hT] at hs; exact List.mem_of_mem_take hs)
  obtain ⟨m, hm⟩ : ∃ m, m = liN most := ⟨_, rfl⟩
  have hm1 : okL m ∧ 1 ≤ m ∧ m ≤ 16777216 := by
    have := liN_ok most
    rw [← hm] at this
    exact ⟨this.1, this.2.1, this.2.2⟩
  obtain ⟨M, hM⟩ : ∃ M, M = min m 1024 := ⟨_, rfl⟩
  have hMb : M ≤ 1024 ∧ M ≤ m := by omega
  obtain ⟨ps, hps⟩ : ∃ ps, ps = T.map (fun s => plG M [] s.data.toList) := ⟨_, rfl⟩
  have HPL : Hid (ps.length = T.length) := by rw [hps]; exact List.length_map ..
  have HPE : Hid (∀ i (h : i < T.length) (h2 : i < ps.length), ps[i] = plG M [] T[i].data.toList) := fun i h h2 => by
    subst hps
    exact List.getElem_map ..
  have HPO : Hid (∀ p ∈ ps, bareB p = false ∧ p.length ≤ M) := fun p hp => by
    rw [hps] at hp
    obtain ⟨s, _, rfl⟩ := List.mem_map.1 hp
    exact plG_ok M _ [] rfl (by simp)
  have HLI := llimits_any most 0 0 0 0 0
  rw [← hm, liN_zero] at HLI
  have HLIM : Hid (∀ wx, Calls Try.prog 24 #[.agg #[.int .i64 most, .int .i64 0, .int .i64 0, .int .i64 0, .int .i64 0, .int .i64 0]] wx fun z w' => z = .returned (.agg #[.int .i64 (m : Int), .int .i64 1, .int .i64 1, .int .i64 1, .int .i64 1, .int .i64 1]) ∧ Below wx.heap.size wx w') := fun wx => HLI wx
  have HCB : Hid (Bts a2 cl w) := hcb
  have HMK : Hid (m = liN most) := hm
  have HPS : Hid (ps = T.map (fun s => plG M [] s.data.toList)) := hps
  clear hq hsz hcb hps HLI hm
  go_enter Try.func6, Try.ntmps6
  go_wp2_with fail
  refine HHD.mono ?_
  rintro e w1 ⟨rfl, hB⟩
  have HB1 : Hid (Below w.heap.size w w1) := hB
  clear hB HHD
  go_wp2_with fail
  refine (HLIM.out w1).mono ?_
  rintro e w2 ⟨rfl, hB2⟩
  obtain ⟨W3, hW3⟩ : ∃ W3, W3 = w2.alloc (.cells #[.int .i64 (m : Int), .int .i64 1, .int .i64 1, .int .i64 1, .int .i64 1, .int .i64 1] 23) := ⟨_, rfl⟩
  have hb3 : Below w2.heap.size w2 W3 := by subst hW3; exact (Below.refl _ _).alloc (Nat.le_refl _) _
  have hb13 : Below w1.heap.size w1 W3 := hB2.trans (hb3.mono hB2.size)
  have HB3 : Hid (Below w.heap.size w W3) := HB1.out.trans (hb13.mono HB1.out.size)
  have HX3 : Hid (Lies W3 w2.heap.size #[.int .i64 (m : Int), .int .i64 1, .int .i64 1, .int .i64 1, .int .i64 1, .int .i64 1] 23) := by subst hW3; exact Lies.new w2 _ _
  have HWW3 : Hid (w2.alloc (.cells #[.int .i64 (m : Int), .int .i64 1, .int .i64 1, .int .i64 1, .int .i64 1, .int .i64 1] 23) = W3) := hW3.symm
  have HQ3 : Hid (Txl a1 T W3) := HQ0.out.below HB3.out
  have HCB3 : Hid (Bts a2 cl W3) := HCB.out.below HB3.out
  clear hB2 hb3 hb13 hW3 HLIM HQ0 HCB HB1
  go_upto_if 23 with (rw [HWW3.out])
  go_cut [1] from 21 to 25 (fun v wc => wc = W3 ∧ v = .slice a1 T.length cap1)
  case first =>
    by_cases hbig : 4096 < L0.length
    · have hbig' : (4096 : Int) < (L0.length : Int) := by omega
      have hLn : T.length = 4096 := by rw [hT, List.length_take]; omega
      have hcb : (4096 : Int) ≤ (cap1 : Int) := by omega
      have HLN2 : Hid (T.length = 4096) := hLn
      clear hT hLn
      go_wp2_with fail
      go_meet
      exact ⟨rfl, by rw [HLN2.out]⟩
    · have hbig' : ¬ (4096 : Int) < (L0.length : Int) := by omega
      have HLe : Hid (T = L0) := by rw [hT]; exact List.take_of_length_le (by omega)
      clear hT
      go_wp2_with fail
      go_meet
      exact ⟨rfl, by rw [HLe.out]⟩
  case rest =>
    obtain ⟨rfl, rfl⟩ := hcut
    obtain ⟨V, hVV⟩ : ∃ V, V = wc := ⟨_, rfl⟩
    subst hVV
    clear hT HWW3
    go_wp2_with fail
    go_loopw [8, 9, 28] (fun vb vw iv wr => ∃ i : Nat, i ≤ T.length ∧ iv = .int .i64 i ∧ Hid (wr.ownsRow V.heap.size 5 1 vb ((ps.take i).flatMap rowB).length (cellsB ((ps.take i).flatMap rowB))) ∧ Hid (Ow celI 50 5 wr vw ((ps.take i).map lnE)) ∧ Hid (∀ g, vw.ownBlock = some g → V.heap.size ≤ g) ∧ Hid (Below V.heap.size V wr)) (fun _ _ iv _ => T.length - (intOf iv).toNat)
    case atStart => exact ⟨0, Nat.zero_le _, rfl, ⟨rfl, .inl ⟨rfl, rfl⟩⟩, Ow.nil _ _ _ _, (fun g e => by cases e), Below.refl _ _⟩
    case round =>
      obtain ⟨i, hi, rfl, HOB, HOW, HVW, HB⟩ := hrel
      by_cases hlt : i < T.length
      · have hlt' : (i : Int) < (T.length : Int) := by omega
        rcases HQ3.out with h | ⟨g, o, hga, hg, hcs⟩
        · exfalso; rw [h] at hlt; cases hlt
        have hce := hcs i hlt
        have hlp : i < ps.length := by rw [HPL.out]; exact hlt
        have HPI : Hid (ps[i] = plG M [] T[i].data.toList) := HPE.out i hlt hlp
        have hpo := HPO.out _ (List.getElem_mem hlp)
        have hss := HSZ.out _ (List.getElem_mem hlt)
        have HFT : Hid ((ps.take (i + 1)).flatMap rowB = (ps.take i).flatMap rowB ++ (ps[i] ++ [13, 10])) := rows_take ps i hlp
        have HMT : Hid ((ps.take (i + 1)).map lnE = (ps.take i).map lnE ++ [lnE ps[i]]) := by show _ = _; rw [List.take_succ_eq_append_getElem hlp, List.map_append]; rfl
        have hfl : ((ps.take i).flatMap rowB).length ≤ 4202496 := by
          have h1 := rows_le 1024 (ps.take i) (fun p hp => by have := (HPO.out p (List.mem_of_mem_take hp)).2; omega)
          have h2 : (ps.take i).length ≤ 4096 := by rw [List.length_take]; omega
          omega
        have hml : ((ps.take i).map lnE).length ≤ 4096 := by rw [List.length_map, List.length_take]; omega
        subst hga
        have hce2 : wr.cell? ⟨g, o + i, none⟩ = some (.string T[i]) := (HB.out.cell (p := ⟨g, o + i, none⟩) hg).trans hce
        have hx0 : wr.cell? ⟨w2.heap.size, 0, none⟩ = some (.int .i64 (m : Int)) := by rw [(HX3.out.below HB.out HX3.out.lt).cell]; rfl
        have hmin : min (m : Int) 1024 = (M : Int) := by omega
        have HCP := lplain_any T[i] M (by omega) hss wr
        rw [← HPI.out] at HCP
        have hp2 : ps[i].length ≤ 1024 := by omega
        clear hce hcs hpo hss HPI
        generalize T[i] = s at *
        generalize ps[i] = p at *
        generalize (ps.take i).flatMap rowB = D at *
        generalize (ps.take i).map lnE = Y at *
        go_upto_region 11 with fail
        go_cut [12] from 32 to 36 (fun v wx => v = .string ⟨p.toArray⟩ ∧ Hid (Below wr.heap.size wr wx))
        case first =>
          by_cases hmm : m ≤ 1024
          · have hmm' : (m : Int) ≤ 1024 := by omega
            have hmm2 : ¬ (1024 : Int) < (m : Int) := by omega
            have hMe : M = m := by omega
            rw [hMe] at HCP
            clear hMe hmin hmm hM hMb
            go_wp2_with fail
            all_goals first
              | (exfalso; omega)
              | (refine HCP.mono ?_
                 rintro z wz ⟨rfl, hbz⟩
                 have HBZ : Hid (Below wr.heap.size wr wz) := hbz
                 clear hbz
                 go_wp2_with fail
                 go_meet
                 exact ⟨rfl, HBZ.out⟩)
          · have hmm' : ¬ (m : Int) ≤ 1024 := by omega
            have hmm2 : (1024 : Int) < (m : Int) := by omega
            have hMe : M = 1024 := by omega
            rw [hMe] at HCP
            clear hMe hmin hmm hM hMb
            go_wp2_with fail
            all_goals first
              | (exfalso; omega)
              | (refine HCP.mono ?_
                 rintro z wz ⟨rfl, hbz⟩
                 have HBZ : Hid (Below wr.heap.size wr wz) := hbz
                 clear hbz
                 go_wp2_with fail
                 go_meet
                 exact ⟨rfl, HBZ.out⟩)
        case rest =>
        obtain ⟨hv, HBQ⟩ := hcut
        subst hv
        have HOB2 : Hid (wc.ownsRow V.heap.size 5 1 u8 D.length (cellsB D)) := own_below HOB.out HBQ.out
        have HOW2 : Hid (Ow celI 50 5 wc u9 Y) := HOW.out.below HBQ.out
        have HB2 : Hid (Below V.heap.size V wc) := HB.out.trans (HBQ.out.mono HB.out.size)
        obtain ⟨P, hP⟩ : ∃ P : ByteArray, P = ⟨p.toArray⟩ := ⟨_, rfl⟩
        have hPs : P.size = p.length := by rw [hP]; exact List.size_toArray ..
        have HPC : Hid (Lib.strCells (P ++ (⟨#[13, 10]⟩ : ByteArray)) = cellsB (p ++ [13, 10])) := by
          show Lib.strCells _ = _
          unfold Lib.strCells cellsB
          rw [hP, ByteArray.data_append, Array.toList_append]
        have HPE2 : Hid (P = ⟨p.toArray⟩) := hP
        have hPZ : (P ++ (⟨#[13, 10]⟩ : ByteArray)).size = p.length + 2 := by rw [ByteArray.size_append, hPs]; rfl
        have hPZ2 : (P.size : Int) + 2 ≤ 9223372036854775807 := by omega
        rw [← hP]
        obtain ⟨i0, hi0, hz0, hz1, hz2⟩ := info_parts info5
        clear hP HOB HOW HBQ HCP hx0 hmin hPs
        go_wp2_with (at_builtin; refine Lib.wpList_append_own_string _ rfl _ _ 42 9 rfl V.heap.size 5 i0 Try.underlying42 Try.underlying9 hi0 hz0 hz1 hz2 u8 D.length (cellsB D) rfl HOB2.out (P ++ (⟨#[13, 10]⟩ : ByteArray)) rfl (by rw [hPZ]; unfold maxLen; omega) (by rw [hPZ]; omega) HB2.out.size ?_; intro v3 w3 ho3 hg3 hn3; apply Hid.out)
        unfold Hid
        have HO3 : Hid (w3.ownsRow V.heap.size 5 1 v3 (D ++ (p ++ [13, 10])).length (cellsB (D ++ (p ++ [13, 10])))) := by
          show World.ownsRow _ _ _ _ _ _ _
          have hpc : Lib.strCells (P ++ (⟨#[13, 10]⟩ : ByteArray)) = cellsB (p ++ [13, 10]) := HPC.out
          rw [List.length_append, cellsB_append, ← hpc, (by simp : (p ++ ([13, 10] : List UInt8)).length = p.length + 2), ← hPZ]
          exact ho3
        have HOW3 : Hid (Ow celI 50 5 w3 u9 Y) := HOW2.out.keep (fun g hg => hg3.block g (HOW2.out.lt g hg) (fun e => own_neT HOW2.out HOB2.out (by decide) g hg e.symm))
        have HB3' : Hid (Below V.heap.size V w3) := HB2.out.grown hg3 HB2.out.size (fun q hq => (HOB2.out.lt q hq).1)
        obtain ⟨W4, hW4⟩ : ∃ W4, W4 = w3.alloc (.cells #[.int .i64 1, .string P, .slice none 0 0, .int .i64 0, .bool false] 50) := ⟨_, rfl⟩
        have hb4 : Below w3.heap.size w3 W4 := by subst hW4; exact (Below.refl _ _).alloc (Nat.le_refl _) _
        have HN4 : Hid (∀ j u, (celI (lnE p))[j]? = some u → W4.cell? ⟨w3.heap.size, j, none⟩ = some u) := fun j u hj => by
          subst hW4
          have he : celI (lnE p) = [.int .i64 1, .string P, .slice none 0 0, .int .i64 0, .bool false] := by rw [HPE2.out]; rfl
          rw [he] at hj
          exact new_cells (w := w3) (t := 50) _ j u hj
        have HWW4 : Hid (w3.alloc (.cells #[.int .i64 1, .string P, .slice none 0 0, .int .i64 0, .bool false] 50) = W4) := hW4.symm
        have HO4 : Hid (W4.ownsRow V.heap.size 5 1 v3 (D ++ (p ++ [13, 10])).length (cellsB (D ++ (p ++ [13, 10])))) := own_below HO3.out hb4
        have HOW4 : Hid (Ow celI 50 5 W4 u9 Y) := HOW3.out.below hb4
        have HB4 : Hid (Below V.heap.size V W4) := HB3'.out.trans (hb4.mono HB3'.out.size)
        clear ho3 hg3 hn3 hb4 hW4 HO3 HOW3 HB3' HOB2 HOW2 HB2 HPC hPZ hPZ2 HB
        obtain ⟨ua, uc, hu, -⟩ := HOW4.out.shape
        subst hu
        go_wp2_with (rw [HWW4.out]; refine wpList_append_ow celI_length (by decide) oneI rfl _ _ 59 rfl Try.underlying59 _ 64 infoIE rfl _ Y rfl HOW4.out w3.heap.size 1 (lnE p) rfl HN4.out (by omega) (by omega) ?_; intro g5 cap5 w5 ho5 hc5 hg5; apply Hid.out)
        unfold Hid
        have HOB5 : Hid (w5.ownsRow V.heap.size 5 1 v3 (D ++ (p ++ [13, 10])).length (cellsB (D ++ (p ++ [13, 10])))) := own_keep HO4.out (fun k hk => hc5.block k (HO4.out.lt k hk).2 (fun e => own_neT HO4.out HOW4.out (by decide) k hk e))
        have HOW5 : Hid (Ow celI 50 5 w5 (.slice (some ⟨g5, 0, none⟩) (Y.length + 1) cap5) (Y ++ [lnE p])) := ho5
        have HV5 : Hid (V.heap.size ≤ g5) := by
          rcases hg5 with e | e
          · exact HVW.out _ e
          · exact Nat.le_trans HB4.out.size e
        have HB5 : Hid (Below V.heap.size V w5) := HB4.out.trans (hc5.to_below HB4.out.size (fun k hk => HVW.out k hk))
        clear ho5 hc5 hg5 HO4 HOW4 HB4 HN4 HWW4
        go_wp2_with fail
        go_roundw
        case rel => exact ⟨i + 1, hlt, by go_num, by rw [HFT.out]; exact HOB5.out, by rw [HMT.out]; exact HOW5.out, (fun q hq => by cases hq; exact HV5.out), HB5.out⟩
        case measure => simp [intOf]; omega
      · have hlt' : ¬ (i : Int) < (T.length : Int) := by omega
        have HIX : Hid (ps.take i = ps) := List.take_of_length_le (by rw [HPL.out]; omega)
        rw [HIX.out] at HOB HOW
        have hfl : (ps.flatMap rowB).length ≤ 4202496 := by
          have h1 := rows_le 1024 ps (fun p hp => by have := (HPO.out p hp).2; omega)
          have h2 := HPL.out
          omega
        have HBw : Hid (Below w.heap.size w wr) := HB3.out.trans (HB.out.mono HB3.out.size)
        have HCw : Hid (Bts a2 cl wr) := HCB3.out.below HB.out
        have HXw : Hid (Lies wr w2.heap.size #[.int .i64 (m : Int), .int .i64 1, .int .i64 1, .int .i64 1, .int .i64 1, .int .i64 1] 23) := HX3.out.below HB.out HX3.out.lt
        have HZC := lzeros_any a2 cl cl.length cap2 rfl (by omega) wr HCw.out
        by_cases hcz : 0 < cl.length ∧ cl.all (· == 0) = true
        · obtain ⟨hc0, hca⟩ := hcz
          have hc0' : (0 : Int) < (cl.length : Int) := by omega
          rw [hca] at HZC
          go_wp2_with fail
          refine HZC.mono ?_
          rintro z wz ⟨rfl, rfl⟩
          go_wp2_with fail
          go_ret
          exact ⟨rfl, HBw.out⟩
        · have HCZ : Hid (cl = [] ∨ cl.all (· == 0) = false) := by
            by_cases h0 : cl.length = 0
            · exact .inl (List.eq_nil_of_length_eq_zero h0)
            · refine .inr ?_
              cases h : cl.all (· == 0) with
              | false => rfl
              | true => exact absurd ⟨by omega, h⟩ hcz
          have HCC : Hid ((0 < cl.length ∧ cl.all (· == 0) = false) ∨ cl.length = 0) := by
            by_cases h0 : cl.length = 0
            · exact .inr h0
            · refine .inl ⟨by omega, ?_⟩
              rcases HCZ.out with h | h
              · rw [h] at h0; exact absurd rfl h0
              · exact h
          obtain ⟨a5, k5, hv5, hbt5, -, hn5, hk5, -⟩ := own_bts HOB.out
          have hk9 : k5 ≤ 9223372036854775807 := by rw [hv5] at HOB; exact own_capm HOB.out
          subst hv5
          have HPY := lplayed_lines m 1 1 1 1 1 hm1.1 (by unfold okL; omega) (by unfold okL; omega) (by unfold okL; omega) (by unfold okL; omega) (by unfold okL; omega) a5 (ps.flatMap rowB) k5 a2 cl cap2 wr hbt5 (by omega) hk5 hn5 hk9 HCw.out (by omega) HCZ.out
          rw [show ((1 : Nat) : Int) = 1 from rfl] at HPY
          have HALL : Hid ((Pg.all m 1 1 [] 1 ⟨.ln [], [], 0⟩ (ps.flatMap rowB)).o = ps.map Fi.line) := by
            have := all_rows (m := m) (t := 1) (a := 1) (show Calm 1 ([] : List Tu) 1 from calm_of 1 (.inl rfl)) ps [] 0 (fun p hp => ⟨(HPO.out p hp).1, Nat.le_trans (HPO.out p hp).2 hMb.2⟩)
            show _ = _
            rw [show ps.flatMap rowB = ps.flatMap (fun p => p ++ [13, 10]) from rfl, this]
            simp
          rw [HALL.out] at HPY
          obtain ⟨Ys, hYs⟩ : ∃ Ys, Ys = ps.map lnE := ⟨_, rfl⟩
          rw [← hYs] at HOW
          have HYI : Hid (Ys.map Ie.i = ps.map Fi.line) := by show _ = _; rw [hYs, List.map_map]; rfl
          have HYB : Hid (∀ (wx : World) (y : Ie), y ∈ Ys → Bts y.a (fiB y.i) wx) := fun wx y hy => by
            rw [hYs] at hy
            obtain ⟨q, _, rfl⟩ := List.mem_map.1 hy
            exact .inl rfl
          have hYl : Ys.length ≤ 4096 := by rw [hYs, List.length_map]; have := HPL.out; omega
          clear hYs
          have HOWw : Hid (Ow celI 50 5 wr _ Ys) := HOW.out
          obtain ⟨uw, ucw, huw, -⟩ := HOW.out.shape
          have hpl4 : ps.length ≤ 4096 := by have := HPL.out; omega
          subst huw
          have x0 : wr.cell? ⟨w2.heap.size, 0, none⟩ = some (.int .i64 (m : Int)) := by rw [HXw.out.cell]; rfl
          have x1 : wr.cell? ⟨w2.heap.size, 1, none⟩ = some (.int .i64 1) := by rw [HXw.out.cell]; rfl
          have x2 : wr.cell? ⟨w2.heap.size, 2, none⟩ = some (.int .i64 1) := by rw [HXw.out.cell]; rfl
          have x3 : wr.cell? ⟨w2.heap.size, 3, none⟩ = some (.int .i64 1) := by rw [HXw.out.cell]; rfl
          have x4 : wr.cell? ⟨w2.heap.size, 4, none⟩ = some (.int .i64 1) := by rw [HXw.out.cell]; rfl
          have x5 : wr.cell? ⟨w2.heap.size, 5, none⟩ = some (.int .i64 1) := by rw [HXw.out.cell]; rfl
          have HHI : Hid (Ow celI 50 5 wr (.slice uw Ys.length ucw) Ys) := HOWw.out
          clear hbt5 hn5 hk5 HOB HOW HOWw hcz HCZ HIX hfl
          generalize ps.flatMap rowB = D at *
          rcases HCC.out with ⟨hc0, hca⟩ | hc0
          · have hc0' : (0 : Int) < (cl.length : Int) := by omega
            rw [hca] at HZC
            clear HCC
            go_wp2_with fail
            refine HZC.mono ?_
            rintro z wz ⟨rfl, rfl⟩
            go_wp2_with fail
            refine HPY.mono ?_
            rintro z w7 ⟨v7, x7, rfl, hO7, hM7, hT7, hB7⟩
            have HO7 : Hid (Ow celI 50 5 w7 v7 x7) := hO7
            have HM7 : Hid (x7.map Ie.i = Ys.map Ie.i) := by show _ = _; rw [hM7, HYI.out]
            have HT7 : Hid (∀ x ∈ x7, Bts x.a (fiB x.i) w7) := hT7
            have HB7 : Hid (Below w.heap.size w w7) := HBw.out.trans (hB7.mono HBw.out.size)
            have HH7 : Hid (Ow celI 50 5 w7 (.slice uw Ys.length ucw) Ys) := HHI.out.below hB7
            have HLX : Hid (x7.length ≤ 4096) := by have := congrArg List.length hM7; rw [List.length_map, List.length_map] at this; show _ ≤ _; omega
            have HSI := sameitems_yes v7 (.slice uw Ys.length ucw) x7 Ys w7 HO7.out HH7.out HM7.out HT7.out (HYB.out w7) (Nat.le_trans HLX.out (by decide))
            clear hO7 hM7 hT7 hB7 HPY
            go_wp2_with fail
            refine HSI.mono ?_
            rintro z w9 ⟨rfl, hB9⟩
            have HB9 : Hid (Below w.heap.size w w9) := HB7.out.trans (hB9.mono HB7.out.size)
            clear hB9
            go_wp2_with fail
            go_ret
            exact ⟨rfl, HB9.out⟩
          · have hc0' : ¬ (0 : Int) < (cl.length : Int) := by omega
            clear HCC hc0
            go_wp2_with fail
            refine HPY.mono ?_
            rintro z w7 ⟨v7, x7, rfl, hO7, hM7, hT7, hB7⟩
            have HO7 : Hid (Ow celI 50 5 w7 v7 x7) := hO7
            have HM7 : Hid (x7.map Ie.i = Ys.map Ie.i) := by show _ = _; rw [hM7, HYI.out]
            have HT7 : Hid (∀ x ∈ x7, Bts x.a (fiB x.i) w7) := hT7
            have HB7 : Hid (Below w.heap.size w w7) := HBw.out.trans (hB7.mono HBw.out.size)
            have HH7 : Hid (Ow celI 50 5 w7 (.slice uw Ys.length ucw) Ys) := HHI.out.below hB7
            have HLX : Hid (x7.length ≤ 4096) := by have := congrArg List.length hM7; rw [List.length_map, List.length_map] at this; show _ ≤ _; omega
            have HSI := sameitems_yes v7 (.slice uw Ys.length ucw) x7 Ys w7 HO7.out HH7.out HM7.out HT7.out (HYB.out w7) (Nat.le_trans HLX.out (by decide))
            clear hO7 hM7 hT7 hB7 HPY
            go_wp2_with fail
            refine HSI.mono ?_
            rintro z w9 ⟨rfl, hB9⟩
            have HB9 : Hid (Below w.heap.size w w9) := HB7.out.trans (hB9.mono HB7.out.size)
            clear hB9
            go_wp2_with fail
            go_ret
            exact ⟨rfl, HB9.out⟩
end framerLines
end Go.Proofs.Ythnjbnhmdjpfpaa
