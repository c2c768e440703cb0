/-
  For every list of fields and every name: Find tells the places that the document tells, leaves the fields as they were, and tells new memory (P16.6). Conditions: none but those of the statement.
-/
import Derived.Test.YtpepjiocjcjeeaaFf16
import Derived.Test.YtpepjiocjcjeeaaSpI16
import Derived.Test.YtpepjiocjcjeeaaFh16
import Derived.Test.YtpepjiocjcjeeaaOpF16
import Derived.Test.YtpepjiocjcjeeaaRows
import Derived.ProofKit
import Derived.ChangeMaps5
import Derived.OpenShut
import Derived.ShutString
import Derived.ChangeOld
import Derived.SizedLaws
namespace Go.Proofs.Ytpepjiocjcjeeaa.fieldFinds
open Go.ChangeShapes Go.WideShapes Go.ChangeAt Go.RowKit
open Go.ChangeMaps (open_string shut_string)

theorem lit_find : fndP [⟨[120], []⟩, ⟨[65], []⟩] ⟨#[97]⟩ 2 = [1] := by decide +kernel
theorem own_far {w w' : World} {B n t k : Nat} {v : Value} {xs : List Value} {row : Option Nat} (h : w.ownsRow B t k v n xs) (hg : w.grownBy w' row) (hn : ∀ j, v.ownBlock = some j → row ≠ some j) : w'.ownsRow B t k v n xs := ownN_keep h (fun j hj => hg.block j (h.lt j hj).2 (fun e => hn j hj e.symm))
set_option maxRecDepth 100000 in
set_option maxHeartbeats 8000000 in
theorem walk {w : World} (a0 : Option Addr) (l : List Fd) (cap0 : Nat) (hr : Fds a0 l w) (hz : l.length ≤ 4398046511000 ∧ ∀ t ∈ l, t.name.length ≤ 140737488351232 ∧ t.body.length ≤ 140737488351232) (hn0 : a0 = none → cap0 = 0) (nm : ByteArray) (hnm : nm.size ≤ 140737488351232) :
    Calls Try.prog 4 #[.slice a0 l.length cap0, .string nm] w fun e w' => e = .returned (.bool true) ∧ Below w.heap.size w w' := by
  have HNL : Hid (∀ p ∈ l, p.name.length ≤ 140737488351232) := fun p hp => (hz.2 p hp).1
  have hl := hz.1
  have HR : Hid (Fds a0 l w) := hr
  have HLE := lentF_any a0 cap0 l w hr hn0 (by omega)
  clear hz hr hn0
  obtain ⟨F, hF⟩ : ∃ F, F = fndP l nm l.length := ⟨_, rfl⟩
  have hFl : F.length ≤ 4398046511000 := by rw [hF]; exact Nat.le_trans (fndP_len _ _ _) hl
  have HFI : Hid (∀ (a : Option Addr) (cap : Nat) (wx : World), Fds a l wx → Calls Try.prog 9 #[.slice a l.length cap, .string nm] wx fun e w' => ∃ v, e = .returned v ∧ w'.ownsRow wx.heap.size 3 1 v F.length (cellsN F) ∧ Below wx.heap.size wx w') := fun a cap wx h => by rw [hF]; exact find_any a cap l nm wx h (by omega) hnm HNL.out
  have HUF : Hid (∀ (a : Option Addr) (cap : Nat) (wx : World), Fds a l wx → Calls Try.prog 8 #[.slice a l.length cap, .string nm] wx fun e w' => ∃ v, e = .returned v ∧ w'.ownsRow wx.heap.size 3 1 v F.length (cellsN F) ∧ Below wx.heap.size wx w') := fun a cap wx h => by rw [hF]; exact ufind_any a cap l nm wx h (by omega) hnm HNL.out
  clear hF HNL hnm
  go_enter Try.func4, Try.ntmps4
  go_wp2_with fail
  refine HLE.mono ?_
  rintro e w1 ⟨g, rfl, ho1, hb1⟩
  have HO1 : Hid (w1.ownsRow w.heap.size 32 2 (.slice (some ⟨g, 0, none⟩) (l.length + 70) (l.length + 70)) (l.length + 70) (cellsF (l ++ List.replicate 70 mrk))) := ho1
  have HB1 : Hid (Below w.heap.size w w1) := hb1
  clear ho1 hb1 HLE
  go_wp2_with fail
  refine (HUF.out _ _ _ (HR.out.below HB1.out)).mono ?_
  rintro e w2 ⟨v2, rfl, ho2, hb2⟩
  obtain ⟨a2, c2, hv2, hi2⟩ := own_its ho2
  subst hv2
  have HO2 : Hid (w2.ownsRow w1.heap.size 3 1 (.slice a2 F.length c2) F.length (cellsN F)) := ho2
  have HB2 : Hid (Below w1.heap.size w1 w2) := hb2
  have HG1 : Hid (∀ wx, (wx.ownsRow w.heap.size 32 2 (.slice (some ⟨g, 0, none⟩) (l.length + 70) (l.length + 70)) (l.length + 70) (cellsF (l ++ List.replicate 70 mrk))) → Fds (some ⟨g, 0, none⟩) l wx) := fun wx h => fds_fore h
  clear ho2 hb2 hi2 HUF
  go_wp2_with fail
  refine (HFI.out _ _ _ (HG1.out _ (ownN_below HO1.out HB2.out))).mono ?_
  rintro e w3 ⟨v3, rfl, ho3, hb3⟩
  obtain ⟨a3, c3, hv3, hi3⟩ := own_its ho3
  subst hv3
  have HO3 : Hid (w3.ownsRow w2.heap.size 3 1 (.slice a3 F.length c3) F.length (cellsN F)) := ho3
  have HB3 : Hid (Below w2.heap.size w2 w3) := hb3
  clear ho3 hb3 hi3
  go_wp2_with fail
  refine (HFI.out _ _ _ (HG1.out _ (ownN_below (ownN_below HO1.out HB2.out) HB3.out))).mono ?_
  rintro e w4 ⟨v4, rfl, ho4, hb4⟩
  obtain ⟨a4, c4, hv4, hi4⟩ := own_its ho4
  subst hv4
  have HO4 : Hid (w4.ownsRow w3.heap.size 3 1 (.slice a4 F.length c4) F.length (cellsN F)) := ho4
  have HI2 : Hid (w4.ownsRow w1.heap.size 3 1 (.slice a2 F.length c2) F.length (cellsN F)) := ownN_below (ownN_below HO2.out HB3.out) hb4
  have HI3 : Hid (w4.ownsRow w2.heap.size 3 1 (.slice a3 F.length c3) F.length (cellsN F)) := ownN_below HO3.out hb4
  have HI1 : Hid (w4.ownsRow w.heap.size 32 2 (.slice (some ⟨g, 0, none⟩) (l.length + 70) (l.length + 70)) (l.length + 70) (cellsF (l ++ List.replicate 70 mrk))) := ownN_below (ownN_below (ownN_below HO1.out HB2.out) HB3.out) hb4
  have HB4 : Hid (Below w.heap.size w w4) := ((HB1.out.trans (HB2.out.mono HB1.out.size)).trans (HB3.out.mono (Nat.le_trans HB1.out.size HB2.out.size))).trans (hb4.mono (Nat.le_trans (Nat.le_trans HB1.out.size HB2.out.size) HB3.out.size))
  have hz1 : g < w1.heap.size := (HO1.out.lt g rfl).2
  have HZ2 : Hid (∀ j, (Value.slice a2 F.length c2).ownBlock = some j → w1.heap.size ≤ j ∧ j < w2.heap.size) := fun j hj => HO2.out.lt j hj
  have HZ3 : Hid (∀ j, (Value.slice a3 F.length c3).ownBlock = some j → w2.heap.size ≤ j ∧ j < w3.heap.size) := fun j hj => HO3.out.lt j hj
  have HZ4 : Hid (∀ j, (Value.slice a4 F.length c4).ownBlock = some j → w3.heap.size ≤ j ∧ j < w4.heap.size) := fun j hj => HO4.out.lt j hj
  have HZW : Hid (w.heap.size ≤ w1.heap.size ∧ w1.heap.size ≤ w2.heap.size ∧ w2.heap.size ≤ w3.heap.size) := ⟨HB1.out.size, HB2.out.size, HB3.out.size⟩
  have HSI : Hid (∀ (a b : Option Addr) (ca cb B B' : Nat) (wx : World), wx.ownsRow B 3 1 (.slice a F.length ca) F.length (cellsN F) → wx.ownsRow B' 3 1 (.slice b F.length cb) F.length (cellsN F) → Calls Try.prog 10 #[.slice a F.length ca, .slice b F.length cb] wx fun e w' => e = .returned (.bool true) ∧ Below wx.heap.size wx w') := fun a b ca cb B B' wx h1 h2 => by
    obtain ⟨_, _, e1, i1⟩ := own_its h1
    obtain ⟨_, _, e2, i2⟩ := own_its h2
    cases e1
    cases e2
    exact samei_eq a b ca cb F wx i1 i2 (by omega)
  clear hb4 hi4 ho4 HO1 HO2 HO3 HB1 HB2 HB3
  go_wp2_with fail
  refine (HSI.out _ _ _ _ _ _ _ HI3.out HI2.out).mono ?_
  rintro e w5 ⟨rfl, hb5⟩
  have HB5 : Hid (Below w4.heap.size w4 w5) := hb5
  clear hb5
  go_wp2_with fail
  refine (HSI.out _ _ _ _ _ _ _ (ownN_below HO4.out HB5.out) (ownN_below HI2.out HB5.out)).mono ?_
  rintro e w6 ⟨rfl, hb6⟩
  have HB6 : Hid (Below w4.heap.size w4 w6) := HB5.out.trans (hb6.mono HB5.out.size)
  clear hb6 HB5
  go_wp2_with fail
  refine (keptF_any a0 cap0 g w.heap.size l w6 (HR.out.below (HB4.out.trans (HB6.out.mono HB4.out.size))) (by omega) (ownN_below HI1.out HB6.out)).mono ?_
  rintro e w7 ⟨rfl, hb7⟩
  have hB7 := HB6.out.trans (hb7.mono HB6.out.size)
  have HB7 : Hid (Below w.heap.size w w7) := HB4.out.trans (hB7.mono HB4.out.size)
  have HI1a : Hid (w7.ownsRow w.heap.size 32 2 (.slice (some ⟨g, 0, none⟩) (l.length + 70) (l.length + 70)) (l.length + 70) (cellsF (l ++ List.replicate 70 mrk))) := ownN_below HI1.out hB7
  have HI2a : Hid (w7.ownsRow w1.heap.size 3 1 (.slice a2 F.length c2) F.length (cellsN F)) := ownN_below HI2.out hB7
  have HI3a : Hid (w7.ownsRow w2.heap.size 3 1 (.slice a3 F.length c3) F.length (cellsN F)) := ownN_below HI3.out hB7
  have HI4a : Hid (w7.ownsRow w3.heap.size 3 1 (.slice a4 F.length c4) F.length (cellsN F)) := ownN_below HO4.out hB7
  have hcm3 : c3 ≤ 9223372036854775807 := own_capN HI3.out
  have hcm4 : c4 ≤ 9223372036854775807 := own_capN HO4.out
  clear hB7 hb7 HB6 HB4 HI1 HI2 HI3 HO4
  go_wp2_with fail
  refine (spoilI_any _ a3 F.length c3 _ w7 HI3a.out (by omega) hcm3).mono ?_
  rintro e w8 ⟨rfl, hg8⟩
  have HI1b : Hid (w8.ownsRow w.heap.size 32 2 (.slice (some ⟨g, 0, none⟩) (l.length + 70) (l.length + 70)) (l.length + 70) (cellsF (l ++ List.replicate 70 mrk))) := own_far HI1a.out hg8 (fun j hj e => by have e2 : g = j := Option.some.inj hj; have := HZ3.out _ e; have := HZW.out; omega)
  have HI2b : Hid (w8.ownsRow w1.heap.size 3 1 (.slice a2 F.length c2) F.length (cellsN F)) := own_far HI2a.out hg8 (fun j hj e => by have := HZ3.out _ e; have := HZ2.out _ hj; omega)
  have HI4b : Hid (w8.ownsRow w3.heap.size 3 1 (.slice a4 F.length c4) F.length (cellsN F)) := own_far HI4a.out hg8 (fun j hj e => by have := HZ3.out _ e; have := HZ4.out _ hj; omega)
  have HB8 : Hid (Below w.heap.size w w8) := HB7.out.grown hg8 HB7.out.size (fun q hq => by have := HZ3.out _ hq; have := HZW.out; omega)
  clear hg8 HI1a HI2a HI3a HI4a HB7
  go_wp2_with fail
  refine (HSI.out _ _ _ _ _ _ _ HI4b.out HI2b.out).mono ?_
  rintro e w9 ⟨rfl, hb9⟩
  have HI1c : Hid (w9.ownsRow w.heap.size 32 2 (.slice (some ⟨g, 0, none⟩) (l.length + 70) (l.length + 70)) (l.length + 70) (cellsF (l ++ List.replicate 70 mrk))) := ownN_below HI1b.out hb9
  have HI2c : Hid (w9.ownsRow w1.heap.size 3 1 (.slice a2 F.length c2) F.length (cellsN F)) := ownN_below HI2b.out hb9
  have HI4c : Hid (w9.ownsRow w3.heap.size 3 1 (.slice a4 F.length c4) F.length (cellsN F)) := ownN_below HI4b.out hb9
  have HB9 : Hid (Below w.heap.size w w9) := HB8.out.trans (hb9.mono HB8.out.size)
  clear hb9 HI1b HI2b HI4b HB8
  go_wp2_with fail
  refine (spoilI_any _ a4 F.length c4 _ w9 HI4c.out (by omega) hcm4).mono ?_
  rintro e wA ⟨rfl, hgA⟩
  have HI1d : Hid (wA.ownsRow w.heap.size 32 2 (.slice (some ⟨g, 0, none⟩) (l.length + 70) (l.length + 70)) (l.length + 70) (cellsF (l ++ List.replicate 70 mrk))) := own_far HI1c.out hgA (fun j hj e => by have e2 : g = j := Option.some.inj hj; have := HZ4.out _ e; have := HZW.out; omega)
  have HI2d : Hid (wA.ownsRow w1.heap.size 3 1 (.slice a2 F.length c2) F.length (cellsN F)) := own_far HI2c.out hgA (fun j hj e => by have := HZ4.out _ e; have := HZ2.out _ hj; have := HZW.out; omega)
  have HBA : Hid (Below w.heap.size w wA) := HB9.out.grown hgA HB9.out.size (fun q hq => by have := HZ4.out _ hq; have := HZW.out; omega)
  clear hgA HI1c HI2c HI4c HB9
  go_wp2_with fail
  refine (HFI.out _ _ _ (HG1.out _ HI1d.out)).mono ?_
  rintro e wB ⟨vB, rfl, hoB, hbB⟩
  obtain ⟨aB, cB, hvB, -⟩ := own_its hoB
  subst hvB
  have HOB : Hid (wB.ownsRow wA.heap.size 3 1 (.slice aB F.length cB) F.length (cellsN F)) := hoB
  have HI2e : Hid (wB.ownsRow w1.heap.size 3 1 (.slice a2 F.length c2) F.length (cellsN F)) := ownN_below HI2d.out hbB
  have HBB : Hid (Below w.heap.size w wB) := HBA.out.trans (hbB.mono HBA.out.size)
  clear hoB hbB HI1d HI2d HBA HFI
  go_wp2_with fail
  refine (HSI.out _ _ _ _ _ _ _ HOB.out HI2e.out).mono ?_
  rintro e wC ⟨rfl, hbC⟩
  have HBC : Hid (Below w.heap.size w wC) := HBB.out.trans (hbC.mono HBB.out.size)
  clear hbC HOB HI2e HBB HSI
  go_wp2_with fail
  have hlf : Fds (some ⟨wC.heap.size, 0, none⟩) [⟨[120], []⟩, ⟨[65], []⟩] (wC.alloc (.cells #[.string ⟨#[120]⟩, .string ⟨#[]⟩, .string ⟨#[65]⟩, .string ⟨#[]⟩] 32)) := .inr ⟨wC.heap.size, 0, rfl, by simp, fun j u hj => by
    rw [Nat.zero_add]
    exact ((Lies.new wC _ _).cell j).trans (by rw [List.getElem?_toArray]; exact hj)⟩
  have hfl := find_any (some ⟨wC.heap.size, 0, none⟩) 2 [⟨[120], []⟩, ⟨[65], []⟩] ⟨#[97]⟩ _ hlf (by decide) (by decide) (fun p hp => by
    rcases List.mem_cons.1 hp with rfl | hp
    · decide
    · rw [List.mem_singleton.1 hp]; decide)
  rw [show ([⟨[120], []⟩, ⟨[65], []⟩] : List Fd).length = 2 from rfl, lit_find] at hfl
  refine hfl.mono ?_
  rintro e wD ⟨vD, rfl, hoD, hbD⟩
  obtain ⟨aD, cD, hvD, -⟩ := own_its hoD
  subst hvD
  have HOD : Hid (wD.ownsRow (wC.alloc (.cells #[.string ⟨#[120]⟩, .string ⟨#[]⟩, .string ⟨#[65]⟩, .string ⟨#[]⟩] 32)).heap.size 3 1 (.slice aD ([1] : List Nat).length cD) ([1] : List Nat).length (cellsN [1])) := hoD
  have HBD : Hid (Below w.heap.size w wD) := (HBC.out.alloc HBC.out.size _).trans (hbD.mono (by have := HBC.out.size; simp; omega))
  clear hlf hfl hoD hbD HBC
  go_wp2_with fail
  obtain ⟨_, _, eD, iD⟩ := own_its HOD.out
  cases eD
  have iE : Its (some ⟨wD.heap.size, 0, none⟩) [1] (wD.alloc (.cells #[.int .i64 1] 3)) := .inr ⟨wD.heap.size, 0, rfl, by simp, fun j hj => by
    obtain rfl : j = 0 := by simpa using hj
    exact ((Lies.new wD _ _).cell 0).trans rfl⟩
  have hsm := samei_eq aD (some ⟨wD.heap.size, 0, none⟩) cD 1 [1] (wD.alloc (.cells #[.int .i64 1] 3)) (iD.below ((Below.refl _ _).alloc (Nat.le_refl _) _)) iE (by decide)
  rw [show ([1] : List Nat).length = 1 from rfl] at hsm
  refine hsm.mono ?_
  rintro e wE ⟨rfl, hbE⟩
  have HBE : Hid (Below w.heap.size w wE) := (HBD.out.alloc HBD.out.size _).trans (hbE.mono (by have := HBD.out.size; simp; omega))
  clear hsm hbE iE iD
  go_wp2_with fail
  go_ret
  exact ⟨rfl, HBE.out⟩

theorem own : ownKnob Try.prog.godebug = none := by kernel_rfl
theorem laidOut : laidOutB Try.prog = true := by kernel_rfl
set_option maxRecDepth 100000 in
theorem contract (H : Type) (enc : TypeId × Value → H) (W : World) (base : Nat) (args : Array Value) (ds gs : List (DataW H)) (before : List MemPlace)
    (hval : ∀ (j : Nat) t v, Try.f4.params[j]? = some t → args[j]? = some v → Value.okWide Try.prog W .any base t v)
    (hW : DataW.Whole enc Try.prog Try.f4.params.toList Rows.fieldFindsSpec.vars false W args.toList ds gs before)
    (hsz : (DataW.weightsEach Try.prog (Try.f4.params.toList ++ Rows.fieldFindsSpec.plain.varTypes Try.prog) (ds ++ gs)).all (· ≤ reachBytes) = true)
    :
    Calls Try.prog 4 args W fun e W' => ∃ v, e = .returned v ∧ Rows.fieldFindsSpec.post enc Try.prog Try.f4 false true false false W args v W' := by
  have hW' := hW
  obtain ⟨p, q, hA0, hV, rfl, hfz, hnd⟩ := hW
  have hA : DataW.TrodAll enc Try.prog W 0 (fun _ => true) true Try.f4.params.toList args.toList ds p := hA0
  rw [Try.params4] at hA hval hsz
  obtain ⟨v0, vs0, d0, ds0, p0, q0, hargs, rfl, rfl, h0, r0⟩ := trodAll_cons hA
  obtain ⟨v1, vs1, d1, ds1, p1, q1, rfl, rfl, rfl, h1, r1⟩ := trodAll_cons r0
  obtain ⟨rfl, rfl, rfl⟩ := trodAll_nil r1
  obtain rfl : args = #[v0, v1] := by cases args; simp_all
  obtain ⟨rfl, rfl⟩ := trodVars_none hV
  have k0 := h0
  have lt0 : ∀ x ∈ p0, x.block < W.heap.size := by obtain ⟨m, hm⟩ := k0; exact DataW.trod_lt m _ _ _ hm
  obtain ⟨a0, len0, cap0, rfl⟩ := okWide_slice Try.underlying24 (hval 0 24 v0 rfl rfl)
  obtain ⟨l0, e0, row0, nn0, dd0⟩ := open_fds h0
  obtain ⟨a1, rfl, rfl, rfl, w1⟩ := open_string Try.underlying9 (hval 1 9 v1 rfl rfl) h1
  clear hA0
  have s0 := fds_size (j := 0) hsz rfl rfl dd0
  subst e0
  have s1 := sized_string hsz (j := 1) (t := 9) rfl rfl
  simp only [reachBytes, Array.length_toList] at s1
  refine (walk a0 l0 cap0 row0 s0 nn0 a1 s1).mono fun e W' ⟨he, bel⟩ => ?_
  subst he
  exact ⟨_, rfl, _, _, _, [], _, [], hW', trodAll_mk1 (shut_bool Try.underlying4 _), trodAll_cons_mk (Below.trod laidOut (by kernel_rfl) (of_decide_eq_true (by kernel_rfl)) k0 bel lt0) (trodAll_cons_mk (shut_string Try.underlying9 w1) trodAll_mk0), rfl, bel.frame _, fun h => by cases h⟩

set_option maxRecDepth 100000 in
theorem lifted (os : Os) (started : os.Started) (H : Type) (enc : TypeId × Value → H) :
    ReturnsInHanded {} Try.checked os 4 .any (Rows.fieldFindsSpec.pre6 enc Try.prog Try.f4 Rows.fieldFindsRow.domain false) (Rows.fieldFindsSpec.post enc Try.prog Try.f4 false true false false) := by
  refine returnsInHanded_of_change_sized (C := Try.checked) own started (by kernel_rfl) Try.func4
    (ChangeSpec.witness6 (enc := enc) (C := Try.checked) false ⟨#[], #[.slice none 0 0, .string ByteArray.empty], []⟩ 8 (by kernel_rfl) (by kernel_rfl) (by kernel_rfl) (by kernel_rfl)) ?_
  intro W base args ds gs before hval0 hW hcnd hsz0 _
  exact contract H enc W base args ds gs before hval0 hW hsz0

theorem over : Rows.fieldFindsRow.holds Try.pinned (OpenSpec.ofChange Rows.fieldFindsSpec) :=
  OpenClaim.holds_of_wide 4 Try.f4 rfl rfl rfl rfl rfl rfl rfl ⟨rfl, rfl, rfl, rfl, rfl⟩ rfl rfl rfl rfl rfl (by kernel_rfl) Try.func4 (by kernel_rfl)
    (of_decide_eq_true (by kernel_rfl)) (by unfold Func.isWrapper; first | (rw [if_pos (by decide +kernel)]; kernel_rfl) | (rw [if_neg (by decide +kernel)]; exact ⟨rfl, rfl⟩))
    (fun os started H enc _ => lifted os started H enc)
end Go.Proofs.Ytpepjiocjcjeeaa.fieldFinds
namespace Go.Proofs.Ytpepjiocjcjeeaa
theorem fieldFinds_said : Rows.FieldFindsSaid := fieldFinds.over
#print axioms fieldFinds_said
end Go.Proofs.Ytpepjiocjcjeeaa
