/-
  P1.10: for every text, what octet.Unhex takes octet.HexOf writes again in capitals, and what it does not take has its place; proved with no condition on the input.
-/
import Derived.Test.YtdgbkllhcoincabDoorWakes
import Derived.Test.YtdgbkllhcoincabDoorHexOf
import Derived.Test.YtdgbkllhcoincabDoorUnhexOk
import Derived.Test.YtdgbkllhcoincabDoorRUnhex
namespace Go.Proofs.YtdgbkllhcoincabDoor.octetPairs
open Go.ChangeShapes Go.WideShapes Go.ChangeAt Go.RowKit
open Go.ChangeMaps (open_string shut_string)

theorem hv_fin : ∀ a : Fin 256, isB 4 (a.val : Int) = true → hexD (hexV a.val) = upB (UInt8.ofNat a.val) := by decide +kernel
theorem hv_up (a : UInt8) (h : isB 4 (a.toNat : Int) = true) : hexD (hexV a.toNat) = upB a := by
  have := hv_fin ⟨a.toNat, a.toNat_lt⟩ h
  simpa using this
theorem hex_un : ∀ (l : List UInt8), badN 4 l = l.length → l.length % 2 = 0 → hexL (unL l) = upL l
  | [], _, _ => rfl
  | [_], _, h => by simp at h
  | a :: b :: r, hb, h2 => by
    have all := hexOk_at (a :: b :: r) hb
    have ha : isB 4 (a.toNat : Int) = true := all 0 (by simp)
    have hb' : isB 4 (b.toNat : Int) = true := all 1 (by simp)
    have hr : badN 4 r = r.length := by
      rw [badN, if_pos ha, badN, if_pos hb'] at hb
      simpa using hb
    have va := hexV_lt a ha
    have vb := hexV_lt b hb'
    have ih := hex_un r hr (by simp at h2; omega)
    have e : (UInt8.ofNat (hexV a.toNat * 16 + hexV b.toNat)).toNat = hexV a.toNat * 16 + hexV b.toNat := by simp; omega
    rw [unL, hexL, e, ih]
    have e1 : (hexV a.toNat * 16 + hexV b.toNat) / 16 = hexV a.toNat := by omega
    have e2 : (hexV a.toNat * 16 + hexV b.toNat) % 16 = hexV b.toNat := by omega
    rw [e1, e2, hv_up a ha, hv_up b hb']
    rfl
def unS (s : ByteArray) : ByteArray := ⟨(unL s.data.toList).toArray⟩
theorem unS_size (s : ByteArray) : (unS s).size = (unL s.data.toList).length := List.size_toArray
theorem hexS_un (s : ByteArray) (h : hexOk s.data.toList) : hexS (unS s) = upS s := by
  unfold hexS upS
  congr 1
  show (hexL (unL s.data.toList)).toArray = _
  rw [hex_un _ h.1 h.2]
theorem row_un {s : ByteArray} {w : World} {base g n cap : Nat} (hn : (unL s.data.toList).length = n) (h : w.ownsRow base 5 1 (.slice (some ⟨g, 0, none⟩) n cap) n (cellsB (unL s.data.toList))) : RowAt (unS s) g 0 w := by
  intro j hj
  rw [unS_size] at hj
  rw [Nat.zero_add, h.cellAt j (by omega)]
  simp only [cellsB, List.getElem?_map, List.getElem?_eq_getElem hj, Option.map_some]
  rfl
theorem hexof_n (s : ByteArray) (n g cap : Nat) (hn : s.size = n) (w : World) (hr : RowAt s g 0 w) (hs : 2 * n ≤ 281474976710656) :
    Calls Tryd.prog 15 #[.slice (some ⟨g, 0, none⟩) n cap] w fun e w' => e = .returned (.string (hexS s)) ∧ Below w.heap.size w w' := by
  subst hn
  exact hexof_any s g 0 cap w hr hs

set_option maxRecDepth 100000 in
set_option maxHeartbeats 4000000 in
theorem walk_ok (s : ByteArray) (w : World) (ht : Table w) (hs : s.size ≤ 140737488351232) (hok : hexOk s.data.toList) :
    Calls Tryd.prog 6 #[.string s] w fun e w' => e = .returned (.bool true) ∧ Below w.heap.size w w' := by
  have hl : s.data.toList.length = s.size := by rw [Array.length_toList]; rfl
  obtain ⟨n, hn⟩ : ∃ n, s.size = 2 * n := ⟨s.size / 2, by have := hok.2; rw [hl] at this; omega⟩
  have HN : Hid (s.size = 2 * n) := hn
  have HU : Hid ((unL s.data.toList).length = n) := by show _ = _; rw [unL_length, hl]; omega
  have hu := hexS_un s hok
  have HK : Hid (hexOk s.data.toList) := hok
  have ms : s.size ≤ maxLen := by unfold maxLen; omega
  have HT : Hid (Table w) := ht
  clear hl hn hok ht
  go_enter Tryd.func6, Tryd.ntmps6
  go_wp2_with fail
  refine (wakes_any _ HT.out).mono ?_
  rintro e w1 ⟨rfl, hb1⟩
  have HT1 : Hid (Table w1) := HT.out.below hb1
  go_wp2_with fail
  refine (unhex_okn s n HN.out _ HT1.out (by omega) HK.out).mono ?_
  rintro e w2 ⟨g, rfl, hg, ho2, hb2⟩
  have HO2 : Hid (w2.ownsRow w1.heap.size 5 1 (.slice (some ⟨g, 0, none⟩) n n) n (cellsB (unL s.data.toList))) := ho2
  clear ho2
  go_wp2_with fail
  refine (runhex_okn s n HN.out _ hs HK.out).mono ?_
  rintro e w3 ⟨v, rfl, ho3, hb3⟩
  clear ho3
  have hz : w2.heap.size < w3.heap.size := by have := hb3.size; simp at this; omega
  have hc0 : w3.cell? ⟨w2.heap.size, 0, none⟩ = some (.int .i64 0) := (hb3.cell (p := ⟨w2.heap.size, 0, none⟩) (by simp)).trans (World.cell?_alloc_mark w2 #[.int .i64 0, .int .i64 0] 36 (0, 0) 0)
  have hc1 : w3.cell? ⟨w2.heap.size, 1, none⟩ = some (.int .i64 0) := (hb3.cell (p := ⟨w2.heap.size, 1, none⟩) (by simp)).trans (World.cell?_alloc_mark w2 #[.int .i64 0, .int .i64 0] 36 (0, 0) 1)
  have HR : Hid (∀ o : Obj, RowAt (unS s) g 0 (w3.alloc o)) := fun o => by
    have h2 := row_un HU.out HO2.out
    have hg2 : g < w2.heap.size := (HO2.out.lt g rfl).2
    have h3 := (h2.below ((Below.refl _ _).alloc (Nat.le_refl _) _) hg2).below hb3 (by simp; omega)
    exact h3.below ((Below.refl _ _).alloc (Nat.le_refl _) o) (by omega)
  have g2 := hb1.trans (hb2.mono hb1.size)
  have g3 := (g2.alloc g2.size (.cells #[.int .i64 0, .int .i64 0] 36))
  have g4 := g3.trans (hb3.mono g3.size)
  have g5 := g4.alloc g4.size (.cells #[.int .i64 0, .int .i64 0] 36)
  have HB5 : Hid (Below w.heap.size w (w3.alloc (.cells #[.int .i64 0, .int .i64 0] 36))) := g5
  clear g2 g3 g4 g5 hb1 hb2 hb3 HO2 HT HT1
  have hsz : (unS s).size = n := by rw [unS_size]; exact HU.out
  have HSZ : Hid ((unS s).size = n) := hsz
  clear hsz
  have HN2 : Hid (2 * n ≤ 281474976710656) := by have := HN.out; show _ ≤ _; omega
  go_wp2_with fail
  refine (hexof_n (unS s) n g n HSZ.out _ (HR.out _) HN2.out).mono ?_
  rintro e w5 ⟨rfl, hb5⟩
  go_wp2_with fail
  refine (upper_any s _ ms).mono ?_
  rintro e w6 ⟨rfl, hb6⟩
  go_wp2
  go_ret
  have g6 := HB5.out.trans (hb5.mono HB5.out.size)
  exact ⟨rfl, g6.trans (hb6.mono g6.size)⟩

set_option maxRecDepth 100000 in
set_option maxHeartbeats 4000000 in
theorem walk_bad (s : ByteArray) (w : World) (ht : Table w) (hs : s.size ≤ 140737488351232) (hok : ¬ hexOk s.data.toList) :
    Calls Tryd.prog 6 #[.string s] w fun e w' => e = .returned (.bool true) ∧ Below w.heap.size w w' := by
  have hl : s.data.toList.length = s.size := by rw [Array.length_toList]; rfl
  have ms : s.size ≤ maxLen := by unfold maxLen; omega
  obtain ⟨n, hn⟩ : ∃ n, n = badN 4 s.data.toList := ⟨_, rfl⟩
  have hb := badN_le 4 s.data.toList
  have hq : n < s.size ∨ (¬ n < s.size ∧ s.size % 2 = 1) := by
    have h' := hok
    unfold hexOk at h'
    rw [hl, ← hn] at h'
    rw [hl, ← hn] at hb
    omega
  have hn' : badN 4 s.data.toList = n := hn.symm
  have HK : Hid (¬ hexOk s.data.toList) := hok
  have HT : Hid (Table w) := ht
  clear hl hn hok ht hb
  go_enter Tryd.func6, Tryd.ntmps6
  go_wp2_with fail
  refine (wakes_any _ HT.out).mono ?_
  rintro e w1 ⟨rfl, hb1⟩
  have HT1 : Hid (Table w1) := HT.out.below hb1
  go_wp2_with fail
  refine (unhex_bad s _ HT1.out ms HK.out).mono ?_
  rintro e w2 ⟨rfl, hb2⟩
  rw [hn']
  go_wp2_with fail
  refine (runhex_bad s _ ms HK.out).mono ?_
  rintro e w3 ⟨rfl, hb3⟩
  rw [hn']
  have hz : w2.heap.size < w3.heap.size := by have := hb3.size; simp at this; omega
  have hc0 : w3.cell? ⟨w2.heap.size, 0, none⟩ = some (.int .i64 10) := (hb3.cell (p := ⟨w2.heap.size, 0, none⟩) (by simp)).trans (World.cell?_alloc_mark w2 #[.int .i64 10, .int .i64 (n : Int)] 36 (0, 0) 0)
  have hc1 : w3.cell? ⟨w2.heap.size, 1, none⟩ = some (.int .i64 (n : Int)) := (hb3.cell (p := ⟨w2.heap.size, 1, none⟩) (by simp)).trans (World.cell?_alloc_mark w2 #[.int .i64 10, .int .i64 (n : Int)] 36 (0, 0) 1)
  have g2 := hb1.trans (hb2.mono hb1.size)
  have g3 := (g2.alloc g2.size (.cells #[.int .i64 10, .int .i64 (n : Int)] 36))
  have g4 := g3.trans (hb3.mono g3.size)
  have g5 := g4.alloc g4.size (.cells #[.int .i64 10, .int .i64 (n : Int)] 36)
  have HB5 : Hid (Below w.heap.size w (w3.alloc (.cells #[.int .i64 10, .int .i64 (n : Int)] 36))) := g5
  have HT5 : Hid (Table (w3.alloc (.cells #[.int .i64 10, .int .i64 (n : Int)] 36))) := HT.out.below g5
  clear g2 g3 g4 g5 hb1 hb2 hb3 HT HT1
  rcases hq with hq | ⟨hq, hodd⟩
  · have hq' : decide (n < s.size) = true := by simpa using hq
    clear hq
    go_wp2_with fail
    go_quiet ((go_at_call 10; exact Calls.quiet_of_same (bad_anyT _ _ _ HT5.out ms)))
    go_wp2
    go_ret
    exact ⟨rfl, ⟨HB5.out.os, HB5.out.tape, HB5.out.output, HB5.out.size, HB5.out.block⟩⟩
  · have hq' : decide (n < s.size) = false := by simpa using hq
    have hodd' : ((s.size : Int) % 2 == 1) = true := by simp; omega
    clear hodd hq
    go_wp2_with fail
    go_quiet ((go_at_call 10; exact Calls.quiet_of_same (bad_anyT _ _ _ HT5.out ms)))
    go_wp2
    go_ret
    exact ⟨rfl, ⟨HB5.out.os, HB5.out.tape, HB5.out.output, HB5.out.size, HB5.out.block⟩⟩

theorem walk (s : ByteArray) (w : World) (ht : Table w) (hs : s.size ≤ 140737488351232) :
    Calls Tryd.prog 6 #[.string s] w fun e w' => e = .returned (.bool true) ∧ Below w.heap.size w w' := by
  by_cases hok : hexOk s.data.toList
  · exact walk_ok s w ht hs hok
  · exact walk_bad s w ht hs hok

theorem contract (H : Type) (enc : TypeId × Value → H) (W : World) (base : Nat) (args : Array Value) (ds gs : List (DataW H)) (before : List MemPlace)
    (hval : ∀ (j : Nat) t v, Tryd.f6.params[j]? = some t → args[j]? = some v → Value.okWide Tryd.prog W .any base t v)
    (hW : DataW.Whole enc Tryd.prog Tryd.f6.params.toList Rows.octetPairsSpec.vars false W args.toList ds gs before)
    (hsz : (DataW.weightsEach Tryd.prog (Tryd.f6.params.toList ++ (OpenSpec.ofChange Rows.octetPairsSpec).bare.plain.varTypes Tryd.prog) (ds ++ gs)).all (· ≤ reachBytes) = true)
    (hL : laidMetH Tryd.prog Rows.octetPairsRow.laid W) :
    Calls Tryd.prog 6 args W fun e W' => ∃ v, e = .returned v ∧ Rows.octetPairsSpec.post enc Tryd.prog Tryd.f6 false true false false W args v W' := by
  have hW' := hW
  obtain ⟨p, q, hA0, hV, rfl, hfz, hnd⟩ := hW
  have hA : DataW.TrodAll enc Tryd.prog W 0 (fun _ => true) true Tryd.f6.params.toList args.toList ds p := hA0
  rw [Tryd.params6] at hA hval hsz
  obtain ⟨v0, vs0, d0, ds0, p0, q0, hargs, rfl, rfl, h0, r0⟩ := trodAll_cons hA
  obtain ⟨rfl, rfl, rfl⟩ := trodAll_nil r0
  obtain rfl : args = #[v0] := by cases args; simp_all
  obtain ⟨rfl, rfl⟩ := trodVars_none hV
  obtain ⟨a0, rfl, rfl, rfl, w0⟩ := open_string Tryd.underlying9 (hval 0 9 v0 rfl rfl) h0
  clear hA0
  have s0 := sized_string hsz (j := 0) (t := 9) rfl rfl
  simp only [reachBytes, Array.length_toList] at s0
  simp only [List.append_nil] at hW'
  refine (walk a0 W (table_of_fourth hL) s0).mono fun e W' ⟨he, bel⟩ => ?_
  subst he
  exact ⟨_, rfl, _, _, _, [], [], [], hW', trodAll_mk1 (shut_bool Tryd.underlying4 _), trodAll_cons_mk (shut_string Tryd.underlying9 w0) trodAll_mk0, rfl, bel.frame _, fun h => by cases h⟩

theorem laid_met (os : Os) : laidMet Tryd.prog Rows.octetPairsRow.laid ((laidWorld os).forCall (fun _ _ => 0) ⟨#[], #[.string ByteArray.empty], []⟩).memory :=
  laidMet_of_run' 8 (by kernel_rfl) (by kernel_rfl)
theorem reads (os : Os) {H : Type} (enc : TypeId × Value → H) : ∃ places, DataW.whole enc Tryd.prog ((laidWorld os).forCall (fun _ _ => 0) ⟨#[], #[.string ByteArray.empty], []⟩).memory Tryd.f6.params.toList Rows.octetPairsSpec.vars false #[Value.string ByteArray.empty].toList 8 = some ([.lit (.string [])], [], places) :=
  ⟨[], by kernel_rfl⟩

set_option maxRecDepth 100000 in
theorem lifted (os : Os) (started : os.Started) (H : Type) (enc : TypeId × Value → H) (F : Stop.Interp) :
    ReturnsInHanded {} Tryd.checked os 6 .any ((OpenSpec.ofChange Rows.octetPairsSpec).preRow enc Tryd.prog Tryd.f6 Rows.octetPairsRow.domain false Rows.octetPairsRow.laid) (((OpenSpec.ofChange Rows.octetPairsSpec).at F).post enc Tryd.prog Tryd.f6 false true false false) := by
  obtain ⟨places, hx⟩ := reads os enc
  refine returnsInHanded_of_row (C := Tryd.checked) (s := OpenSpec.ofChange Rows.octetPairsSpec) own started (by kernel_rfl) Tryd.func6
    (witness_row_at (enc := enc) (C := Tryd.checked) false (laidWorld os) #[.string ByteArray.empty] rfl (by kernel_rfl) (by kernel_rfl) (by kernel_rfl)
      (OpenSpec.preRow_of_cond 8 hx (by kernel_rfl) (fun k hk => by cases hk) (by kernel_rfl) (laid_met os))) ?_
  intro W base args ds gs before hval hW _ _ hsz hL _ _
  exact contract H enc W base args ds gs before hval hW hsz hL

theorem said : Rows.OctetPairsSaid :=
  OpenClaim.holds_of_cond 6 Tryd.f6 rfl rfl rfl rfl rfl rfl rfl ⟨rfl, rfl, rfl, rfl, rfl⟩ rfl rfl rfl rfl rfl (by kernel_rfl) Tryd.func6 (by kernel_rfl)
    (of_decide_eq_true (by kernel_rfl)) (by unfold Func.isWrapper; first | (rw [if_pos (by decide +kernel)]; kernel_rfl) | (rw [if_neg (by decide +kernel)]; exact ⟨rfl, rfl⟩))
    (fun os started H enc _ F => by rw [OpenClaim.pre_eq_preRow]; exact lifted os started H enc F)

/-- No parameter wants a stand-in; the program's own looks are off. -/
theorem plain (f : FuncId) (fn : Func) (hf : Tryd.pinned.checked.prog.funcNamed "posthorn/posthornlaw01.OctetPairs" = some f) (hfn : Tryd.pinned.checked.prog.funcs[f]? = some fn) :
    false = Tryd.pinned.checked.prog.looks [] ∧ ∀ (j : Nat) t, fn.params[j]? = some t → Tryd.pinned.checked.prog.wantsStandIn t = false := by
  obtain rfl : f = 6 := Option.some.inj ((show Tryd.prog.funcNamed "posthorn/posthornlaw01.OctetPairs" = some 6 by kernel_rfl).symm.trans hf) |>.symm
  obtain rfl : fn = Tryd.f6 := (Option.some.inj (Tryd.func6.symm.trans hfn)).symm
  refine ⟨by kernel_rfl, fun j t ht => ?_⟩
  rw [Tryd.params6] at ht
  have hm : t ∈ [9] := by simpa using Array.mem_of_getElem? ht
  have hall : ([9].all fun u => !Tryd.prog.wantsStandIn u) = true := by kernel_rfl
  exact (show Tryd.prog.wantsStandIn t = false by simpa using List.all_eq_true.1 hall t hm)

/-- The card. -/
theorem card : Rows.OctetPairsCardSaid :=
  Claim7.holds_tied_plain_at .later [] _ _ _ _ said (fun _ h => by cases h) (by kernel_rfl) (fun _ h => by cases h) octetPairs_row_tie rfl ⟨rfl, rfl⟩ (by kernel_rfl) rfl plain (by kernel_rfl)
end Go.Proofs.YtdgbkllhcoincabDoor.octetPairs
namespace Go.Proofs.YtdgbkllhcoincabDoor
theorem octetPairs_card : Rows.OctetPairsCardSaid := octetPairs.card
#print axioms octetPairs_card
end Go.Proofs.YtdgbkllhcoincabDoor
