/-
  The contract of the library's FormatUint to the base sixteen, of numbers of sixteen bits.
-/
import Derived.Test.YthkoionigdnhgabGreatDoorGa8
import Derived.Test.YthkoionigdnhgabGreatDoorRowl
import Derived.Lib.Walk
import Derived.Lib.QuoteBits
import Derived.Test.YthkoionigdnhgabGreatDoorQc9
import Derived.Lib.ConvBytes
import Derived.Deep.MidRow
namespace Go.Proofs.YthkoionigdnhgabGreatDoor
open Go.RowKit

set_option maxHeartbeats 1000000 in
theorem ispow_16 (w : World) : Calls Tryz.prog 211 #[.int .i64 16] w fun e w' => e = .returned (.bool true) ∧ w' = w := by
  have h : bits BinOp.and IntKind.i64 16 15 = 0 := by decide +kernel
  go_enter Tryz.func211, Tryz.ntmps211
  go_wp2
  go_ret
  exact ⟨rfl, rfl⟩
set_option maxHeartbeats 1000000 in
set_option maxRecDepth 100000 in
theorem tz64_16 (w : World) (ht : w.cell? ⟨11, 15, none⟩ = some (.int .u8 4)) : Calls Tryz.prog 224 #[.int .u64 16] w fun e w' => e = .returned (.int .i64 4) ∧ w' = w := by
  have h : IntKind.u64.wrap (bits BinOp.and IntKind.u64 16 (IntKind.u64.wrap (-16)) * 285870213051353865) / 288230376151711744 = 15 := by decide +kernel
  go_enter Tryz.func224, Tryz.ntmps224
  go_wp2_with fail
  go_ret
  exact ⟨rfl, rfl⟩
set_option maxHeartbeats 1000000 in
set_option maxRecDepth 100000 in
theorem tz_16 (w : World) (ht : w.cell? ⟨11, 15, none⟩ = some (.int .u8 4)) : Calls Tryz.prog 212 #[.int .u64 16] w fun e w' => e = .returned (.int .i64 4) ∧ w' = w := by
  go_enter Tryz.func212, Tryz.ntmps212
  go_wp2_with (go_at_call 224; refine (tz64_16 _ ht).mono ?_; rintro e w' ⟨rfl, rfl⟩)
  go_ret
  exact ⟨rfl, rfl⟩

theorem hexF_fuel : ∀ (f n : Nat), n < 16 ^ (f + 1) → hexF f n = hexF (f + 1) n
  | 0, n, h => by
    have hn : n < 16 := by simpa using h
    rw [hexF, hexF, if_pos hn, Nat.mod_eq_of_lt hn]
  | f + 1, n, h => by
    rw [hexF, hexF]
    by_cases hn : n < 16
    · rw [if_pos hn, if_pos hn]
    · rw [if_neg hn, if_neg hn, ← hexF_fuel f (n / 16) (Nat.div_lt_of_lt_mul (by rw [Nat.pow_succ] at h; omega))]
theorem hexD_step (n : Nat) (h : n < 65536) (h16 : 16 ≤ n) : hexD n = hexD (n / 16) ++ [hexC (n % 16)] := by
  have e : hexD (n / 16) = hexF 15 (n / 16) := (hexF_fuel 15 (n / 16) (by omega)).symm
  rw [e]
  unfold hexD
  rw [hexF, if_neg (by omega)]
theorem hexD_last (n : Nat) (h : n < 16) : hexD n = [hexC n] := by
  unfold hexD
  rw [hexF, if_pos h]
theorem digS_fin : ∀ d : Fin 16, (⟨#[48, 49, 50, 51, 52, 53, 54, 55, 56, 57, 97, 98, 99, 100, 101, 102, 103, 104, 105, 106, 107, 108, 109, 110, 111, 112, 113, 114, 115, 116, 117, 118, 119, 120, 121, 122]⟩ : ByteArray)[d.val]'(Nat.lt_of_lt_of_le d.isLt (by decide)) = hexC d.val := by decide +kernel
theorem digS_at (d : Nat) (h : d < 16) (h' : d < 36) : (⟨#[48, 49, 50, 51, 52, 53, 54, 55, 56, 57, 97, 98, 99, 100, 101, 102, 103, 104, 105, 106, 107, 108, 109, 110, 111, 112, 113, 114, 115, 116, 117, 118, 119, 120, 121, 122]⟩ : ByteArray)[d]'h' = hexC d := digS_fin ⟨d, h⟩
theorem and15_u64 (x : Nat) (h : x < 65536) : bits .and .u64 (x : Int) 15 = ((x % 16 : Nat) : Int) := by
  show IntKind.u64.wrap ((BitVec.ofInt 64 (x : Int) &&& BitVec.ofInt 64 ((15 : Nat) : Int)).toNat : Int) = _
  rw [BitVec.toNat_and, ofInt_u64 x (by omega), ofInt_u64 15 (by omega), nat_mask4]
  have e : ((x % 16 : Nat) : Int) % 2 ^ 64 = ((x % 16 : Nat) : Int) := Int.emod_eq_of_lt (by omega) (by omega)
  simp only [IntKind.wrap, IntKind.bits, IntKind.signed, e]
  simp
/-- The row of digits. -/
structure Fb (w : World) (ds : List UInt8) (wr : World) : Prop where
  a : Lies wr w.heap.size (bytesV (List.replicate (65 - ds.length) 0 ++ ds.map UInt8.toNat)) 264
  below : Below w.heap.size w wr
theorem Fb.put {w wr : World} {ds : List UInt8} (h : Fb w ds wr) (hl : ds.length < 65) (c : UInt8) : Fb w (c :: ds) (wr.setCell ⟨w.heap.size, 64 - ds.length, none⟩ (.int .u8 (c.toNat : Int))) := by
  refine ⟨?_, h.below.setCell (p := ⟨w.heap.size, 64 - ds.length, none⟩) (Nat.le_refl _) _⟩
  have := h.a.set (64 - ds.length) (.int .u8 (c.toNat : Int))
  rw [bytesV_set] at this
  have e : (List.replicate (65 - ds.length) 0 ++ ds.map UInt8.toNat).set (64 - ds.length) c.toNat = List.replicate (65 - (c :: ds).length) 0 ++ (c :: ds).map UInt8.toNat := by
    rw [List.set_append_left _ _ (by simp; omega), show 65 - ds.length = 64 - ds.length + 1 from by omega, List.replicate_succ', List.set_append_right _ _ (by simp)]
    simp [show 65 - (ds.length + 1) = 64 - ds.length from by omega]
  rw [e] at this
  exact this
theorem Fb.cell {w wr : World} {ds : List UInt8} (h : Fb w ds wr) (k : Nat) (hk : k < 65) (hl : ds.length ≤ 65) : ∃ v, wr.cell? ⟨w.heap.size, k, none⟩ = some v :=
  ⟨_, (h.a.cell k).trans (bytesV_at _ k (by simp; omega))⟩

theorem fb_conv {w wr : World} {ds : List UInt8} {i : Nat} (h : Fb w ds wr) (hi : i + ds.length = 65) :
    (convert 53 9 (.slice (some ⟨w.heap.size, i, none⟩) (65 - i) (65 - i))).run Tryz.prog wr = .ok (.string ⟨ds.toArray⟩) wr := by
  have := run_convert_bytes_back (P := Tryz.prog) wr 53 9 5 ⟨w.heap.size, i, none⟩ (65 - i) ds Tryz.underlying53 Tryz.underlying5 Tryz.underlying9 (fun j hj => by
    have he : (⟨w.heap.size, i, none⟩ : Addr).add j = ⟨w.heap.size, i + j, none⟩ := by rw [Addr.add_lit]
    rw [he, h.a.cell, bytesV_at _ _ (by simp; omega)]
    congr 3
    rw [List.getElem_append_right (by simp; omega), List.getElem_map]
    congr 2
    simp
    omega)
  rw [show ds.length = 65 - i from by omega] at this
  exact this

set_option maxHeartbeats 4000000 in
set_option maxRecDepth 100000 in
theorem fbits_16 (n : Nat) (hn : n < 65536) (w : World) (ht : w.cell? ⟨11, 15, none⟩ = some (.int .u8 4)) :
    Calls Tryz.prog 199 #[.slice none 0 0, .int .u64 (n : Nat), .int .i64 16, .bool false, .bool false] w fun e w' => e = .returned (.tuple #[.slice none 0 0, .string ⟨(hexD n).toArray⟩]) ∧ Below w.heap.size w w' := by
  have ez : Tryz.zeroCells264 = bytesV (List.replicate 65 0) := by kernel_rfl
  have H0 : Hid (Fb w [] (w.alloc (.cells Tryz.zeroCells264 264))) := ⟨by rw [ez]; exact Lies.new w _ _, (Below.refl _ _).alloc (Nat.le_refl _) _⟩
  have hg : 11 < w.heap.size := World.block_lt_of_cell? w _ ht
  have ht1 : (w.alloc (.cells Tryz.zeroCells264 264)).cell? ⟨11, 15, none⟩ = some (.int .u8 4) := by
    rw [H0.out.below.cell (p := ⟨11, 15, none⟩) hg]
    exact ht
  clear ez
  go_enter Tryz.func199, Tryz.ntmps199
  go_wp2_with (go_at_call 211; refine (ispow_16 _).mono ?_; rintro e w' ⟨rfl, rfl⟩)
  refine (tz_16 _ ht1).mono ?_
  rintro e w1 ⟨rfl, hw1⟩
  rw [← hw1] at H0
  clear ht1 hw1
  go_wp2_with fail
  go_loopw [1, 13] (fun u c wr => ∃ (m : Nat) (ds : List UInt8), u = .int .u64 (m : Nat) ∧ c = .int .i64 ((65 - ds.length : Nat) : Int) ∧ ds.length ≤ 3 ∧ m < 16 ^ (4 - ds.length) ∧ Hid (Fb w ds wr) ∧ Hid (hexD n = hexD m ++ ds)) (fun u _ _ => (intOf u).toNat)
  case atStart => exact ⟨n, [], rfl, rfl, by simp, hn, H0, by show _ = _; rw [List.append_nil]⟩
  case round =>
    obtain ⟨m, ds, rfl, rfl, hl, hm, HF, HD⟩ := hrel
    clear H0
    have hm6 : m < 65536 := Nat.lt_of_lt_of_le hm (Nat.pow_le_pow_right (n := 16) (by decide) (show 4 - ds.length ≤ 4 by omega))
    obtain ⟨v, hv⟩ := HF.out.cell (64 - ds.length) (by omega) (by omega)
    have hfz := HF.out.a.frozen (64 - ds.length)
    have hz := HF.out.a.lt
    obtain ⟨i, hi⟩ : ∃ i, i = 64 - ds.length := ⟨_, rfl⟩
    rw [show 65 - ds.length = i + 1 from by omega]
    rw [← hi] at hv hfz
    have hi64 : i ≤ 64 := by omega
    have hi64' : (i : Int) < 65 := by omega
    have HI : Hid (i = 64 - ds.length) := hi
    clear hi
    by_cases h16 : 16 ≤ m
    · have h16' : (16 : Int) ≤ (m : Int) := by omega
      obtain ⟨d, hd⟩ : ∃ d, d = m % 16 := ⟨_, rfl⟩
      have hand := and15_u64 m hm6
      rw [← hd] at hand
      have hd16 : d < 16 := by omega
      have hd36 : d < 36 := by omega
      have hd36' : (d : Int) < 36 := by omega
      have hdg := digS_at d hd16 hd36
      have hpow : m / 16 < 16 ^ (4 - (ds.length + 1)) ∧ ds.length + 1 ≤ 3 := by
        match hds : ds.length, hl with
        | 0, _ => rw [hds] at hm; exact ⟨by omega, by omega⟩
        | 1, _ => rw [hds] at hm; exact ⟨by omega, by omega⟩
        | 2, _ => rw [hds] at hm; exact ⟨by omega, by omega⟩
        | 3, _ => rw [hds] at hm; omega
      have HN : Hid (Fb w (hexC d :: ds) (wr.setCell ⟨w.heap.size, i, none⟩ (.int .u8 (((⟨#[48, 49, 50, 51, 52, 53, 54, 55, 56, 57, 97, 98, 99, 100, 101, 102, 103, 104, 105, 106, 107, 108, 109, 110, 111, 112, 113, 114, 115, 116, 117, 118, 119, 120, 121, 122]⟩ : ByteArray)[d]'hd36).toNat : Int)))) := by
        rw [hdg]
        have := HF.out.put (by omega) (hexC d)
        rw [← HI.out] at this
        exact this
      have HDN : Hid (hexD n = hexD (m / 16) ++ hexC d :: ds) := by
        show _ = _
        rw [HD.out, hexD_step m hm6 h16, ← hd, List.append_assoc]
        rfl
      clear hd hdg hm HF HD
      go_wp2_with fail
      go_roundw
      case rel => exact ⟨m / 16, hexC d :: ds, by go_num, by rw [List.length_cons, HI.out]; congr 1; omega, hpow.2, hpow.1, HN, HDN⟩
      case measure => simp [intOf]; omega
    · have h16' : ¬ (16 : Int) ≤ (m : Int) := by omega
      have hm16 : m < 16 := by omega
      have hm36 : m < 36 := by omega
      have hm36' : (m : Int) < 36 := by omega
      have hdg := digS_at m hm16 hm36
      have HN : Hid (Fb w (hexC m :: ds) (wr.setCell ⟨w.heap.size, i, none⟩ (.int .u8 (((⟨#[48, 49, 50, 51, 52, 53, 54, 55, 56, 57, 97, 98, 99, 100, 101, 102, 103, 104, 105, 106, 107, 108, 109, 110, 111, 112, 113, 114, 115, 116, 117, 118, 119, 120, 121, 122]⟩ : ByteArray)[m]'hm36).toNat : Int)))) := by
        rw [hdg]
        have := HF.out.put (by omega) (hexC m)
        rw [← HI.out] at this
        exact this
      have HDN : Hid (hexD n = hexC m :: ds) := by
        show _ = _
        rw [HD.out, hexD_last m hm16]
        rfl
      have hcv := fb_conv (i := i) HN.out (by have := HI.out; simp; omega)
      rw [← HDN.out] at hcv
      have h65 : (65 : Int) - (i : Int) = ((65 - i : Nat) : Int) := by omega
      have hal : Tryz.prog.arrayLen 264 = 65 := by simp [Program.arrayLen, Tryz.underlying264]
      have hsl : ∀ W, (Instr.sliceAt 264 (.pointer (some ⟨w.heap.size, 0, none⟩)) (some (.int .i64 (i : Int))) none none).run Tryz.prog W = .ok (.slice (some ⟨w.heap.size, i, none⟩) (65 - i) (65 - i)) W := fun W => by
        rw [run_sliceAt_array_l W 264 ⟨w.heap.size, 0, none⟩ (by simp [Program.arrayLen, Program.elem, Tryz.underlying264]) .i64 (i : Int) (by omega) (by rw [hal]; omega), hal]
        go_simp
        omega
      clear hdg hm HF HD hal
      go_wp2_with fail
      exact bodyPost_ret (v := .tuple #[.slice none 0 0, .string ⟨(hexD n).toArray⟩]) (by simp [results, Tryz.results199, go_sem]) rfl ⟨rfl, HN.out.below⟩

set_option maxHeartbeats 1000000 in
set_option maxRecDepth 100000 in
/-- strconv.FormatUint to the base sixteen. -/
theorem fmt_16 (n : Nat) (hn : n < 65536) (w : World) (ht : w.cell? ⟨11, 15, none⟩ = some (.int .u8 4)) :
    Calls Tryz.prog 153 #[.int .u64 (n : Nat), .int .i64 16] w fun e w' => e = .returned (.string ⟨(hexD n).toArray⟩) ∧ Below w.heap.size w w' := by
  have HF : Hid (Calls Tryz.prog 199 #[.slice none 0 0, .int .u64 (n : Nat), .int .i64 16, .bool false, .bool false] w fun e w' => e = .returned (.tuple #[.slice none 0 0, .string ⟨(hexD n).toArray⟩]) ∧ Below w.heap.size w w') := fbits_16 n hn w ht
  generalize (hexD n).toArray = ar at HF ⊢
  go_enter Tryz.func153, Tryz.ntmps153
  go_wp2_with (first | (go_at_call 186; go_in) | (go_at_call 199; refine HF.out.mono ?_; rintro e w' ⟨rfl, hb⟩))
  go_ret
  exact ⟨rfl, by assumption⟩
end Go.Proofs.YthkoionigdnhgabGreatDoor
/-
  The document's box.
-/
namespace Go.Proofs.YthkoionigdnhgabGreatDoor
open Go.RowKit

theorem infoBx : (Tryz.prog.info? 30).map (·.size) = some 19 := by kernel_rfl
/-- A mailbox's cells. -/
def boxC (l : List UInt8) (h : Ho) : Array Value := #[.string (txt l)] ++ hostC h
theorem boxC_size (l : List UInt8) (h : Ho) (ha : h.a.length = 16) : (boxC l h).size = 19 := by
  unfold boxC
  rw [Array.size_append, hostC_size h ha]
  rfl
theorem boxC_one (l : List UInt8) (h : Ho) : (boxC l h).all (·.oneCell') = true := by
  have := hostC_one h
  unfold boxC
  rw [Array.all_append, this]
  simp [Value.oneCell']
end Go.Proofs.YthkoionigdnhgabGreatDoor
/-
  The document's written.
-/
namespace Go.Proofs.YthkoionigdnhgabGreatDoor
open Go.RowKit

theorem infoPt : (Tryz.prog.info? 32).map (·.size) = some 21 := by kernel_rfl
/-- A path's cells. -/
def pthC (k : Int) (sl : Value) (l : List UInt8) (h : Ho) : Array Value := #[.int .i64 k, sl, .string (txt l)] ++ hostC h
theorem pthC_size (k : Int) (sl : Value) (l : List UInt8) (h : Ho) (ha : h.a.length = 16) : (pthC k sl l h).size = 21 := by
  unfold pthC
  rw [Array.size_append, hostC_size h ha]
  rfl
/-- Hosts that lie in memory. -/
def RtM (w : World) (sp : Option Addr) (r : List Ho) : Prop := r = [] ∨ ∃ g o, sp = some ⟨g, o, none⟩ ∧ g < w.heap.size ∧ ∀ j (hj : j < r.length), w.rangeAt g (o + j * 18) (hostC r[j]).toList
theorem RtM.below {w w' : World} {sp : Option Addr} {r : List Ho} (h : RtM w sp r) (hb : Below w.heap.size w w') : RtM w' sp r := by
  rcases h with h | ⟨g, o, h1, h2, h3⟩
  · exact .inl h
  · refine .inr ⟨g, o, h1, Nat.lt_of_lt_of_le h2 hb.size, fun j hj i v hv => ?_⟩
    rw [hb.cell (p := ⟨g, o + j * 18 + i, none⟩) h2]
    exact h3 j hj i v hv
theorem exec_mid9 {P : Program} {op : Oper} {a : Act} {w : World} (ty : TypeId) (x : Operand) (ho : op.op = .load ty x) (g o : Nat) (hx : a.eval x = .pointer (some ⟨g, o, none⟩)) (cs : List Value) (d : TypeDesc) (hc : w.rangeAt g o cs)
    (hu : P.underlying ty = some d) (hd : d.isRow = true) (hi : (P.info? ty).map (·.size) = some cs.length) : (execOp a.eval op).run P w = .ok (.value (.agg cs.toArray)) w := by
  unfold execOp
  simp only [ho, hx, Instr.loadAt, Instr.sureAddr, Sem.run_bind, Sem.run_pure, Result.andThen_ok, run_loadVar_mid w g o ty cs d hc hu hd hi]

end Go.Proofs.YthkoionigdnhgabGreatDoor
