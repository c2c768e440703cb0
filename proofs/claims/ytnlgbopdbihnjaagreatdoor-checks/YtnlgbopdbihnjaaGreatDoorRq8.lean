/-
  The document's Print.
-/
import Derived.Test.YtnlgbopdbihnjaaGreatDoorRi8
import Derived.Test.YtnlgbopdbihnjaaGreatDoorRc8
import Derived.Test.YtnlgbopdbihnjaaGreatDoorNum
namespace Go.Proofs.YtnlgbopdbihnjaaGreatDoor
open Go.RowKit

set_option maxHeartbeats 4000000 in
set_option maxRecDepth 100000 in
theorem rprint_any (h : Ho) (ok : h.Ok) (w : World) (hn : h.n.length ≤ 140737488351232) :
    Calls Tryz.prog 18 #[hostV h] w fun e w' => e = .returned (printV (print h)) ∧ Below w.heap.size w w' := by
  have ha := ok.len
  have hsz := hostC_size h ha
  obtain ⟨HC, hHC⟩ : ∃ HC, HC = hostC h := ⟨_, rfl⟩
  have e1 : hostV h = .agg HC := by rw [hHC]; rfl
  have HHC : Hid (HC = hostC h) := hHC
  rw [← hHC] at hsz
  have L1 : Hid (Lies (w.alloc (.cells HC 28)) w.heap.size HC 28) := Lies.new w _ _
  have HB : Hid (Below w.heap.size w (w.alloc (.cells HC 28))) := (Below.refl _ _).alloc (Nat.le_refl _) _
  have HCK : Hid (Calls Tryz.prog 22 #[.agg HC, .bool true] (w.alloc (.cells HC 28)) fun e w' => e = .returned (.int .i64 (check h true : Nat)) ∧ Below (w.alloc (.cells HC 28)).heap.size (w.alloc (.cells HC 28)) w') := by
    rw [← e1]
    exact rcheck_any h ha true _ hn
  rw [e1]
  clear hHC e1
  go_enter Tryz.func18, Tryz.ntmps18
  go_wp2_with (refine wpList_load_row rfl 28 _ rfl w.heap.size rfl HC 28 _ L1.out Tryz.underlying28 rfl (by rw [hsz]; exact infoHo) ?_)
  refine HCK.out.mono ?_
  rintro e w1 ⟨rfl, hb1⟩
  have K1 : Hid (Lies w1 w.heap.size HC 28) := L1.out.below hb1 L1.out.lt
  have KB : Hid (Below w.heap.size w w1) := HB.out.trans (hb1.mono (Nat.le_of_lt L1.out.lt))
  clear hb1 L1 HB HCK
  have hz1 := K1.out.lt
  have K1h : Lies w1 w.heap.size (hostC h) 28 := by rw [← HHC.out]; exact K1.out
  obtain ⟨c0, c1⟩ := host_cells K1h
  by_cases hck : check h true = 0
  case neg =>
    have HV : Hid (print h = ([], check h true)) := by show _ = _; unfold print; rw [if_neg hck]
    have hck' : ((check h true : Int) == 0) = false := by rw [beq_eq_false_iff_ne]; omega
    have hck2 : ((check h true : Int) != 0) = true := by rw [bne, hck']; rfl
    generalize check h true = ck at HV hck' hck2 ⊢
    clear hck
    go_wp2_with fail
    refine bodyPost_ret (v := .tuple #[.string ⟨#[]⟩, .int .i64 (ck : Int)]) (by simp [results, Tryz.results18, go_sem]) rfl ⟨by rw [HV.out]; rfl, KB.out⟩
  rw [hck]
  by_cases k2 : h.k = 2
  · have HV : Hid (print h = ([91] ++ print4 (h.a.take 4) ++ [93], 0)) := by show _ = _; unfold print; rw [if_pos hck, if_pos k2]
    rw [k2] at c0
    obtain ⟨q0, q1, q2, q3, hq⟩ : ∃ q0 q1 q2 q3, h.a.take 4 = [q0, q1, q2, q3] := by
      have : (h.a.take 4).length = 4 := by rw [List.length_take]; omega
      match h.a.take 4, this with
      | [q0, q1, q2, q3], _ => exact ⟨q0, q1, q2, q3, rfl⟩
    have HM4 := host_mid4 K1h
    have hb4 : ∀ n ∈ [q0, q1, q2, q3], n < 256 := fun n hn => by rw [← hq] at hn; exact ok.byt n (List.mem_of_mem_take hn)
    rw [hq] at HM4 HV
    have HS4 : Hid (w1.rangeAt w.heap.size 2 [.int .u8 (q0 : Nat), .int .u8 (q1 : Nat), .int .u8 (q2 : Nat), .int .u8 (q3 : Nat)]) := HM4
    have hlen := print4_len q0 q1 q2 q3
    have HPV : Hid (Calls Tryz.prog 27 #[.agg #[.int .u8 (q0 : Nat), .int .u8 (q1 : Nat), .int .u8 (q2 : Nat), .int .u8 (q3 : Nat)]] w1 fun e w' => e = .returned (.string ⟨(print4 [q0, q1, q2, q3]).toArray⟩) ∧ Below w1.heap.size w1 w') := rpv4_any q0 q1 q2 q3 (hb4 _ (by simp)) (hb4 _ (by simp)) (hb4 _ (by simp)) (hb4 _ (by simp)) w1
    have d0 : w1.cell? ⟨w.heap.size, 2, none⟩ = some (.int .u8 (q0 : Nat)) := HS4.out 0 _ rfl
    have d1 : w1.cell? ⟨w.heap.size, 3, none⟩ = some (.int .u8 (q1 : Nat)) := HS4.out 1 _ rfl
    have d2 : w1.cell? ⟨w.heap.size, 4, none⟩ = some (.int .u8 (q2 : Nat)) := HS4.out 2 _ rfl
    have d3 : w1.cell? ⟨w.heap.size, 5, none⟩ = some (.int .u8 (q3 : Nat)) := HS4.out 3 _ rfl
    generalize print4 [q0, q1, q2, q3] = ps at HV hlen HPV
    obtain ⟨S, hS⟩ : ∃ S : ByteArray, S = ⟨ps.toArray⟩ := ⟨_, rfl⟩
    have hSs : (S.size : Int) ≤ 100 := by rw [hS]; show ((ps.toArray.size : Nat) : Int) ≤ _; rw [List.size_toArray]; omega
    have HF : Hid ((⟨([91] ++ ps ++ [93]).toArray⟩ : ByteArray) = ⟨#[91]⟩ ++ S ++ ⟨#[93]⟩) := by
      show _ = _
      rw [hS, show (⟨#[91]⟩ : ByteArray) = ⟨([91] : List UInt8).toArray⟩ from rfl, show (⟨#[93]⟩ : ByteArray) = ⟨([93] : List UInt8).toArray⟩ from rfl, str_append, str_append]
    rw [← hS] at HPV
    have ad1 : ∀ W, (Op.stringOp .add ⟨#[91]⟩ S).run Tryz.prog W = .ok (.string (⟨#[91]⟩ ++ S)) W := fun W => run_string_add _ _ _ (by decide) (by omega)
    have ad2 : ∀ W, (Op.stringOp .add (⟨#[91]⟩ ++ S) ⟨#[93]⟩).run Tryz.prog W = .ok (.string (⟨#[91]⟩ ++ S ++ ⟨#[93]⟩)) W := fun W => run_string_add _ _ _ (by rw [ByteArray.size_append]; show ((1 + S.size : Nat) : Int) ≤ _; omega) (by decide)
    clear HM4 hq hb4 k2 hck hS hSs hlen
    go_wp2_with fail
    refine HPV.out.mono ?_
    rintro e w2 ⟨rfl, hb2⟩
    have KB2 : Hid (Below w.heap.size w w2) := KB.out.trans (hb2.mono (Nat.le_of_lt hz1))
    clear hb2 HPV c0 c1 d0 d1 d2 d3 K1h
    go_wp2_with fail
    refine bodyPost_ret (v := .tuple #[.string (⟨#[91]⟩ ++ S ++ ⟨#[93]⟩), .int .i64 0]) (by simp [results, Tryz.results18, go_sem]) rfl ⟨by rw [HV.out]; unfold printV; rw [HF.out]; rfl, KB2.out⟩
  have k2' : (h.k == 2) = false := by rw [beq_eq_false_iff_ne]; exact k2
  by_cases k3 : h.k = 3
  · have HV : Hid (print h = ([91, 73, 80, 118, 54, 58] ++ print6 h.a ++ [93], 0)) := by show _ = _; unfold print; rw [if_pos hck, if_neg k2, if_pos k3]
    rw [k3] at c0
    have HM := host_mid K1h
    obtain ⟨A, hA⟩ : ∃ A, A = h.a.map fun n => Value.int .u8 (n : Nat) := ⟨_, rfl⟩
    have hAl : A.length = 16 := by rw [hA, List.length_map, ha]
    rw [← hA] at HM
    have HMID : Hid (w1.rangeAt w.heap.size 2 A) := HM
    have hlen := print6_len h.a ha ok.byt
    have HPV : Hid (Calls Tryz.prog 28 #[.agg A.toArray] w1 fun e w' => e = .returned (.string ⟨(print6 h.a).toArray⟩) ∧ Below w1.heap.size w1 w') := by
      rw [hA]
      have := rpv6_any h.a ha ok.byt w1
      rw [pr6D_is h.a ha ok.byt] at this
      exact this
    generalize print6 h.a = ps at HV hlen HPV
    obtain ⟨S, hS⟩ : ∃ S : ByteArray, S = ⟨ps.toArray⟩ := ⟨_, rfl⟩
    have hSs : (S.size : Int) ≤ 100 := by rw [hS]; show ((ps.toArray.size : Nat) : Int) ≤ _; rw [List.size_toArray]; omega
    have HF : Hid ((⟨([91, 73, 80, 118, 54, 58] ++ ps ++ [93]).toArray⟩ : ByteArray) = ⟨#[91, 73, 80, 118, 54, 58]⟩ ++ S ++ ⟨#[93]⟩) := by
      show _ = _
      rw [hS, show (⟨#[91, 73, 80, 118, 54, 58]⟩ : ByteArray) = ⟨([91, 73, 80, 118, 54, 58] : List UInt8).toArray⟩ from rfl, show (⟨#[93]⟩ : ByteArray) = ⟨([93] : List UInt8).toArray⟩ from rfl, str_append, str_append]
    rw [← hS] at HPV
    have ad1 : ∀ W, (Op.stringOp .add ⟨#[91, 73, 80, 118, 54, 58]⟩ S).run Tryz.prog W = .ok (.string (⟨#[91, 73, 80, 118, 54, 58]⟩ ++ S)) W := fun W => run_string_add _ _ _ (by decide) (by omega)
    have ad2 : ∀ W, (Op.stringOp .add (⟨#[91, 73, 80, 118, 54, 58]⟩ ++ S) ⟨#[93]⟩).run Tryz.prog W = .ok (.string (⟨#[91, 73, 80, 118, 54, 58]⟩ ++ S ++ ⟨#[93]⟩)) W := fun W => run_string_add _ _ _ (by rw [ByteArray.size_append]; show ((6 + S.size : Nat) : Int) ≤ _; omega) (by decide)
    clear HM k2 k3 hck hS hSs hlen hA
    go_wp2_with (refine wpList_load_mid rfl 26 _ rfl w.heap.size 2 rfl A _ HMID.out Tryz.underlying26 rfl (by rw [hAl]; exact info16) ?_)
    refine HPV.out.mono ?_
    rintro e w2 ⟨rfl, hb2⟩
    have KB2 : Hid (Below w.heap.size w w2) := KB.out.trans (hb2.mono (Nat.le_of_lt hz1))
    clear hb2 HPV c0 c1 K1h
    go_wp2_with fail
    refine bodyPost_ret (v := .tuple #[.string (⟨#[91, 73, 80, 118, 54, 58]⟩ ++ S ++ ⟨#[93]⟩), .int .i64 0]) (by simp [results, Tryz.results18, go_sem]) rfl ⟨by rw [HV.out]; unfold printV; rw [HF.out]; rfl, KB2.out⟩
  have k3' : (h.k == 3) = false := by rw [beq_eq_false_iff_ne]; exact k3
  obtain ⟨S, hS⟩ : ∃ S : ByteArray, S = ⟨h.n.toArray⟩ := ⟨_, rfl⟩
  rw [← hS] at c1
  by_cases k4 : h.k = 4
  · have HV : Hid (print h = ([91] ++ h.n ++ [93], 0)) := by show _ = _; unfold print; rw [if_pos hck, if_neg k2, if_neg k3, if_pos k4]
    rw [k4] at c0
    have hnl : h.n.length ≤ 253 := by
      have := (check_tag k4 hck).2
      unfold chTag at this
      rcases Nat.lt_or_ge 253 h.n.length with hl | hl
      · rw [if_pos hl] at this; cases this
      · exact hl
    have hSs : (S.size : Int) ≤ 253 := by rw [hS]; show ((h.n.toArray.size : Nat) : Int) ≤ _; rw [List.size_toArray]; omega
    have HF : Hid ((⟨([91] ++ h.n ++ [93]).toArray⟩ : ByteArray) = ⟨#[91]⟩ ++ S ++ ⟨#[93]⟩) := by
      show _ = _
      rw [hS, show (⟨#[91]⟩ : ByteArray) = ⟨([91] : List UInt8).toArray⟩ from rfl, show (⟨#[93]⟩ : ByteArray) = ⟨([93] : List UInt8).toArray⟩ from rfl, str_append, str_append]
    have ad1 : ∀ W, (Op.stringOp .add ⟨#[91]⟩ S).run Tryz.prog W = .ok (.string (⟨#[91]⟩ ++ S)) W := fun W => run_string_add _ _ _ (by decide) (by omega)
    have ad2 : ∀ W, (Op.stringOp .add (⟨#[91]⟩ ++ S) ⟨#[93]⟩).run Tryz.prog W = .ok (.string (⟨#[91]⟩ ++ S ++ ⟨#[93]⟩)) W := fun W => run_string_add _ _ _ (by rw [ByteArray.size_append]; show ((1 + S.size : Nat) : Int) ≤ _; omega) (by decide)
    clear k2 k3 k4 hck hS hSs hnl
    go_wp2_with fail
    refine bodyPost_ret (v := .tuple #[.string (⟨#[91]⟩ ++ S ++ ⟨#[93]⟩), .int .i64 0]) (by simp [results, Tryz.results18, go_sem]) rfl ⟨by rw [HV.out]; unfold printV; rw [HF.out]; rfl, KB.out⟩
  have k4' : (h.k == 4) = false := by rw [beq_eq_false_iff_ne]; exact k4
  have HV : Hid (print h = (h.n, 0)) := by show _ = _; unfold print; rw [if_pos hck, if_neg k2, if_neg k3, if_neg k4]
  have HSS : Hid (S = ⟨h.n.toArray⟩) := hS
  clear k2 k3 k4 hck hS
  go_wp2_with fail
  refine bodyPost_ret (v := .tuple #[.string S, .int .i64 0]) (by simp [results, Tryz.results18, go_sem]) rfl ⟨by rw [HV.out, HSS.out]; rfl, KB.out⟩
end Go.Proofs.YtnlgbopdbihnjaaGreatDoor
