/-
  The contract of domain.Print.
-/
import Derived.Test.YthkoionigdnhgabGreatDoorCk8
import Derived.Test.YthkoionigdnhgabGreatDoorPw8
import Derived.Test.YthkoionigdnhgabGreatDoorPtN
import Derived.Test.YthkoionigdnhgabGreatDoorEq8
import Derived.Test.YthkoionigdnhgabGreatDoorQi9
namespace Go.Proofs.YthkoionigdnhgabGreatDoor
open Go.RowKit

def printV (r : List UInt8 × Nat) : Value := .tuple #[.string ⟨r.1.toArray⟩, .int .i64 (r.2 : Nat)]
set_option maxHeartbeats 4000000 in
set_option maxRecDepth 100000 in
theorem print_any (h : Ho) (ok : h.Ok) (w : World) (hT : Tb w) (hP : PowTab w) (hn : h.n.length ≤ 140737488355328) :
    Calls Tryz.prog 70 #[hostV h] w fun e w' => e = .returned (printV (print h)) ∧ Below w.heap.size w w' := by
  have ha := ok.len
  have HT : Hid (∀ wx, Below w.heap.size w wx → Tb wx) := fun wx hb => hT.below hb
  have HPT : Hid (∀ wx, Below w.heap.size w wx → PowTab wx) := fun wx hb => hP.below hb
  have hsz := hostC_size h ha
  obtain ⟨HC, hHC⟩ : ∃ HC, HC = hostC h := ⟨_, rfl⟩
  have e1 : hostV h = .agg HC := by rw [hHC]; rfl
  have HHC : Hid (HC = hostC h) := hHC
  rw [← hHC] at hsz
  have L1 : Hid (Lies (w.alloc (.cells HC 27)) w.heap.size HC 27) := Lies.new w _ _
  have HB : Hid (Below w.heap.size w (w.alloc (.cells HC 27))) := (Below.refl _ _).alloc (Nat.le_refl _) _
  have HCK : Hid (Calls Tryz.prog 46 #[.agg HC, .bool true] (w.alloc (.cells HC 27)) fun e w' => e = .returned (.int .i64 (check h true : Nat)) ∧ Below (w.alloc (.cells HC 27)).heap.size (w.alloc (.cells HC 27)) w') := by
    rw [← e1]
    exact chk_any h ha true _ (HT.out _ HB.out) hn
  rw [e1]
  clear hT hP hHC e1
  go_enter Tryz.func70, Tryz.ntmps70
  go_wp2_with (refine wpList_load_row rfl 27 _ rfl w.heap.size rfl HC 27 _ L1.out Tryz.underlying27 rfl (by rw [hsz]; exact infoHo) ?_)
  refine HCK.out.mono ?_
  rintro e w1 ⟨rfl, hb1⟩
  have K1 : Hid (Lies w1 w.heap.size HC 27) := L1.out.below hb1 L1.out.lt
  have KB : Hid (Below w.heap.size w w1) := HB.out.trans (hb1.mono (Nat.le_of_lt L1.out.lt))
  clear hb1 L1 HB HCK
  have hz1 := K1.out.lt
  have K1h : Lies w1 w.heap.size (hostC h) 27 := by rw [← HHC.out]; exact K1.out
  obtain ⟨c0, c1⟩ := host_cells K1h
  by_cases hck : check h true = 0
  case neg =>
    have HV : Hid (print h = ([], check h true)) := by show _ = _; unfold print; rw [if_neg hck]
    have hck' : ((check h true : Int) == 0) = false := by rw [beq_eq_false_iff_ne]; omega
    generalize check h true = ck at HV hck' ⊢
    clear hck
    go_wp2_with fail
    refine bodyPost_ret (v := .tuple #[.string ⟨#[]⟩, .int .i64 (ck : Int)]) (by simp [results, Tryz.results70, go_sem]) rfl ⟨by rw [HV.out]; rfl, KB.out⟩
  rw [hck]
  by_cases k2 : h.k = 2
  · have HV : Hid (print h = ([91] ++ print4 (h.a.take 4) ++ [93], 0)) := by show _ = _; unfold print; rw [if_pos hck, if_pos k2]
    rw [k2] at c0
    obtain ⟨q0, q1, q2, q3, hq⟩ : ∃ q0 q1 q2 q3, h.a.take 4 = [q0, q1, q2, q3] := by
      have : (h.a.take 4).length = 4 := by rw [List.length_take]; omega
      match h.a.take 4, this with
      | [q0, q1, q2, q3], _ => exact ⟨q0, q1, q2, q3, rfl⟩
    have HM4 := host_mid4 K1h
    have hb4 : ∀ n ∈ [q0, q1, q2, q3], n < 256 := fun n hn => by rw [← hq] at hn; exact ok.byt n (List.mem_of_mem_take hn)
    rw [hq] at HM4 HV
    have HS4 : Hid (w1.rangeAt w.heap.size 2 [.int .u8 (q0 : Nat), .int .u8 (q1 : Nat), .int .u8 (q2 : Nat), .int .u8 (q3 : Nat)]) := HM4
    have hlen := print4_len q0 q1 q2 q3
    have HPV : Hid (Calls Tryz.prog 110 #[.agg #[.int .u8 (q0 : Nat), .int .u8 (q1 : Nat), .int .u8 (q2 : Nat), .int .u8 (q3 : Nat)]] w1 fun e w' => e = .returned (.string ⟨(print4 [q0, q1, q2, q3]).toArray⟩) ∧ Below w1.heap.size w1 w') := printv4_any [q0, q1, q2, q3] rfl hb4 w1 (HPT.out _ KB.out)
    have hat := array_at w.heap.size
    generalize print4 [q0, q1, q2, q3] = ps at HV hlen HPV
    obtain ⟨S, hS⟩ : ∃ S : ByteArray, S = ⟨ps.toArray⟩ := ⟨_, rfl⟩
    have hSs : (S.size : Int) ≤ 100 := by rw [hS]; show ((ps.toArray.size : Nat) : Int) ≤ _; rw [List.size_toArray]; omega
    have HF : Hid ((⟨([91] ++ ps ++ [93]).toArray⟩ : ByteArray) = ⟨#[91]⟩ ++ S ++ ⟨#[93]⟩) := by
      show _ = _
      rw [hS, show (⟨#[91]⟩ : ByteArray) = ⟨([91] : List UInt8).toArray⟩ from rfl, show (⟨#[93]⟩ : ByteArray) = ⟨([93] : List UInt8).toArray⟩ from rfl, str_append, str_append]
    rw [← hS] at HPV
    have ad1 : ∀ W, (Op.stringOp .add ⟨#[91]⟩ S).run Tryz.prog W = .ok (.string (⟨#[91]⟩ ++ S)) W := fun W => run_string_add _ _ _ (by decide) (by omega)
    have ad2 : ∀ W, (Op.stringOp .add (⟨#[91]⟩ ++ S) ⟨#[93]⟩).run Tryz.prog W = .ok (.string (⟨#[91]⟩ ++ S ++ ⟨#[93]⟩)) W := fun W => run_string_add _ _ _ (by rw [ByteArray.size_append]; show ((1 + S.size : Nat) : Int) ≤ _; omega) (by decide)
    clear HM4 hq hb4 k2 hck hS hSs hlen
    go_wp2_with (refine wpList_load_mid rfl 128 _ rfl w.heap.size 2 rfl [.int .u8 (q0 : Nat), .int .u8 (q1 : Nat), .int .u8 (q2 : Nat), .int .u8 (q3 : Nat)] _ HS4.out Tryz.underlying128 rfl info4 ?_)
    refine HPV.out.mono ?_
    rintro e w2 ⟨rfl, hb2⟩
    have KB2 : Hid (Below w.heap.size w w2) := KB.out.trans (hb2.mono (Nat.le_of_lt hz1))
    clear hb2 HPV c0 c1 K1h
    go_wp2_with fail
    refine bodyPost_ret (v := .tuple #[.string (⟨#[91]⟩ ++ S ++ ⟨#[93]⟩), .int .i64 0]) (by simp [results, Tryz.results70, go_sem]) rfl ⟨by rw [HV.out]; unfold printV; rw [HF.out]; rfl, KB2.out⟩
  have k2' : (h.k == 2) = false := by rw [beq_eq_false_iff_ne]; exact k2
  by_cases k3 : h.k = 3
  · have HV : Hid (print h = ([91, 73, 80, 118, 54, 58] ++ print6 h.a ++ [93], 0)) := by show _ = _; unfold print; rw [if_pos hck, if_neg k2, if_pos k3]
    rw [k3] at c0
    have HM := host_mid K1h
    obtain ⟨A, hA⟩ : ∃ A, A = h.a.map fun n => Value.int .u8 (n : Nat) := ⟨_, rfl⟩
    have hAl : A.length = 16 := by rw [hA, List.length_map, ha]
    rw [← hA] at HM
    have HMID : Hid (w1.rangeAt w.heap.size 2 A) := HM
    have hlen := print6_len h.a ha ok.byt
    have HPV : Hid (Calls Tryz.prog 111 #[.agg A.toArray] w1 fun e w' => e = .returned (.string ⟨(print6 h.a).toArray⟩) ∧ Below w1.heap.size w1 w') := by
      rw [hA]
      exact printv6_any h.a ha ok.byt w1 (HT.out _ KB.out).t64
    generalize print6 h.a = ps at HV hlen HPV
    obtain ⟨S, hS⟩ : ∃ S : ByteArray, S = ⟨ps.toArray⟩ := ⟨_, rfl⟩
    have hSs : (S.size : Int) ≤ 100 := by rw [hS]; show ((ps.toArray.size : Nat) : Int) ≤ _; rw [List.size_toArray]; omega
    have HF : Hid ((⟨([91, 73, 80, 118, 54, 58] ++ ps ++ [93]).toArray⟩ : ByteArray) = ⟨#[91, 73, 80, 118, 54, 58]⟩ ++ S ++ ⟨#[93]⟩) := by
      show _ = _
      rw [hS, show (⟨#[91, 73, 80, 118, 54, 58]⟩ : ByteArray) = ⟨([91, 73, 80, 118, 54, 58] : List UInt8).toArray⟩ from rfl, show (⟨#[93]⟩ : ByteArray) = ⟨([93] : List UInt8).toArray⟩ from rfl, str_append, str_append]
    rw [← hS] at HPV
    have ad1 : ∀ W, (Op.stringOp .add ⟨#[91, 73, 80, 118, 54, 58]⟩ S).run Tryz.prog W = .ok (.string (⟨#[91, 73, 80, 118, 54, 58]⟩ ++ S)) W := fun W => run_string_add _ _ _ (by decide) (by omega)
    have ad2 : ∀ W, (Op.stringOp .add (⟨#[91, 73, 80, 118, 54, 58]⟩ ++ S) ⟨#[93]⟩).run Tryz.prog W = .ok (.string (⟨#[91, 73, 80, 118, 54, 58]⟩ ++ S ++ ⟨#[93]⟩)) W := fun W => run_string_add _ _ _ (by rw [ByteArray.size_append]; show ((6 + S.size : Nat) : Int) ≤ _; omega) (by decide)
    clear HM k2 k3 hck hS hSs hlen hA
    go_wp2_with (refine wpList_load_mid rfl 25 _ rfl w.heap.size 2 rfl A _ HMID.out Tryz.underlying25 rfl (by rw [hAl]; exact info16) ?_)
    refine HPV.out.mono ?_
    rintro e w2 ⟨rfl, hb2⟩
    have KB2 : Hid (Below w.heap.size w w2) := KB.out.trans (hb2.mono (Nat.le_of_lt hz1))
    clear hb2 HPV c0 c1 K1h
    go_wp2_with fail
    refine bodyPost_ret (v := .tuple #[.string (⟨#[91, 73, 80, 118, 54, 58]⟩ ++ S ++ ⟨#[93]⟩), .int .i64 0]) (by simp [results, Tryz.results70, go_sem]) rfl ⟨by rw [HV.out]; unfold printV; rw [HF.out]; rfl, KB2.out⟩
  have k3' : (h.k == 3) = false := by rw [beq_eq_false_iff_ne]; exact k3
  obtain ⟨S, hS⟩ : ∃ S : ByteArray, S = ⟨h.n.toArray⟩ := ⟨_, rfl⟩
  rw [← hS] at c1
  by_cases k4 : h.k = 4
  · have HV : Hid (print h = ([91] ++ h.n ++ [93], 0)) := by show _ = _; unfold print; rw [if_pos hck, if_neg k2, if_neg k3, if_pos k4]
    rw [k4] at c0
    have hnl : h.n.length ≤ 253 := by
      have := (check_tag k4 hck).2
      unfold chTag at this
      rcases Nat.lt_or_ge 253 h.n.length with hl | hl
      · rw [if_pos hl] at this; cases this
      · exact hl
    have hSs : (S.size : Int) ≤ 253 := by rw [hS]; show ((h.n.toArray.size : Nat) : Int) ≤ _; rw [List.size_toArray]; omega
    have HF : Hid ((⟨([91] ++ h.n ++ [93]).toArray⟩ : ByteArray) = ⟨#[91]⟩ ++ S ++ ⟨#[93]⟩) := by
      show _ = _
      rw [hS, show (⟨#[91]⟩ : ByteArray) = ⟨([91] : List UInt8).toArray⟩ from rfl, show (⟨#[93]⟩ : ByteArray) = ⟨([93] : List UInt8).toArray⟩ from rfl, str_append, str_append]
    have ad1 : ∀ W, (Op.stringOp .add ⟨#[91]⟩ S).run Tryz.prog W = .ok (.string (⟨#[91]⟩ ++ S)) W := fun W => run_string_add _ _ _ (by decide) (by omega)
    have ad2 : ∀ W, (Op.stringOp .add (⟨#[91]⟩ ++ S) ⟨#[93]⟩).run Tryz.prog W = .ok (.string (⟨#[91]⟩ ++ S ++ ⟨#[93]⟩)) W := fun W => run_string_add _ _ _ (by rw [ByteArray.size_append]; show ((1 + S.size : Nat) : Int) ≤ _; omega) (by decide)
    clear k2 k3 k4 hck hS hSs hnl
    go_wp2_with fail
    refine bodyPost_ret (v := .tuple #[.string (⟨#[91]⟩ ++ S ++ ⟨#[93]⟩), .int .i64 0]) (by simp [results, Tryz.results70, go_sem]) rfl ⟨by rw [HV.out]; unfold printV; rw [HF.out]; rfl, KB.out⟩
  have k4' : (h.k == 4) = false := by rw [beq_eq_false_iff_ne]; exact k4
  have HV : Hid (print h = (h.n, 0)) := by show _ = _; unfold print; rw [if_pos hck, if_neg k2, if_neg k3, if_neg k4]
  have HSS : Hid (S = ⟨h.n.toArray⟩) := hS
  clear k2 k3 k4 hck hS
  go_wp2_with fail
  refine bodyPost_ret (v := .tuple #[.string S, .int .i64 0]) (by simp [results, Tryz.results70, go_sem]) rfl ⟨by rw [HV.out, HSS.out]; rfl, KB.out⟩
end Go.Proofs.YthkoionigdnhgabGreatDoor
/-
  The program's writtenBox, writtenRoute.
-/
namespace Go.Proofs.YthkoionigdnhgabGreatDoor
open Go.RowKit

/-- The tables that are read when something is written. -/
structure Td (w : World) : Prop where
  tb : Tb w
  pow : PowTab w
  ml : ∃ m, w.cell? ⟨0, 0, none⟩ = some (.int .i64 m)
theorem Td.below {w w' : World} (h : Td w) (hb : Below w.heap.size w w') : Td w' := by
  obtain ⟨m, hm⟩ := h.ml
  exact ⟨h.tb.below hb, h.pow.below hb, m, (hb.cell (p := ⟨0, 0, none⟩) (World.block_lt_of_cell? w _ hm)).trans hm⟩
theorem RepOk.later {s : ByteArray} {w w' : World} (h : RepOk s w) (hb : Below w.heap.size w w') : RepOk s w' := ⟨fun wx hx => h.one wx (hb.trans (hx.mono hb.size)), fun wx hx => h.two wx (hb.trans (hx.mono hb.size))⟩
theorem boxC_0 (l : List UInt8) (h : Ho) : (boxC l h)[0]? = some (.string (txt l)) := by
  unfold boxC
  rw [Array.getElem?_append_left (by simp)]
  rfl
theorem boxC_1 (l : List UInt8) (h : Ho) : ∀ j v, (hostC h).toList[j]? = some v → (boxC l h)[1 + j]? = some v := fun j v hv => by
  unfold boxC
  rw [Array.getElem?_append_right (by simp)]
  simp only [List.size_toArray, List.length_cons, List.length_nil]
  rw [show 1 + j - (0 + 1) = j from by omega]
  simpa using hv

set_option maxHeartbeats 4000000 in
set_option maxRecDepth 100000 in
theorem wbox_any (l : List UInt8) (h : Ho) (ok : h.Ok) (hn : h.n.length ≤ 140737488355328) (hl : l.length ≤ 140737488355328) (hw : (wrH h).length ≤ 140737488355328) (w : World) (hT : Td w) (hr : RepOk (txt l) w) :
    Calls Tryz.prog 90 #[.agg (boxC l h)] w fun e w' => e = .returned (.string (txt (wrB l h))) ∧ Below w.heap.size w w' := by
  have hB0 := boxC_0 l h
  have hB1 := boxC_1 l h
  have hBz := boxC_size l h ok.len
  have hsz := hostC_size h ok.len
  obtain ⟨B, hB⟩ : ∃ B, B = boxC l h := ⟨_, rfl⟩
  rw [← hB] at hB0 hB1 hBz ⊢
  obtain ⟨HC, hHC⟩ : ∃ HC, HC = hostC h := ⟨_, rfl⟩
  rw [← hHC] at hB1 hsz
  obtain ⟨M, hM⟩ : ∃ M, M = txt l := ⟨_, rfl⟩
  rw [← hM] at hB0 hr
  have hMl : M.data.toList = l := by rw [hM, txt_list]
  have hMz : M.size ≤ 140737488355328 := by rw [hM, txt_size]; exact hl
  have L1 : Hid (Lies (w.alloc (.cells B 30)) w.heap.size B 30) := Lies.new w _ _
  have KB : Hid (Below w.heap.size w (w.alloc (.cells B 30))) := (Below.refl _ w).alloc (Nat.le_refl _) _
  have HPR : Hid (∀ wx, Below w.heap.size w wx → Calls Tryz.prog 70 #[.agg HC] wx fun e w' => e = .returned (.tuple #[.string (txt (wrH h)), .int .i64 ((print h).2 : Nat)]) ∧ Below wx.heap.size wx w') := fun wx hx => by
    have hd := hT.below hx
    have := print_any h ok wx hd.tb hd.pow hn
    unfold hostV at this
    rw [← hHC] at this
    exact this
  have HWL : Hid (∀ wx, Below w.heap.size w wx → Calls Tryz.prog 121 #[.string M] wx fun e w' => e = .returned (.string (txt (wrL l))) ∧ Below wx.heap.size wx w') := fun wx hx => by
    have := wloc_any M hMz wx (hT.below hx).tb (hr.later hx)
    rw [hMl] at this
    exact this
  obtain ⟨T1, hT1⟩ : ∃ T1, T1 = txt (wrL l) := ⟨_, rfl⟩
  obtain ⟨T2, hT2⟩ : ∃ T2, T2 = txt (wrH h) := ⟨_, rfl⟩
  have z1 : T1.size ≤ 281474976710658 := by
    rw [hT1, txt_size]
    unfold wrL
    split
    · omega
    · have := escL_two l
      simp only [List.length_cons, List.length_append, List.length_nil]
      omega
  have z2 : T2.size ≤ 140737488355328 := by rw [hT2, txt_size]; exact hw
  have HR : Hid (txt (wrB l h) = T1 ++ ⟨#[64]⟩ ++ T2) := by
    show _ = _
    have e1 : (⟨#[64]⟩ : ByteArray) = txt [64] := rfl
    rw [hT1, hT2, e1, txt_cat, txt_cat]
    unfold wrB
    rw [List.append_assoc]
    rfl
  rw [← hT1] at HWL
  rw [← hT2] at HPR
  generalize (print h).2 = pe at HPR
  have HB0 : Hid (B[0]? = some (.string M)) := hB0
  have HB1 : Hid (∀ j v, HC.toList[j]? = some v → B[1 + j]? = some v) := hB1
  clear hB hHC hM hT hr hT1 hT2 hB0 hB1
  rw [HR.out]
  go_enter Tryz.func90, Tryz.ntmps90
  go_upto_region 1 with fail
  generalize w.alloc (.cells B 30) = w1 at L1 KB ⊢
  have hrg : w1.rangeAt w.heap.size 1 HC.toList := fun j v hv => (L1.out.cell (1 + j)).trans (HB1.out j v hv)
  have HRG : Hid (w1.rangeAt w.heap.size 1 HC.toList) := hrg
  clear hrg
  go_wp2_with (refine wpList_load_mid rfl 27 _ rfl w.heap.size 1 rfl HC.toList _ HRG.out Tryz.underlying27 rfl (by rw [Array.length_toList, hsz]; exact infoHo) ?_)
  refine Calls.mono (HPR.out _ KB.out) ?_
  rintro e w2 ⟨rfl, hb2⟩
  have L2 : Hid (Lies w2 w.heap.size B 30) := L1.out.below hb2 L1.out.lt
  have K2 : Hid (Below w.heap.size w w2) := KB.out.trans (hb2.mono KB.out.size)
  have c0 : w2.cell? ⟨w.heap.size, 0, none⟩ = some (.string M) := (L2.out.cell 0).trans HB0.out
  clear hb2 L1 KB HRG HPR
  go_wp2_with fail
  refine (HWL.out _ K2.out).mono ?_
  rintro e w3 ⟨rfl, hb3⟩
  have K3 : Hid (Below w.heap.size w w3) := K2.out.trans (hb3.mono K2.out.size)
  clear hb3 HWL K2 L2
  go_wp2_with fail
  go_ret
  exact ⟨rfl, K3.out⟩
end Go.Proofs.YthkoionigdnhgabGreatDoor
