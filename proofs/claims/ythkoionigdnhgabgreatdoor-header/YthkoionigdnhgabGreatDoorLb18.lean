/-
  The program's lay and Return.
-/
import Derived.Test.YthkoionigdnhgabGreatDoorYd9
import Derived.Test.YthkoionigdnhgabGreatDoorPr16
import Derived.Test.YthkoionigdnhgabGreatDoorOpH18
import Derived.Test.YthkoionigdnhgabGreatDoorHp18
import Derived.Test.YthkoionigdnhgabGreatDoorShs
import Derived.Test.YthkoionigdnhgabGreatDoorPtL
namespace Go.Proofs.YthkoionigdnhgabGreatDoor
open Go.RowKit

theorem own_lowH {w : World} {B B' n t k : Nat} {v : Value} {xs : List Value} (h : w.ownsRow B t k v n xs) (hB : B' ≤ B) : w.ownsRow B' t k v n xs := by
  obtain ⟨h1, h2 | ⟨g, cap, cur, hv, hg, hr⟩⟩ := h
  · exact ⟨h1, .inl h2⟩
  · exact ⟨h1, .inr ⟨g, cap, cur, hv, by omega, hr⟩⟩
theorem cellsF_oneT (p : Fd) : cellsF [p] = (fdC p).toList := by simp [cellsF]
theorem prL_one (nm bd : List UInt8) : prL [⟨nm, bd⟩] = nm ++ [58] ++ bd ++ [13, 10] := by simp [prL, wrF]
set_option maxRecDepth 100000 in
set_option maxHeartbeats 2000000 in
theorem tlay_any (nm bd : List UInt8) (a : Option Addr) (l : List UInt8) (n c : Nat) (hn : n = l.length) (hnn : a = none → c = 0) (w : World) (hb : Bts a l w) (hl : l.length ≤ 549755813888) (hp : prE [⟨nm, bd⟩] = 0) (ht : Table w) (hg : 2 < w.heap.size) (hs : nm.length + bd.length ≤ 1000000) :
    Calls Tryz.prog 30 #[.agg #[.string (tx nm), .string (tx bd)], .slice a n c] w fun e w' => ∃ v, e = .returned v ∧ w'.ownsRow w.heap.size 5 1 v (nm.length + bd.length + 3 + n) (cellsB (nm ++ [58] ++ bd ++ [13, 10] ++ l)) ∧ Below w.heap.size w w' := by
  subst hn
  obtain ⟨W1, hW1⟩ : ∃ W1, W1 = (w.alloc (.cells #[.string (tx nm), .string (tx bd)] 23)).alloc (.cells #[.string (tx nm), .string (tx bd)] 23) := ⟨_, rfl⟩
  have hB1 : Below w.heap.size w W1 := by subst hW1; exact ((Below.refl _ _).alloc (Nat.le_refl _) _).alloc (by simp) _
  have hF : Fds (some ⟨w.heap.size + 1, 0, none⟩) [⟨nm, bd⟩] W1 := by
    refine .inr ⟨w.heap.size + 1, 0, rfl, by subst hW1; simp, fun j u hj => ?_⟩
    have hL : Lies W1 (w.alloc (.cells #[.string (tx nm), .string (tx bd)] 23)).heap.size #[.string (tx nm), .string (tx bd)] 23 := by subst hW1; exact Lies.new _ _ _
    have e : (w.alloc (.cells #[.string (tx nm), .string (tx bd)] 23)).heap.size = w.heap.size + 1 := by simp
    rw [e] at hL
    rw [Nat.zero_add, hL.cell j]
    rw [cellsF_oneT, Array.getElem?_toList] at hj
    exact hj
  have htl : (tx nm).size = nm.length := List.size_toArray ..
  have hlen : (nm ++ [58] ++ bd ++ [13, 10]).length = nm.length + bd.length + 3 := by simp; omega
  have HP := fprint_any (some ⟨w.heap.size + 1, 0, none⟩) 1 [⟨nm, bd⟩] W1 hF (by simp) (by simp; omega) (fun c hc => (hB1.cell (p := ⟨2, c, none⟩) hg).trans (ht c hc)) (fun _ => by rw [prL_one]; simp; omega)
  rw [hp, prL_one, hlen] at HP
  have HBT : Hid (Bts a l w) := hb
  have HB1 : Hid (Below w.heap.size w W1) := hB1
  have HWW : Hid ((w.alloc (.cells #[.string (tx nm), .string (tx bd)] 23)).alloc (.cells #[.string (tx nm), .string (tx bd)] 23) = W1) := hW1.symm
  clear hb hF hB1 hW1 ht hp htl
  go_enter Tryz.func30, Tryz.ntmps30
  go_wp2_with (rw [HWW.out])
  refine HP.mono ?_
  rintro e w2 ⟨v, rfl, hB2, -, hO2⟩
  have HB2 : Hid (Below w.heap.size w w2) := HB1.out.trans (hB2.mono HB1.out.size)
  obtain ⟨b, c2, rfl, hbt, -, hnn2, hcc, -⟩ := own_bts (hO2 trivial)
  obtain ⟨W3, hW3⟩ : ∃ W3, W3 = w2.alloc (.cells #[.slice b (nm.length + bd.length + 3) c2, .slice a l.length c] 53) := ⟨_, rfl⟩
  have hB3 : Below w2.heap.size w2 W3 := by subst hW3; exact (Below.refl _ _).alloc (Nat.le_refl _) _
  have HB3 : Hid (Below w.heap.size w W3) := HB2.out.trans (hB3.mono HB2.out.size)
  have hL3 : Lies W3 w2.heap.size #[.slice b (nm.length + bd.length + 3) c2, .slice a l.length c] 53 := by subst hW3; exact Lies.new _ _ _
  have HC := scat_any w2.heap.size b a (nm ++ [58] ++ bd ++ [13, 10]) l (nm.length + bd.length + 3) c2 l.length c hlen.symm rfl W3 hL3 (hbt.below hB3) (HBT.out.below HB3.out) hnn2 hnn (by omega) (by omega)
  have HWW3 : Hid (w2.alloc (.cells #[.slice b (nm.length + bd.length + 3) c2, .slice a l.length c] 53) = W3) := hW3.symm
  clear hW3 hB3 hL3 HB2 hB2 hO2 hbt HBT HWW HB1 HP
  go_wp2_with (rw [HWW3.out])
  refine HC.mono ?_
  rintro e w4 ⟨v4, rfl, hO4, hB4⟩
  have HB4 : Hid (Below w.heap.size w w4) := HB3.out.trans (hB4.mono HB3.out.size)
  have HO4 : Hid (w4.ownsRow w.heap.size 5 1 v4 (nm.length + bd.length + 3 + l.length) (cellsB (nm ++ [58] ++ bd ++ [13, 10] ++ l))) := own_lowH hO4 HB3.out.size
  clear hB4 hO4 HC HB3
  go_wp2_with fail
  go_ret
  exact ⟨_, rfl, HO4.out, HB4.out⟩
end Go.Proofs.YthkoionigdnhgabGreatDoor
/-
  The program's Return.
-/
namespace Go.Proofs.YthkoionigdnhgabGreatDoor
open Go.RowKit

def rpN : List UInt8 := [82, 101, 116, 117, 114, 110, 45, 80, 97, 116, 104]
/-- The row that Return lays ahead of a message. -/
def rpRow (p : List UInt8) : List UInt8 := rpN ++ [58] ++ (32 :: p) ++ [13, 10]
theorem blank_tx (p : List UInt8) : (⟨#[32]⟩ : ByteArray) ++ txt p = tx (32 :: p) := by
  apply ByteArray.ext
  apply Array.toList_inj.1
  rw [ByteArray.data_append]
  simp [txt, tx]
set_option maxRecDepth 100000 in
set_option maxHeartbeats 4000000 in
theorem tret_ok (k : Int) (hk : k = 1 ∨ k = 3) (P : Array Value) (hPz : P.size = 21) (p0 : P[0]? = some (.int .i64 k)) (p : List UInt8) (w : World) (HPR : Hid (∀ wx, Below w.heap.size w wx → Calls Tryz.prog 31 #[.agg P] wx fun e w' => e = .returned (.tuple #[.string (txt p), .int .i64 0]) ∧ Below wx.heap.size wx w'))
    (hT : Td w) (a : Option Addr) (l : List UInt8) (n c : Nat) (hn : n = l.length) (hnn : a = none → c = 0) (hb : Bts a l w) (hl : l.length ≤ 549755813888) (hp : prE [⟨rpN, 32 :: p⟩] = 0) (hs : p.length ≤ 900000) :
    Calls Tryz.prog 16 #[.slice a n c, .agg P] w fun e w' => ∃ v, e = .returned (.tuple #[v, .int .i64 0]) ∧ w'.ownsRow w.heap.size 5 1 v (p.length + 15 + l.length) (cellsB (rpRow p ++ l)) ∧ Below w.heap.size w w' := by
  subst hn
  have hts : (txt p).size ≤ 900000 := by have : (txt p).size = p.length := List.size_toArray ..; omega
  have HBT : Hid (Bts a l w) := hb
  have HT : Hid (Td w) := hT
  have HLY : Hid (∀ wx, Below w.heap.size w wx → Calls Tryz.prog 30 #[.agg #[.string ⟨#[82, 101, 116, 117, 114, 110, 45, 80, 97, 116, 104]⟩, .string ((⟨#[32]⟩ : ByteArray) ++ txt p)], .slice a l.length c] wx fun e w' => ∃ v, e = .returned v ∧ w'.ownsRow wx.heap.size 5 1 v (p.length + 15 + l.length) (cellsB (rpRow p ++ l)) ∧ Below wx.heap.size wx w') := fun wx hx => by
    have := tlay_any rpN (32 :: p) a l l.length c rfl hnn wx (HBT.out.below hx) hl hp (hT.below hx).tb.cls (hT.below hx).tb.gcl (by simp [rpN]; omega)
    rw [← blank_tx] at this
    refine this.mono ?_
    rintro e w' ⟨v, he, ho, hb⟩
    refine ⟨v, he, ?_, hb⟩
    have e2 : rpN.length + (32 :: p).length + 3 + l.length = p.length + 15 + l.length := by simp [rpN]; omega
    rw [e2] at ho
    exact ho
  clear hb hT hp
  have L1 : Hid (Lies (w.alloc (.cells P 32)) w.heap.size P 32) := Lies.new w _ _
  have KB : Hid (Below w.heap.size w (w.alloc (.cells P 32))) := (Below.refl _ _).alloc (Nat.le_refl _) _
  have c0 : (w.alloc (.cells P 32)).cell? ⟨w.heap.size, 0, none⟩ = some (.int .i64 k) := by rw [L1.out.cell 0]; exact p0
  go_enter Tryz.func16, Tryz.ntmps16
  go_upto_region 1 with fail
  generalize w.alloc (.cells P 32) = v0 at L1 KB c0 ⊢
  rcases hk with rfl | rfl
  all_goals go_wp2_with (refine wpList_load_row rfl 32 _ rfl w.heap.size rfl P 32 _ L1.out Tryz.underlying32 rfl (by rw [hPz]; exact infoPt) ?_)
  all_goals refine (HPR.out _ KB.out).mono ?_
  all_goals rintro e w2 ⟨rfl, hb2⟩
  all_goals have K2 : Hid (Below w.heap.size w w2) := KB.out.trans (hb2.mono KB.out.size)
  all_goals clear hb2 L1 KB HPR c0
  all_goals go_wp2_with fail
  all_goals refine (HLY.out _ K2.out).mono ?_
  all_goals rintro e w3 ⟨v, rfl, ho3, hb3⟩
  all_goals have K3 : Hid (Below w.heap.size w w3) := K2.out.trans (hb3.mono K2.out.size)
  all_goals have HO3 : Hid (w3.ownsRow w.heap.size 5 1 v (p.length + 15 + l.length) (cellsB (rpRow p ++ l))) := own_lowH ho3 K2.out.size
  all_goals clear hb3 ho3 HLY K2
  all_goals go_wp2_with fail
  all_goals exact bodyPost_ret (v := .tuple #[v, .int .i64 0]) (by simp [results, Tryz.results16, go_sem]) rfl ⟨v, rfl, HO3.out, K3.out⟩
set_option maxRecDepth 100000 in
set_option maxHeartbeats 4000000 in
theorem tret_bad (k : Int) (hk : ¬ k = 1 ∧ ¬ k = 3) (P : Array Value) (p0 : P[0]? = some (.int .i64 k)) (w : World) (a : Option Addr) (n c : Nat) :
    Calls Tryz.prog 16 #[.slice a n c, .agg P] w fun e w' => e = .returned (.tuple #[.slice none 0 0, .int .i64 93]) ∧ Below w.heap.size w w' := by
  have L1 : Hid (Lies (w.alloc (.cells P 32)) w.heap.size P 32) := Lies.new w _ _
  have KB : Hid (Below w.heap.size w (w.alloc (.cells P 32))) := (Below.refl _ _).alloc (Nat.le_refl _) _
  have c0 : (w.alloc (.cells P 32)).cell? ⟨w.heap.size, 0, none⟩ = some (.int .i64 k) := by rw [L1.out.cell 0]; exact p0
  obtain ⟨h1, h3⟩ := hk
  have h1' : (k != 1) = true := by simp [h1]
  have h3' : (k != 3) = true := by simp [h3]
  clear h1 h3 p0
  go_enter Tryz.func16, Tryz.ntmps16
  go_upto_region 1 with fail
  generalize w.alloc (.cells P 32) = v0 at L1 KB c0 ⊢
  go_wp2_with fail
  all_goals exact bodyPost_ret (v := .tuple #[.slice none 0 0, .int .i64 93]) (by simp [results, Tryz.results16, go_sem]) rfl ⟨rfl, KB.out⟩
end Go.Proofs.YthkoionigdnhgabGreatDoor
/-
  The paths of the statement, as they are written; rows that Return lays.
-/
namespace Go.Proofs.YthkoionigdnhgabGreatDoor
open Go.RowKit

def hv4 : Ho := ⟨2, [], z16⟩
theorem wrH_v4 : wrH hv4 = [91, 48, 46, 48, 46, 48, 46, 48, 93] := by decide +kernel
theorem ck_v4 : check hv4 true = 0 := by decide +kernel
theorem ok_v4 : hv4.Ok := ⟨by decide, by decide⟩
/-- What holds of all bytes of a text, and of the two signs, holds of its escaped form. -/
theorem escL_all {Q : UInt8 → Prop} (q92 : Q 92) : ∀ {l : List UInt8}, (∀ c ∈ l, Q c) → ∀ c ∈ escL l, Q c
  | [], _, c, hc => by simp [escL] at hc
  | x :: r, h, c, hc => by
    have h1 := h x (List.mem_cons_self ..)
    have h2 := escL_all q92 (l := r) (fun y hy => h y (List.mem_cons_of_mem _ hy))
    unfold escL at hc
    split at hc
    · rcases List.mem_cons.1 hc with rfl | hc
      · exact q92
      · rcases List.mem_cons.1 hc with rfl | hc
        · exact h1
        · exact h2 c hc
    · rcases List.mem_cons.1 hc with rfl | hc
      · exact h1
      · exact h2 c hc
theorem wrL_all {Q : UInt8 → Prop} (q92 : Q 92) (q34 : Q 34) {l : List UInt8} (h : ∀ c ∈ l, Q c) : ∀ c ∈ wrL l, Q c := by
  intro c hc
  unfold wrL at hc
  split at hc
  · exact h c hc
  · rcases List.mem_cons.1 hc with rfl | hc
    · exact q34
    · rcases List.mem_append.1 hc with hc | hc
      · exact escL_all q92 h c hc
      · rw [List.mem_singleton.1 hc]; exact q34
theorem rwE_all {b : List UInt8} (h : ∀ c ∈ b, c ≠ 13 ∧ c ≠ 10) : rwE b 0 = b.length := by
  unfold rwE
  rw [List.drop_zero, Nat.zero_add]
  congr 1
  have : ∀ l : List UInt8, (∀ c ∈ l, c ≠ 13 ∧ c ≠ 10) → l.takeWhile (fun c => !crB c) = l := by
    intro l
    induction l with
    | nil => intro _; rfl
    | cons x r ih =>
      intro hl
      have hx := hl x (List.mem_cons_self ..)
      rw [List.takeWhile_cons, if_pos (by simp [crB, hx.1, hx.2]), ih (fun c hc => hl c (List.mem_cons_of_mem _ hc))]
  exact this b h
theorem rws_all {b : List UInt8} (h : ∀ c ∈ b, c ≠ 13 ∧ c ≠ 10) : rws b 0 = [(0, b.length)] := by
  rw [rws_off b 0 (by rw [rwE_all h, List.drop_length]; rfl), rwE_all h]
theorem prE_of {nm b : List UInt8} (h : chkF nm b = 0) : prE [⟨nm, b⟩] = 0 := by
  unfold prE errF
  rw [h]
  rfl
theorem rp_name : nmB rpN = true := by decide +kernel
theorem rpP_ok {p : List UInt8} (h : ∀ c ∈ p, c ≠ 13 ∧ c ≠ 10) (hl : p.length ≤ 900) : prE [⟨rpN, 32 :: p⟩] = 0 := by
  have hb : ∀ c ∈ (32 :: p : List UInt8), c ≠ 13 ∧ c ≠ 10 := fun c hc => by
    rcases List.mem_cons.1 hc with rfl | hc
    · decide
    · exact h c hc
  refine prE_of ?_
  unfold chkF
  rw [rp_name, rws_all hb]
  have e : rpN.length = 11 := rfl
  have e2 : (32 :: p).length = p.length + 1 := rfl
  rw [if_pos rfl, ckRf, if_neg (by rw [if_pos rfl, e, e2]; omega), ckRf, if_neg (by omega), if_pos rfl]
/-- The path that the statement makes, and its text. -/
theorem pt_ok {s : List UInt8} (hl : s.length ≤ 31) (h : ∀ c ∈ s, shB c = true) : printP ⟨3, [], s, hv4⟩ = (60 :: (wrL s ++ 64 :: [91, 48, 46, 48, 46, 48, 46, 48, 93] ++ [62]), 0) := by
  obtain ⟨h1, h2⟩ := shw_ck hl h true
  have hw : wrP ⟨3, [], s, hv4⟩ = 60 :: (wrL s ++ 64 :: [91, 48, 46, 48, 46, 48, 46, 48, 93] ++ [62]) := by
    unfold wrP
    rw [if_neg (show ¬ (3 : Int) = 1 by decide), if_neg (show ¬ (3 : Int) = 2 by decide)]
    show 60 :: ([] ++ (wrL s ++ 64 :: wrH hv4) ++ [62]) = _
    rw [wrH_v4]
    rfl
  have hlen : ¬ 256 < (wrP ⟨3, [], s, hv4⟩).length := by
    rw [hw]
    simp only [List.length_cons, List.length_append, List.length_nil]
    omega
  have hc : ckB ⟨3, [], s, hv4⟩ true = 0 := by
    unfold ckB
    rw [if_neg (show ¬ ((3 : Int) = 1 ∨ (3 : Int) = 2) by decide), if_pos rfl, if_neg (by simp), if_neg (by simp [ckR]), if_neg (by rw [h1]; simp), ck_v4]
  have hk : ckP ⟨3, [], s, hv4⟩ true = 0 := by
    unfold ckP
    rw [hc, if_neg (fun h => hlen h.2)]
  rw [printP_ok hk, hw]
theorem hops_rp {p : List UInt8} (h : ∀ c ∈ p, c ≠ 13) (m : List UInt8) : hopsH (rpRow p ++ m) = hopsH m := by
  have e : rpRow p ++ m = (rpN ++ [58] ++ (32 :: p)) ++ 13 :: 10 :: m := by simp [rpRow]
  rw [e, hops_row]
  · have : rcvH (rpN ++ [58] ++ 32 :: p) = false := by
      unfold rcvH
      have : (rpN ++ [58] ++ 32 :: p)[8]? = some 97 := rfl
      rw [this]
      simp
    rw [this]
    simp
  · intro c hc
    rcases List.mem_append.1 hc with hc | hc
    · have : ∀ c ∈ rpN ++ [58], c ≠ 13 := by decide
      exact this c hc
    · rcases List.mem_cons.1 hc with rfl | hc
      · decide
      · exact h c hc
  · simp [rpN]
end Go.Proofs.YthkoionigdnhgabGreatDoor
/-
  The statements' own lentBytes and head.
-/
namespace Go.Proofs.YthkoionigdnhgabGreatDoor
open Go.RowKit

theorem own_emptyH (w : World) (base : Nat) (hb : base ≤ w.heap.size) : (w.alloc (.cells #[] 5)).ownsRow base 5 1 (.slice (some ⟨w.heap.size, 0, none⟩) 0 0) 0 (cellsB []) :=
  ⟨rfl, .inr ⟨w.heap.size, 0, #[], rfl, hb, heap_alloc_last w _, Nat.le_refl _, by unfold maxLen; omega, rfl, rfl⟩⟩
def litH1 : List UInt8 := [114, 101, 99, 101, 105, 118, 101, 100, 58, 120, 13, 10, 83, 117, 98, 106, 101, 99, 116, 58, 32, 121, 13, 10, 13, 10, 82, 101, 99, 101, 105, 118, 101, 100, 58, 32, 122]
theorem lit_hops : hopsH litH1 = 1 := by decide +kernel
set_option maxRecDepth 100000 in
theorem head_any (m : Int) (w : World) (hm : w.cell? ⟨0, 0, none⟩ = some (.int .i64 m)) : Calls Tryz.prog 7 #[] w fun e w' => e = .returned (.bool true) ∧ Below w.heap.size w w' := by
  obtain ⟨W1, hW1⟩ : ∃ W1, W1 = w.alloc (.cells (rowV litH1) 5 (37, 38)) := ⟨_, rfl⟩
  have hcv : (convert 53 53 (.slice (some ⟨w.heap.size, 0, none⟩) 37 37)).run Tryz.prog (w.alloc (.cells #[.int .u8 114, .int .u8 101, .int .u8 99, .int .u8 101, .int .u8 105, .int .u8 118, .int .u8 101, .int .u8 100, .int .u8 58, .int .u8 120, .int .u8 13, .int .u8 10, .int .u8 83, .int .u8 117, .int .u8 98, .int .u8 106, .int .u8 101, .int .u8 99, .int .u8 116, .int .u8 58, .int .u8 32, .int .u8 121, .int .u8 13, .int .u8 10, .int .u8 13, .int .u8 10, .int .u8 82, .int .u8 101, .int .u8 99, .int .u8 101, .int .u8 105, .int .u8 118, .int .u8 101, .int .u8 100, .int .u8 58, .int .u8 32, .int .u8 122] 5)) = .ok (.slice (some ⟨w.heap.size, 0, none⟩) 37 37) W1 := by subst hW1; exact Lib.run_convert_bytes_const w 53 5 _ 37 37 Tryz.underlying53 Tryz.underlying5
  have hB1 : Below w.heap.size w W1 := by subst hW1; exact (Below.refl _ _).alloc (Nat.le_refl _) _
  have HC := hops_any (some ⟨w.heap.size, 0, none⟩) litH1 37 37 rfl (Nat.le_refl _) (fun e => by cases e) (by decide) m W1 (by subst hW1; exact litH w litH1 _) (by decide) ((hB1.cell (p := ⟨0, 0, none⟩) (lt_of_cellH hm)).trans hm)
  rw [lit_hops] at HC
  have HB1 : Hid (Below w.heap.size w W1) := hB1
  clear hW1 hB1 hm
  go_enter Tryz.func7, Tryz.ntmps7
  go_wp2_with (rw [hcv])
  refine HC.mono ?_
  rintro e w2 ⟨rfl, hB2⟩
  have HB2 : Hid (Below w.heap.size w w2) := HB1.out.trans (hB2.mono HB1.out.size)
  clear hB2 HB1 HC hcv
  go_wp2_with fail
  go_ret
  exact ⟨rfl, HB2.out⟩
end Go.Proofs.YthkoionigdnhgabGreatDoor
