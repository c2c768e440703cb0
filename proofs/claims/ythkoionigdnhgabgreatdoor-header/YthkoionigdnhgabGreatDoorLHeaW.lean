/-
  The walk of TraceHeader.
-/
import Derived.Test.YthkoionigdnhgabGreatDoorLx18
import Derived.Deep.CutRange
namespace Go.Proofs.YthkoionigdnhgabGreatDoor
open Go.RowKit

def flX (s : List UInt8) : List UInt8 := s.filter fun c => c != 13 && c != 10
theorem flX_done (s : List UInt8) (k : Nat) (h : s.length ≤ k ∨ k = 1024) (hk : k ≤ 1024) : flX (s.take k) = rwX s := rwX_done s k h hk
theorem flX_on (s : List UInt8) (k : Nat) (h : k < s.length) (h1 : ¬ s[k] = 13) (h2 : ¬ s[k] = 10) : flX (s.take (k + 1)) = flX (s.take k) ++ [s[k]] := by
  have := rwX_at s k h
  rw [if_pos (by simp [h1, h2])] at this
  exact this
theorem flX_off (s : List UInt8) (k : Nat) (h : k < s.length) (h1 : s[k] = 13 ∨ s[k] = 10) : flX (s.take (k + 1)) = flX (s.take k) := by
  have := rwX_at s k h
  rw [if_neg (by rcases h1 with h1 | h1 <;> simp [h1]), List.append_nil] at this
  exact this
theorem flX_len (s : List UInt8) (k : Nat) : (flX (s.take k)).length ≤ k := by
  have h1 := List.length_filter_le (fun c => c != 13 && c != 10) (s.take k)
  have h2 : (s.take k).length ≤ k := by rw [List.length_take]; omega
  unfold flX
  omega
theorem ho0_cells : hostC ho0 = #[.int .i64 0, .string ⟨#[]⟩, .int .u8 0, .int .u8 0, .int .u8 0, .int .u8 0, .int .u8 0, .int .u8 0, .int .u8 0, .int .u8 0, .int .u8 0, .int .u8 0, .int .u8 0, .int .u8 0, .int .u8 0, .int .u8 0, .int .u8 0, .int .u8 0] := by unfold hostC ho0 z16; rfl
theorem hv4_cells : hostC hv4 = #[.int .i64 2, .string ⟨#[]⟩, .int .u8 0, .int .u8 0, .int .u8 0, .int .u8 0, .int .u8 0, .int .u8 0, .int .u8 0, .int .u8 0, .int .u8 0, .int .u8 0, .int .u8 0, .int .u8 0, .int .u8 0, .int .u8 0, .int .u8 0, .int .u8 0] := by unfold hostC hv4 z16; rfl
theorem pn_cells (k : Int) : pthC k (.slice none 0 0) [] ho0 = #[.int .i64 k, .slice none 0 0, .string ⟨#[]⟩, .int .i64 0, .string ⟨#[]⟩, .int .u8 0, .int .u8 0, .int .u8 0, .int .u8 0, .int .u8 0, .int .u8 0, .int .u8 0, .int .u8 0, .int .u8 0, .int .u8 0, .int .u8 0, .int .u8 0, .int .u8 0, .int .u8 0, .int .u8 0, .int .u8 0] := by
  unfold pthC
  rw [ho0_cells, show txt [] = ⟨#[]⟩ from rfl]
  simp only [List.append_toArray, List.cons_append, List.nil_append]
theorem pb_cells (s : List UInt8) : pthC 3 (.slice none 0 0) s hv4 = #[.int .i64 3, .slice none 0 0, .string (txt s), .int .i64 2, .string ⟨#[]⟩, .int .u8 0, .int .u8 0, .int .u8 0, .int .u8 0, .int .u8 0, .int .u8 0, .int .u8 0, .int .u8 0, .int .u8 0, .int .u8 0, .int .u8 0, .int .u8 0, .int .u8 0, .int .u8 0, .int .u8 0, .int .u8 0] := by
  unfold pthC
  rw [hv4_cells]
  simp only [List.append_toArray, List.cons_append, List.nil_append]
theorem null_ok : printP ⟨1, [], [], ho0⟩ = ([60, 62], 0) := by decide +kernel
theorem ho0_ok : ho0.Ok := ⟨by decide, by decide⟩
theorem ret_path (k : Int) (hk : k = 1 ∨ k = 3) (s : List UInt8) (h : Ho) (ok : h.Ok) (hn : h.n.length ≤ 1000) (hs : s.length ≤ 1000) (p : List UInt8) (hp : printP ⟨k, [], s, h⟩ = (p, 0)) (hcr : ∀ c ∈ p, c ≠ 13 ∧ c ≠ 10) (hpl : p.length ≤ 900) (w : World) (hT : Td w) (a : Option Addr) (l : List UInt8) (n c : Nat) (hln : n = l.length) (hnn : a = none → c = 0) (hb : Bts a l w) (hl : l.length ≤ 549755813888) :
    Calls Tryz.prog 16 #[.slice a n c, .agg (pthC k (.slice none 0 0) s h)] w fun e w' => ∃ v, e = .returned (.tuple #[v, .int .i64 0]) ∧ w'.ownsRow w.heap.size 5 1 v (p.length + 15 + l.length) (cellsB (rpRow p ++ l)) ∧ Below w.heap.size w w' := by
  refine tret_ok k hk _ (pthC_size k _ s h ok.len) (by unfold pthC; rw [Array.getElem?_append_left (by simp)]; rfl) p w (fun wx hx => ?_) hT a l n c hln hnn hb hl (rpP_ok hcr hpl) (by omega)
  have := pprint_any k none 0 [] s h wx (.inl rfl) (by simp) (fun x hx => by cases hx) ok (by omega) (by omega) (hT.below hx) (RepOk.small _ (by rw [txt_size]; omega) wx (hT.below hx).ml)
  rw [hp] at this
  exact this
theorem own_capH {w : World} {B n c t k : Nat} {a : Option Addr} {xs : List Value} (h : w.ownsRow B t k (.slice a n c) n xs) : c ≤ 9223372036854775807 := by
  obtain ⟨_, ⟨e, _⟩ | ⟨g, cap, cur, e, _, _, _, hm, _⟩⟩ := h
  · injection e with _ _ e; omega
  · injection e with _ _ e; unfold maxLen at hm; omega
set_option maxHeartbeats 8000000 in
set_option maxRecDepth 100000 in
theorem hea_walk {w : World} (a0 : Option Addr) (L0 : List ByteArray) (cap0 : Nat) (hr0 : Txl a0 L0 w) (hc0 : L0.length ≤ cap0) (hm0 : cap0 ≤ 9223372036854775807) (hsz : ∀ s ∈ L0, s.size ≤ 9223372036854775807) (a1 : Option Addr) (l1 : List UInt8) (cap1 : Nat) (hr1 : Bts a1 l1 w) (hl1 : l1.length ≤ 1048576) (_ : l1.length ≤ cap1) (hn1 : a1 = none → cap1 = 0) (_ : cap1 ≤ 9223372036854775807) (s2 : ByteArray) (hs2 : s2.size ≤ 1048576) (hT : Td w) :
    Calls Tryz.prog 5 #[.slice a0 L0.length cap0, .slice a1 l1.length cap1, .string s2] w fun e w' => e = .returned (.bool true) ∧ Below w.heap.size w w' := by
  obtain ⟨mx, hmx⟩ := hT.ml
  have HTD : Hid (Td w) := hT
  have HM : Hid (w.cell? ⟨0, 0, none⟩ = some (.int .i64 mx)) := hmx
  have HM0 : Hid (0 < w.heap.size) := lt_of_cellH hmx
  have HHD := head_any mx w hmx
  obtain ⟨T, hTT⟩ : ∃ T, T = L0.take 4096 := ⟨_, rfl⟩
  have hTl : T.length ≤ 4096 := by rw [hTT, List.length_take]; omega
  have hTc : T.length ≤ cap0 := by rw [hTT, List.length_take]; omega
  have HQ0 : Hid (Txl a0 T w) := by rw [hTT]; exact hr0.take 4096
  have HSZ : Hid (∀ s ∈ T, s.size ≤ 9223372036854775807) := fun s hs => hsz s (by rw [hTT] at hs; exact List.mem_of_mem_take hs)
  have HB1 : Hid (Bts a1 l1 w) := hr1
  clear hr0 hsz hr1 hT hmx
  go_enter Tryz.func5, Tryz.ntmps5
  go_wp2_with fail
  refine HHD.mono ?_
  rintro e W3 ⟨rfl, hB⟩
  have HB3 : Hid (Below w.heap.size w W3) := hB
  clear hB HHD
  go_upto_if 26 with fail
  go_cut [0] from 24 to 28 (fun v wc => wc = W3 ∧ v = .slice a0 T.length cap0)
  case first =>
    by_cases hbig : 4096 < L0.length
    · have hbig' : (4096 : Int) < (L0.length : Int) := by omega
      have hLn : T.length = 4096 := by rw [hTT, List.length_take]; omega
      have hcb : (4096 : Int) ≤ (cap0 : Int) := by omega
      have HLN2 : Hid (T.length = 4096) := hLn
      clear hTT hLn
      go_wp2_with fail
      go_meet
      exact ⟨rfl, by rw [HLN2.out]⟩
    · have hbig' : ¬ (4096 : Int) < (L0.length : Int) := by omega
      have HLe : Hid (T = L0) := by rw [hTT]; exact List.take_of_length_le (by omega)
      clear hTT
      go_wp2_with fail
      go_meet
      exact ⟨rfl, by rw [HLe.out]⟩
  case rest =>
    obtain ⟨rfl, rfl⟩ := hcut
    obtain ⟨V, hVV⟩ : ∃ V, V = wc := ⟨_, rfl⟩
    subst hVV
    have HTV : Hid (Td V) := HTD.out.below HB3.out
    have HQV : Hid (Txl a0 T V) := HQ0.out.below HB3.out
    have HBV : Hid (Bts a1 l1 V) := HB1.out.below HB3.out
    obtain ⟨ls, hls⟩ : ∃ ls, ls = T.map (fun s => s.data.toList) := ⟨_, rfl⟩
    have hll : ls.length = T.length := by rw [hls, List.length_map]
    have HAT : Hid (∀ k (h : k < T.length) (h2 : k < ls.length), ls[k] = T[k].data.toList) := fun k h h2 => by subst hls; exact List.getElem_map ..
    clear hTT HQ0 HB1 hls HTD
    have HMV : Hid (V.cell? ⟨0, 0, none⟩ = some (.int .i64 mx)) := (HB3.out.cell (p := ⟨0, 0, none⟩) HM0.out).trans HM.out
    have HMV0 : Hid (0 < V.heap.size) := lt_of_cellH HMV.out
    go_wp2_with fail
    go_loopw [7, 8, 10, 11, 12, 31] (fun mv nv _ _ _ iv wr => ∃ k : Nat, k ≤ T.length ∧ iv = .int .i64 (k : Int) ∧ nv = .int .i64 ((cntX (ls.take k) : Nat) : Int) ∧ Hid (wr.ownsRow V.heap.size 5 1 mv (msgX (ls.take k)).length (cellsB (msgX (ls.take k)))) ∧ Hid (Below V.heap.size V wr)) (fun _ _ _ _ _ iv _ => T.length - (intOf iv).toNat)
    case atStart => exact ⟨0, Nat.zero_le _, rfl, rfl, ⟨rfl, .inl ⟨rfl, rfl⟩⟩, Below.refl _ _⟩
    case round =>
      obtain ⟨k, hk, rfl, rfl, HOM, HBM⟩ := hrel
      obtain ⟨U, hU⟩ : ∃ U, U = wr := ⟨_, rfl⟩
      subst hU
      by_cases hlt : k < T.length
      · have hltI : (k : Int) < (T.length : Int) := by omega
        obtain ⟨g, o, ha0, hg, hcell⟩ := txl_cell (HQV.out.below HBM.out) k hlt
        subst ha0
        have hk2 : k < ls.length := by omega
        have hsk := HAT.out k hlt hk2
        have HMN : Hid (msgX (ls.take (k + 1)) = msgX (ls.take k) ++ rowX ls[k] ++ [13, 10]) := msgX_next ls k hk2
        have HCN : Hid (cntX (ls.take (k + 1)) = cntX (ls.take k) + if rwX ls[k] = [] then 1 else 0) := cntX_next ls k hk2
        have hml := msgX_len (ls.take k)
        have hcl := cntX_le (ls.take k)
        have htk : (ls.take k).length ≤ 4096 := by rw [List.length_take]; omega
        have hss := HSZ.out T[k] (List.getElem_mem hlt)
        rw [hsk] at HMN HCN
        generalize T[k] = S at *
        obtain ⟨M, hM⟩ : ∃ M, M = msgX (ls.take k) := ⟨_, rfl⟩
        obtain ⟨C, hC⟩ : ∃ C, C = cntX (ls.take k) := ⟨_, rfl⟩
        rw [← hM] at HMN HOM hml
        rw [← hC] at HCN hcl
        have hMl : M.length ≤ 5000000 := by omega
        have hCl : C ≤ 4096 := by omega
        clear hM hml hcl htk hsk
        rw [← hC]
        clear hC
        obtain ⟨s, hs⟩ : ∃ s, s = S.data.toList := ⟨_, rfl⟩
        have hsl : s.length = S.size := by rw [hs]; exact len_list S
        rw [← hs] at HMN HCN
        have HSS : Hid (s = S.data.toList) := hs
        clear hs
        obtain ⟨X, hX⟩ : ∃ X, X = U.alloc (.cells #[] 5) := ⟨_, rfl⟩
        have HXO : Hid (X.ownsRow X.heap.size 5 1 (.slice none 0 0) 0 (cellsB [])) := ⟨rfl, .inl ⟨rfl, rfl⟩⟩
        have HXW : Hid (U.alloc (.cells #[] 5) = X) := hX.symm
        have HXB : Hid (Below U.heap.size U X) := by subst hX; exact (Below.refl _ _).alloc (Nat.le_refl _) _
        have HXE : Hid (X.ownsRow U.heap.size 5 1 (.slice (some ⟨U.heap.size, 0, none⟩) 0 0) 0 (cellsB [])) := by subst hX; exact own_emptyH U _ (Nat.le_refl _)
        clear hX
        clear HXO
        go_wp2_with (rw [HXW.out])
        go_loopw [11, 12] (fun rv jv wz => ∃ j : Nat, j ≤ S.size ∧ j ≤ 1024 ∧ jv = .int .i64 (j : Int) ∧ Hid (wz.ownsRow U.heap.size 5 1 rv (flX (s.take j)).length (cellsB (flX (s.take j)))) ∧ Hid (Below U.heap.size U wz)) (fun _ jv _ => 1024 - (intOf jv).toNat)
        case atStart => exact ⟨0, Nat.zero_le _, by omega, rfl, HXE.out, HXB.out⟩
        case round =>
          clear HXE HXB HXW
          obtain ⟨j, hjS, hj1, rfl, HOR, HBR⟩ := hrel
          obtain ⟨Y, hY⟩ : ∃ Y, Y = wr := ⟨_, rfl⟩
          subst hY
          go_upto_region 12 with fail
          go_cut [43] from 36 to 42 (fun bv wc => wc = Y ∧ bv = .bool (decide (j < S.size ∧ j < 1024)))
          case first =>
            by_cases h1 : j < S.size
            · have h1I : (j : Int) < (S.size : Int) := by omega
              by_cases h2 : j < 1024
              · have h2I : (j : Int) < 1024 := by omega
                go_wp2_with fail
                go_meet
                exact ⟨rfl, by simp [h1, h2]⟩
              · have h2I : ¬ (j : Int) < 1024 := by omega
                go_wp2_with fail
                go_meet
                exact ⟨rfl, by simp [h2]⟩
            · have h1I : ¬ (j : Int) < (S.size : Int) := by omega
              go_wp2_with fail
              go_meet
              exact ⟨rfl, by simp [h1]⟩
          case rest =>
            obtain ⟨rfl, rfl⟩ := hcut
            obtain ⟨Y, hY⟩ : ∃ Y, Y = wc := ⟨_, rfl⟩
            subst hY
            by_cases h12 : j < S.size ∧ j < 1024
            · obtain ⟨h1, h2⟩ := h12
              have hd : decide (j < S.size ∧ j < 1024) = true := by simp [h1, h2]
              rw [hd]
              have hjs : j < s.length := by omega
              have heq : S[j] = s[j] := by
                have h := HSS.out
                subst h
                rfl
              have h1I : (j : Int) < (S.size : Int) := by omega
              by_cases h13 : S[j] = 13
              · have k13 : ((S[j].toNat : Int) != 13) = false := by rw [bne, u8vH h13]; rfl
                have HF : Hid (flX (s.take (j + 1)) = flX (s.take j)) := flX_off s j hjs (.inl (by rw [← heq]; exact h13))
                clear heq h13
                go_wp2_with fail
                go_roundw
                case rel => exact ⟨j + 1, by omega, by omega, by go_num, by rw [HF.out]; exact HOR.out, HBR.out⟩
                case measure => simp [intOf]; omega
              · have k13 : ((S[j].toNat : Int) != 13) = true := by rw [bne, u8wH h13]; rfl
                by_cases h10 : S[j] = 10
                · have k10 : ((S[j].toNat : Int) != 10) = false := by rw [bne, u8vH h10]; rfl
                  have HF : Hid (flX (s.take (j + 1)) = flX (s.take j)) := flX_off s j hjs (.inr (by rw [← heq]; exact h10))
                  clear heq h13 h10
                  go_wp2_with fail
                  go_roundw
                  case rel => exact ⟨j + 1, by omega, by omega, by go_num, by rw [HF.out]; exact HOR.out, HBR.out⟩
                  case measure => simp [intOf]; omega
                · have k10 : ((S[j].toNat : Int) != 10) = true := by rw [bne, u8wH h10]; rfl
                  have HF : Hid (flX (s.take (j + 1)) = flX (s.take j) ++ [S[j]]) := by
                    show _ = _
                    rw [heq]
                    exact flX_on s j hjs (by rw [← heq]; exact h13) (by rw [← heq]; exact h10)
                  have hfl := flX_len s j
                  clear heq h13 h10
                  go_wp2_with (at_builtin; refine wpList_append_byte rfl _ _ rfl U.heap.size _ (flX (s.take j)).length (flX (s.take j)) rfl (HOR.out.alloc _) Y S[j] _ rfl rfl 1 rfl (by omega) HBR.out.size ?_; intro v3 w3 hown3 hbel3)
                  have HO3 : Hid (w3.ownsRow U.heap.size 5 1 v3 (flX (s.take (j + 1))).length (cellsB (flX (s.take (j + 1))))) := by
                    show World.ownsRow _ _ _ _ _ _ _
                    rw [HF.out, List.length_append, List.length_singleton]
                    exact hown3
                  have HB3r : Hid (Below U.heap.size U w3) := hbel3 _ _ HBR.out (Nat.le_refl _)
                  clear hown3 hbel3 HOR HBR
                  go_roundw
                  case rel => exact ⟨j + 1, by omega, by omega, by go_num, HO3, HB3r⟩
                  case measure => simp [intOf]; omega
            · have hd : decide (j < S.size ∧ j < 1024) = false := by simp only [decide_eq_false_iff_not]; exact h12
              rw [hd]
              have hrow : flX (s.take j) = rwX s := flX_done s j (by omega) hj1
              have HOW : Hid (Y.ownsRow U.heap.size 5 1 u11 (rwX s).length (cellsB (rwX s))) := by rw [← hrow]; exact HOR.out
              clear HOR hrow hd
              obtain ⟨ra, rc, hu, hbr, -, hrn, -, -⟩ := own_bts HOW.out
              have HBR0 : Hid (Bts ra (rwX s) Y) := hbr
              clear HOW hbr
              rw [hu]
              clear hu
              go_upto_if 64 with fail
              go_cut [8, 11] from 62 to 72 (fun nv rv wc => ∃ (ra : Option Addr) (rc : Nat), nv = .int .i64 ((C + (if rwX s = [] then 1 else 0) : Nat) : Int) ∧ rv = .slice ra (rowX s).length rc ∧ Hid (Bts ra (rowX s) wc) ∧ Hid (ra = none → rc = 0) ∧ Hid (Below U.heap.size U wc))
              case first =>
                by_cases h0 : rwX s = []
                · have hz : (rwX s).length = 0 := by rw [h0]; rfl
                  rw [hz]
                  have HRX : Hid (rowX s = hereL) := by show rowX s = _; unfold rowX; rw [if_pos h0]
                  obtain ⟨Z, hZ⟩ : ∃ Z, Z = Y.alloc (.cells (rowV hereL) 5 (14, 15)) := ⟨_, rfl⟩
                  have hcv : (convert 53 53 (.slice (some ⟨Y.heap.size, 0, none⟩) 14 14)).run Tryz.prog (Y.alloc (.cells #[.int .u8 82, .int .u8 101, .int .u8 99, .int .u8 101, .int .u8 105, .int .u8 118, .int .u8 101, .int .u8 100, .int .u8 58, .int .u8 32, .int .u8 104, .int .u8 101, .int .u8 114, .int .u8 101] 5)) = .ok (.slice (some ⟨Y.heap.size, 0, none⟩) 14 14) Z := by subst hZ; exact Lib.run_convert_bytes_const Y 53 5 _ 14 14 Tryz.underlying53 Tryz.underlying5
                  have HBZ : Hid (Below U.heap.size U Z) := by subst hZ; exact HBR.out.alloc HBR.out.size _
                  have HBH : Hid (Bts (some ⟨Y.heap.size, 0, none⟩) hereL Z) := by subst hZ; exact litH Y hereL _
                  have HIF : Hid ((if rwX s = [] then 1 else 0 : Nat) = 1) := by show _ = _; rw [if_pos h0]
                  clear hZ hz h0 HBR0
                  go_wp2_with (rw [hcv])
                  go_meet
                  exact ⟨some ⟨Y.heap.size, 0, none⟩, 14, by rw [HIF.out]; go_num, by rw [HRX.out]; rfl, by rw [HRX.out]; exact HBH.out, (fun e => by cases e), HBZ.out⟩
                · have hz : 0 < (rwX s).length := List.length_pos_iff.2 h0
                  have hzI : (((rwX s).length : Int) == 0) = false := by rw [beq_eq_false_iff_ne]; omega
                  have hxl := rwX_len s
                  have HRX : Hid (rowX s = 88 :: rwX s) := by show rowX s = _; unfold rowX; rw [if_neg h0]
                  have HIF : Hid ((if rwX s = [] then 1 else 0 : Nat) = 0) := by show _ = _; rw [if_neg h0]
                  obtain ⟨Z, hZ⟩ : ∃ Z, Z = Y.alloc (.cells (rowV [88]) 5 (1, 2)) := ⟨_, rfl⟩
                  have hcv : (convert 53 53 (.slice (some ⟨Y.heap.size, 0, none⟩) 1 1)).run Tryz.prog (Y.alloc (.cells #[.int .u8 88] 5)) = .ok (.slice (some ⟨Y.heap.size, 0, none⟩) 1 1) Z := by subst hZ; exact Lib.run_convert_bytes_const Y 53 5 _ 1 1 Tryz.underlying53 Tryz.underlying5
                  have hBZ : Below Y.heap.size Y Z := by subst hZ; exact (Below.refl _ _).alloc (Nat.le_refl _) _
                  have HBZ : Hid (Below U.heap.size U Z) := HBR.out.trans (hBZ.mono HBR.out.size)
                  obtain ⟨gx, cx, wx, happ, hbx, hnx, hBx⟩ := leadX_any Y.heap.size ra (rwX s) (rwX s).length rc rfl Z (by subst hZ; exact litH Y [88] _) (HBR0.out.below hBZ) hz (by omega)
                  have HBX : Hid (Below U.heap.size U wx) := HBZ.out.trans (hBx.mono HBZ.out.size)
                  have HBX2 : Hid (Bts gx (88 :: rwX s) wx) := hbx
                  have HNX : Hid (gx = none → cx = 0) := hnx
                  clear hZ hz h0 HBR0 hBZ hbx hnx hBx HBZ
                  go_wp2_with (first | rw [hcv] | (at_builtin; refine wpList_append_runH rfl _ _ 53 rfl (.slice (some ⟨Y.heap.size, 0, none⟩) 1 1) (.slice ra (rwX s).length rc) (.slice gx (1 + (rwX s).length) cx) rfl rfl happ ?_))
                  go_meet
                  exact ⟨gx, cx, by rw [HIF.out]; rfl, by rw [HRX.out, List.length_cons, Nat.add_comm], by rw [HRX.out]; exact HBX2.out, HNX.out, HBX.out⟩
              case rest =>
                obtain ⟨ra2, rc2, rfl, rfl, HBR2, HRN, HBU⟩ := hcut
                obtain ⟨Y2, hY2⟩ : ∃ Y2, Y2 = wc := ⟨_, rfl⟩
                subst hY2
                clear HBR0 HBR hrn
                have hrl := rowX_len s
                have HOM2 : Hid (Y2.ownsRow V.heap.size 5 1 u7 M.length (cellsB M)) := own_below HOM.out HBU.out
                have HBM2 : Hid (Below V.heap.size V Y2) := HBM.out.trans (HBU.out.mono HBM.out.size)
                clear HOM HBM HBU
                go_wp2_with (first
                  | rw [HZW.out]
                  | (at_builtin; refine wpList_append_keep rfl _ _ rfl V.heap.size _ M.length M rfl HOM2.out ra2 (rowX s) (rowX s).length rc2 rfl rfl HBR2.out HRN.out (by omega) HBM2.out.size ?_; intro v3 w3 hO3 hG3
                     have HB3a : Hid (Below V.heap.size V w3) := HBM2.out.grown hG3 HBM2.out.size (fun q hq => (HOM2.out.lt q hq).1)
                     have HO3 : Hid (w3.ownsRow V.heap.size 5 1 v3 (M.length + (rowX s).length) (cellsB (M ++ rowX s))) := hO3
                     clear hO3 hG3 HOM2 HBM2 HBR2
                     obtain ⟨Z, hZ⟩ : ∃ Z, Z = w3.alloc (.cells (rowV [13, 10]) 5) := ⟨_, rfl⟩
                     have HZW : Hid (w3.alloc (.cells #[.int .u8 13, .int .u8 10] 5) = Z) := hZ.symm
                     have HZB : Hid (Below V.heap.size V Z) := by subst hZ; exact HB3a.out.alloc HB3a.out.size _
                     have HZL : Hid (Bts (some ⟨w3.heap.size, 0, none⟩) [13, 10] Z) := by subst hZ; exact litH w3 [13, 10] (0, 0)
                     have HZO : Hid (Z.ownsRow V.heap.size 5 1 v3 (M.length + (rowX s).length) (cellsB (M ++ rowX s))) := by subst hZ; exact HO3.out.alloc _
                     clear hZ HO3 HB3a)
                  | (at_builtin; refine wpList_append_keep rfl _ _ rfl V.heap.size _ (M.length + (rowX s).length) (M ++ rowX s) rfl HZO.out (some ⟨w3.heap.size, 0, none⟩) [13, 10] 2 2 rfl rfl HZL.out (fun e => by cases e) (by omega) HZB.out.size ?_; intro v4 w4 hO4 hG4))
                have HB4 : Hid (Below V.heap.size V w4) := HZB.out.grown hG4 HZB.out.size (fun q hq => (HZO.out.lt q hq).1)
                have HO4 : Hid (w4.ownsRow V.heap.size 5 1 v4 (msgX (ls.take (k + 1))).length (cellsB (msgX (ls.take (k + 1))))) := by
                  show World.ownsRow _ _ _ _ _ _ _
                  rw [HMN.out, List.length_append, List.length_append]
                  exact hO4
                clear hO4 hG4 HZO HZL HZB HZW
                go_roundw
                case rel => exact ⟨k + 1, by omega, by go_num, by rw [HCN.out, Int.natCast_add], HO4.out, HB4.out⟩
                case measure => simp [intOf]; omega
      · obtain rfl : k = T.length := by omega
        have htk : ls.take T.length = ls := List.take_of_length_le (by omega)
        rw [htk] at HOM ⊢
        have hml := msgX_len ls
        have HAL : Hid (hopsH (msgX ls) = cntX ls) := hops_alone ls
        have HMO : Hid (hopsH (msgX ls ++ [13, 10] ++ l1) = cntX ls) := hops_more ls l1
        have HRP : Hid (∀ p : List UInt8, (∀ c ∈ p, c ≠ 13) → hopsH (rpRow p ++ msgX ls) = cntX ls) := fun p hp => (hops_rp hp _).trans (hops_alone ls)
        have hcl := cntX_le ls
        generalize msgX ls = M at *
        generalize cntX ls = C at *
        have hMl : M.length ≤ 5000000 := by omega
        clear hml htk HAT
        obtain ⟨ma, mc, hu, hbm, -, hmn, hmc, -⟩ := own_bts HOM.out
        rw [hu] at HOM ⊢
        have hmcm := own_capH HOM.out
        have HBMM : Hid (Bts ma M U) := hbm
        have HH1 := hops_any ma M M.length mc rfl hmc hmn hmcm mx U hbm (by omega) ((HBM.out.cell (p := ⟨0, 0, none⟩) HMV0.out).trans HMV.out)
        rw [HAL.out] at HH1
        clear HOM hbm HAL hu
        go_wp2_with fail
        refine HH1.mono ?_
        rintro e w1 ⟨rfl, hB1⟩
        have HB1 : Hid (Below V.heap.size V w1) := HBM.out.trans (hB1.mono HBM.out.size)
        have HM1 : Hid (Bts ma M w1) := HBMM.out.below hB1
        have HR1 : Hid (Bts a1 l1 w1) := HBV.out.below HB1.out
        clear hB1 HH1 HBM HBMM
        obtain ⟨Z0, hZ0⟩ : ∃ Z0, Z0 = w1.alloc (.cells #[] 5) := ⟨_, rfl⟩
        have HZ0W : Hid (w1.alloc (.cells #[] 5) = Z0) := hZ0.symm
        have HZ0B : Hid (Below w1.heap.size w1 Z0) := by subst hZ0; exact (Below.refl _ _).alloc (Nat.le_refl _) _
        have HZ0O : Hid (Z0.ownsRow w1.heap.size 5 1 (.slice (some ⟨w1.heap.size, 0, none⟩) 0 0) 0 (cellsB [])) := by subst hZ0; exact own_emptyH w1 _ (Nat.le_refl _)
        clear hZ0
        go_wp2_with (first
          | rw [HZ0W.out]
          | rw [HZ1W.out]
          | (at_builtin; refine wpList_append_keep rfl _ _ rfl w1.heap.size _ 0 [] rfl HZ0O.out ma M M.length mc rfl rfl (HM1.out.below HZ0B.out) hmn (by omega) HZ0B.out.size ?_; intro v3 w3 hO3 hG3
             have HB3a : Hid (Below w1.heap.size w1 w3) := HZ0B.out.grown hG3 HZ0B.out.size (fun q hq => (HZ0O.out.lt q hq).1)
             have HO3 : Hid (w3.ownsRow w1.heap.size 5 1 v3 (0 + M.length) (cellsB ([] ++ M))) := hO3
             clear hO3 hG3 HZ0O HZ0B HZ0W
             obtain ⟨Z1, hZ1⟩ : ∃ Z1, Z1 = w3.alloc (.cells (rowV [13, 10]) 5) := ⟨_, rfl⟩
             have HZ1W : Hid (w3.alloc (.cells #[.int .u8 13, .int .u8 10] 5) = Z1) := hZ1.symm
             have HZ1B : Hid (Below w1.heap.size w1 Z1) := by subst hZ1; exact HB3a.out.alloc HB3a.out.size _
             have HZ1L : Hid (Bts (some ⟨w3.heap.size, 0, none⟩) [13, 10] Z1) := by subst hZ1; exact litH w3 [13, 10] (0, 0)
             have HZ1O : Hid (Z1.ownsRow w1.heap.size 5 1 v3 (0 + M.length) (cellsB ([] ++ M))) := by subst hZ1; exact HO3.out.alloc _
             clear hZ1 HO3 HB3a)
          | (at_builtin; refine wpList_append_keep rfl _ _ rfl w1.heap.size _ (0 + M.length) ([] ++ M) rfl HZ1O.out (some ⟨w3.heap.size, 0, none⟩) [13, 10] 2 2 rfl rfl HZ1L.out (fun e => by cases e) (by omega) HZ1B.out.size ?_; intro v4 w4 hO4 hG4
             have HB4 : Hid (Below w1.heap.size w1 w4) := HZ1B.out.grown hG4 HZ1B.out.size (fun q hq => (HZ1O.out.lt q hq).1)
             have HO4 : Hid (w4.ownsRow w1.heap.size 5 1 v4 (0 + M.length + 2) (cellsB ([] ++ M ++ [13, 10]))) := hO4
             clear hO4 hG4 HZ1O HZ1L HZ1B HZ1W)
          | (at_builtin; refine wpList_append_keep rfl _ _ rfl w1.heap.size _ (0 + M.length + 2) ([] ++ M ++ [13, 10]) rfl HO4.out a1 l1 l1.length cap1 rfl rfl (HR1.out.below HB4.out) hn1 (by omega) HB4.out.size ?_; intro v5 w5 hO5 hG5
             have HB5 : Hid (Below w1.heap.size w1 w5) := HB4.out.grown hG5 HB4.out.size (fun q hq => (HO4.out.lt q hq).1)
             have HO5 : Hid (w5.ownsRow w1.heap.size 5 1 v5 (0 + M.length + 2 + l1.length) (cellsB ([] ++ M ++ [13, 10] ++ l1))) := hO5
             clear hO5 hG5 HO4 HB4))
        obtain ⟨xa, xc, hu5, hbx, hlx, hxn, hxc, -⟩ := own_bts HO5.out
        have hxcm : xc ≤ 9223372036854775807 := by have := HO5.out; rw [hu5] at this; exact own_capH this
        rw [hu5]
        have HB5V : Hid (Below V.heap.size V w5) := HB1.out.trans (HB5.out.mono HB1.out.size)
        have HH2 := hops_any xa ([] ++ M ++ [13, 10] ++ l1) (0 + M.length + 2 + l1.length) xc hlx.symm hxc hxn hxcm mx w5 hbx (by rw [hlx]; omega) ((HB5V.out.cell (p := ⟨0, 0, none⟩) HMV0.out).trans HMV.out)
        rw [List.nil_append, HMO.out] at HH2
        have HM5 : Hid (Bts ma M w5) := HM1.out.below HB5.out
        clear hbx hlx hu5 HO5 HB5 HMO HM1 HR1 HB1
        refine HH2.mono ?_
        rintro e w6 ⟨rfl, hB6⟩
        have HB6 : Hid (Below V.heap.size V w6) := HB5V.out.trans (hB6.mono HB5V.out.size)
        have HM6 : Hid (Bts ma M w6) := HM5.out.below hB6
        have HSH := shownl_any s2 (by omega) 31 (by decide) w6
        clear hB6 HH2 HB5V HM5
        go_wp2_with fail
        refine HSH.mono ?_
        rintro e w7 ⟨rfl, hB7⟩
        have HB7 : Hid (Below V.heap.size V w7) := HB6.out.trans (hB7.mono HB6.out.size)
        have HM7 : Hid (Bts ma M w7) := HM6.out.below hB7
        clear hB7 HSH HB6 HM6
        have hshl := (shwn_is s2.data.toList 31).1
        have hshc := (shwn_is s2.data.toList 31).2
        have HPO := pt_ok hshl hshc
        obtain ⟨q, hq⟩ : ∃ q, q = 60 :: (wrL (shwn s2.data.toList 31) ++ 64 :: [91, 48, 46, 48, 46, 48, 46, 48, 93] ++ [62]) := ⟨_, rfl⟩
        rw [← hq] at HPO
        have hqc : ∀ c ∈ q, c ≠ 13 ∧ c ≠ 10 := by
          intro c hc
          rw [hq] at hc
          rcases List.mem_cons.1 hc with rfl | hc
          · decide
          · rcases List.mem_append.1 hc with hc | hc
            · rcases List.mem_append.1 hc with hc | hc
              · refine wrL_all (Q := fun c => c ≠ 13 ∧ c ≠ 10) (by decide) (by decide) (fun y hy => ?_) c hc
                have h := hshc y hy
                unfold shB at h
                have h2 : 32 ≤ y.toNat := by simp at h; exact h.1
                exact ⟨fun e => by rw [e] at h2; exact absurd h2 (by decide), fun e => by rw [e] at h2; exact absurd h2 (by decide)⟩
              · have : ∀ c ∈ (64 :: [91, 48, 46, 48, 46, 48, 46, 48, 93] : List UInt8), c ≠ 13 ∧ c ≠ 10 := by decide
                exact this c hc
            · have : ∀ c ∈ ([62] : List UInt8), c ≠ 13 ∧ c ≠ 10 := by decide
              exact this c hc
        have hql : q.length ≤ 900 := by
          have := (shw_ck hshl hshc true).2
          rw [hq]
          simp only [List.length_cons, List.length_append, List.length_nil]
          omega
        have HP1 := HRP.out q (fun c hc => (hqc c hc).1)
        obtain ⟨P, hP⟩ : ∃ P, P = pthC 3 (.slice none 0 0) (shwn s2.data.toList 31) hv4 := ⟨_, rfl⟩
        have hPz : P.size = 21 := by rw [hP]; exact pthC_size _ _ _ _ ok_v4.len
        obtain ⟨W8, hW8⟩ : ∃ W8, W8 = (w7.alloc (.cells #[.int .i64 0, .slice none 0 0, .string ⟨#[]⟩, .int .i64 0, .string ⟨#[]⟩, .int .u8 0, .int .u8 0, .int .u8 0, .int .u8 0, .int .u8 0, .int .u8 0, .int .u8 0, .int .u8 0, .int .u8 0, .int .u8 0, .int .u8 0, .int .u8 0, .int .u8 0, .int .u8 0, .int .u8 0, .int .u8 0] 32)).setRow w7.heap.size P := ⟨_, rfl⟩
        have hB8 : Below w7.heap.size w7 W8 := by subst hW8; exact below_row ((Below.refl _ _).alloc (Nat.le_refl _) _) (Nat.le_refl _) _
        have HB8 : Hid (Below V.heap.size V W8) := HB7.out.trans (hB8.mono HB7.out.size)
        have HM8 : Hid (Bts ma M W8) := HM7.out.below hB8
        have L7 : Hid (Lies (w7.alloc (.cells #[.int .i64 0, .slice none 0 0, .string ⟨#[]⟩, .int .i64 0, .string ⟨#[]⟩, .int .u8 0, .int .u8 0, .int .u8 0, .int .u8 0, .int .u8 0, .int .u8 0, .int .u8 0, .int .u8 0, .int .u8 0, .int .u8 0, .int .u8 0, .int .u8 0, .int .u8 0, .int .u8 0, .int .u8 0, .int .u8 0] 32)) w7.heap.size #[.int .i64 0, .slice none 0 0, .string ⟨#[]⟩, .int .i64 0, .string ⟨#[]⟩, .int .u8 0, .int .u8 0, .int .u8 0, .int .u8 0, .int .u8 0, .int .u8 0, .int .u8 0, .int .u8 0, .int .u8 0, .int .u8 0, .int .u8 0, .int .u8 0, .int .u8 0, .int .u8 0, .int .u8 0, .int .u8 0] 32) := Lies.new w7 _ _
        have L8 : Hid (Lies W8 w7.heap.size P 32) := by subst hW8; exact L7.out.row _
        have HRA := ret_path 3 (.inr rfl) (shwn s2.data.toList 31) hv4 ok_v4 (by decide) (by omega) q HPO hqc hql W8 (HTV.out.below HB8.out) ma M M.length mc rfl hmn HM8.out (by omega)
        rw [← hP] at HRA
        have HWW8 : Hid ((w7.alloc (.cells #[.int .i64 0, .slice none 0 0, .string ⟨#[]⟩, .int .i64 0, .string ⟨#[]⟩, .int .u8 0, .int .u8 0, .int .u8 0, .int .u8 0, .int .u8 0, .int .u8 0, .int .u8 0, .int .u8 0, .int .u8 0, .int .u8 0, .int .u8 0, .int .u8 0, .int .u8 0, .int .u8 0, .int .u8 0, .int .u8 0] 32)).setRow w7.heap.size #[.int .i64 3, .slice none 0 0, .string (txt (shwn s2.data.toList 31)), .int .i64 2, .string ⟨#[]⟩, .int .u8 0, .int .u8 0, .int .u8 0, .int .u8 0, .int .u8 0, .int .u8 0, .int .u8 0, .int .u8 0, .int .u8 0, .int .u8 0, .int .u8 0, .int .u8 0, .int .u8 0, .int .u8 0, .int .u8 0, .int .u8 0] = W8) := by show _ = W8; rw [hW8, hP, pb_cells]
        clear hB8 hW8 hP HB7 HM7 hqc hshl hshc HPO hq
        go_upto_region 25 with (refine wpList_store_row rfl 32 _ _ rfl w7.heap.size rfl #[.int .i64 0, .slice none 0 0, .string ⟨#[]⟩, .int .i64 0, .string ⟨#[]⟩, .int .u8 0, .int .u8 0, .int .u8 0, .int .u8 0, .int .u8 0, .int .u8 0, .int .u8 0, .int .u8 0, .int .u8 0, .int .u8 0, .int .u8 0, .int .u8 0, .int .u8 0, .int .u8 0, .int .u8 0, .int .u8 0] #[.int .i64 3, .slice none 0 0, .string (txt (shwn s2.data.toList 31)), .int .i64 2, .string ⟨#[]⟩, .int .u8 0, .int .u8 0, .int .u8 0, .int .u8 0, .int .u8 0, .int .u8 0, .int .u8 0, .int .u8 0, .int .u8 0, .int .u8 0, .int .u8 0, .int .u8 0, .int .u8 0, .int .u8 0, .int .u8 0, .int .u8 0] rfl 32 L7.out infoPt rfl (by simp [Value.oneCell']) rfl ?_)
        rw [HWW8.out]
        clear L7
        go_wp2_with (refine wpList_load_row rfl 32 _ rfl w7.heap.size rfl P 32 _ L8.out Tryz.underlying32 rfl (by rw [hPz]; exact infoPt) ?_)
        refine HRA.mono ?_
        rintro e w9 ⟨v9, rfl, hO9, hB9⟩
        have HB9 : Hid (Below V.heap.size V w9) := HB8.out.trans (hB9.mono HB8.out.size)
        have HM9 : Hid (Bts ma M w9) := HM8.out.below hB9
        obtain ⟨ba, bc, hv9, hbt9, hbl9, hbn9, hbc9, -⟩ := own_bts hO9
        have hbcm9 : bc ≤ 9223372036854775807 := by rw [hv9] at hO9; exact own_capH hO9
        have HBT9 : Hid (Bts ba (rpRow q ++ M) w9) := hbt9
        have HRN := ret_path 1 (.inl rfl) [] ho0 ho0_ok (by decide) (by decide) [60, 62] null_ok (by decide) (by decide) w9 (HTV.out.below HB9.out) ma M M.length mc rfl hmn HM9.out (by omega)
        rw [pn_cells] at HRN
        clear hB9 HRA HB8 HM8 L8 hO9 hbt9 HWW8
        rw [hv9]
        clear hv9
        go_wp2_with fail
        refine HRN.mono ?_
        rintro e w10 ⟨v10, rfl, hO10, hB10⟩
        have HB10 : Hid (Below V.heap.size V w10) := HB9.out.trans (hB10.mono HB9.out.size)
        have HM10 : Hid (Bts ma M w10) := HM9.out.below hB10
        have HBT10 : Hid (Bts ba (rpRow q ++ M) w10) := HBT9.out.below hB10
        obtain ⟨ca, cc, hv10, hct10, hcl10, hcn10, hcc10, -⟩ := own_bts hO10
        have HCT10 : Hid (Bts ca (rpRow [60, 62] ++ M) w10) := hct10
        have HRM := tret_bad 2 ⟨by decide, by decide⟩ (pthC 2 (.slice none 0 0) [] ho0) (by rw [pn_cells]; rfl) w10 ma M.length mc
        rw [pn_cells] at HRM
        clear hB10 HRN HB9 HM9 HBT9 hO10 hct10
        rw [hv10]
        clear hv10
        go_wp2_with fail
        refine HRM.mono ?_
        rintro e w11 ⟨rfl, hB11⟩
        have HB11 : Hid (Below V.heap.size V w11) := HB10.out.trans (hB11.mono HB10.out.size)
        have HM11 : Hid (Bts ma M w11) := HM10.out.below hB11
        have HBT11 : Hid (Bts ba (rpRow q ++ M) w11) := HBT10.out.below hB11
        have HCT11 : Hid (Bts ca (rpRow [60, 62] ++ M) w11) := HCT10.out.below hB11
        clear hB11 HRM HB10 HM10 HBT10 HCT10
        have HH3 := hops_any ba (rpRow q ++ M) (q.length + 15 + M.length) bc hbl9.symm hbc9 hbn9 hbcm9 mx w11 HBT11.out (by rw [hbl9]; omega) ((HB11.out.cell (p := ⟨0, 0, none⟩) HMV0.out).trans HMV.out)
        rw [HP1] at HH3
        have HCVM : Hid (∀ wx, Below w11.heap.size w11 wx → (convert 53 9 (.slice ma M.length mc)).run Tryz.prog wx = .ok (.string (hS M)) wx) := fun wx hx => bts_back (HM11.out.below hx) mc
        have HCVC : Hid (∀ wx, Below w11.heap.size w11 wx → (convert 53 9 (.slice ca (17 + M.length) cc)).run Tryz.prog wx = .ok (.string (⟨#[82, 101, 116, 117, 114, 110, 45, 80, 97, 116, 104, 58, 32, 60, 62, 13, 10]⟩ ++ hS M)) wx) := fun wx hx => by
          have h := bts_back (HCT11.out.below hx) cc
          rw [hcl10, show ([60, 62] : List UInt8).length + 15 + M.length = 17 + M.length from rfl] at h
          have e : (⟨#[82, 101, 116, 117, 114, 110, 45, 80, 97, 116, 104, 58, 32, 60, 62, 13, 10]⟩ : ByteArray) ++ hS M = hS (rpRow [60, 62] ++ M) := by
            apply ByteArray.ext
            apply Array.toList_inj.1
            rw [ByteArray.data_append]
            simp [hS, rpRow, rpN]
          rw [e]
          exact h
        have hms : (hS M).size ≤ 5000000 := by rw [hS_size]; exact hMl
        clear HM11 HBT11 HCT11 hbl9 hcl10 HP1
        go_wp2_with fail
        refine HH3.mono ?_
        rintro e w12 ⟨rfl, hB12⟩
        have hc1 := HCVM.out w12 hB12
        have hc2 := HCVC.out w12 hB12
        have HB12 : Hid (Below w.heap.size w w12) := HB3.out.trans ((HB11.out.trans (hB12.mono HB11.out.size)).mono HB3.out.size)
        clear HCVM HCVC hB12 HB11 HH3 HRP HQV HSZ HTV HBV
        go_wp2_with (first | rw [hc1] | rw [hc2])
        go_ret
        exact ⟨rfl, HB12.out⟩
end Go.Proofs.YthkoionigdnhgabGreatDoor
