/-
  The document's Lines.
-/
import Derived.Test.YtfifpepcmpaipaaDe14
namespace Go.Proofs.Ytfifpepcmpaipaa
open Go.RowKit

/-- A stretch of a list. -/
def str (l : List UInt8) (a b : Nat) : List UInt8 := (l.drop a).take (b - a)
theorem str_len (l : List UInt8) (a b : Nat) (h1 : a ≤ b) (h2 : b ≤ l.length) : (str l a b).length = b - a := by
  unfold str
  rw [List.length_take, List.length_drop]
  omega
theorem str_next (l : List UInt8) (a b : Nat) (h1 : a ≤ b) (h2 : b < l.length) : str l a (b + 1) = str l a b ++ [l[b]] := by
  unfold str
  rw [show b + 1 - a = (b - a) + 1 by omega, List.take_succ_eq_append_getElem (by rw [List.length_drop]; omega), List.getElem_drop]
  congr 3
  omega
theorem str_nil (l : List UInt8) (a : Nat) : str l a a = [] := by simp [str]
theorem str_end (l : List UInt8) (a : Nat) : str l a l.length = l.drop a := by
  unfold str
  rw [List.take_of_length_le (by rw [List.length_drop]; omega)]
/-- Where the lines stand: f begins the line that is coming, i is the last byte met. -/
def Lnv (l : List UInt8) (ls : List (List UInt8)) (f i : Nat) : Prop := lns [] l = (ls ++ (lns (str l f i) (l.drop i)).1, (lns (str l f i) (l.drop i)).2)
theorem Lnv.hit {l : List UInt8} {ls : List (List UInt8)} {f i : Nat} (h : Lnv l ls f (i + 1)) (hf : f ≤ i) (h1 : i + 1 < l.length) (h13 : l[i] = 13) (h10 : l[i + 1] = 10) : Lnv l (ls ++ [str l f i]) (i + 2) (i + 2) := by
  unfold Lnv at h ⊢
  rw [List.drop_eq_getElem_cons h1, lns_cons, str_next l f i hf (by omega), hfB_snoc, h13, h10] at h
  rw [if_pos (by decide)] at h
  rw [str_nil, h]
  simp
theorem Lnv.on {l : List UInt8} {ls : List (List UInt8)} {f i : Nat} (h : Lnv l ls f (i + 1)) (hf : f ≤ i + 1) (h1 : i + 1 < l.length) (hn : ¬ (l[i] = 13 ∧ l[i + 1] = 10)) : Lnv l ls f (i + 1 + 1) := by
  unfold Lnv at h ⊢
  rw [List.drop_eq_getElem_cons h1, lns_cons] at h
  rw [str_next l f (i + 1) hf h1, h]
  have hno : ¬ (l[i + 1] == 10 && hfB (str l f (i + 1))) = true := by
    intro e
    rw [Bool.and_eq_true, beq_iff_eq] at e
    by_cases hf2 : f ≤ i
    · rw [str_next l f i hf2 (by omega), hfB_snoc] at e
      exact hn ⟨by simpa using e.2, e.1⟩
    · obtain rfl : f = i + 1 := by omega
      rw [str_nil] at e
      exact absurd e.2 (by decide)
  rw [if_neg hno]
theorem Lnv.start {l : List UInt8} (h : 0 < l.length) : Lnv l [] 0 1 := by
  unfold Lnv
  cases l with
  | nil => cases h
  | cons c r =>
    rw [lns_cons, if_neg (by simp [hfB])]
    simp [str]
/-- What Lines tells. -/
structure Lne (w : World) (l : List UInt8) (v : Value) (ys : List Pe) (w' : World) : Prop where
  ow : Ow celP 27 1 w' v ys
  nw : ∀ k, v.ownBlock = some k → w.heap.size ≤ k
  ls : ys.map Pe.l = (lns [] l).1
  ok : ∀ x ∈ ys, PeOk w x
  be : Below w.heap.size w w'
set_option maxHeartbeats 2000000 in
set_option maxRecDepth 20000 in
theorem elines_any (a : Option Addr) (l : List UInt8) (n cap : Nat) (hn : n = l.length) (w : World) (hp : PeOk w ⟨a, l, cap⟩) (hl : l.length ≤ 1099511627776) :
    Calls Try.prog 33 #[.slice a n cap] w fun e w' => ∃ v ys ra rc, e = .returned (.tuple #[v, .slice ra (lns [] l).2.length rc]) ∧ Lne w l v ys w' ∧ PeOk w ⟨ra, (lns [] l).2, rc⟩ := by
  subst hn
  have HP : Hid (PeOk w ⟨a, l, cap⟩) := hp
  have hlc : l.length ≤ cap := hp.lc
  have hcm : cap ≤ 9223372036854775807 := hp.cm
  obtain ⟨T, hT⟩ : ∃ T, lns [] l = T := ⟨_, rfl⟩
  rw [hT]
  have HT : Hid (lns [] l = T) := hT
  clear hp hT
  by_cases h0 : 0 < l.length
  · obtain ⟨g, q, rfl, hg, hrow⟩ := HP.out.bt.resolve_left (fun e => by dsimp only at e; rw [e] at h0; cases h0)
    have HRW : Hid (∀ j, (h : j < l.length) → w.cell? ⟨g, q + j, none⟩ = some (.int .u8 (l[j].toNat : Int))) := hrow
    have HG : Hid (g < w.heap.size) := hg
    clear hrow hg
    go_enter Try.func33, Try.ntmps33
    go_wp2_with fail
    go_loopw [4, 5, 6] (fun v fv iv wr => ∃ (i f : Nat) (ys : List Pe), i < l.length ∧ f ≤ i + 1 ∧ fv = .int .i64 f ∧ iv = .int .i64 i ∧ Hid (Ow celP 27 1 wr v ys) ∧ Hid (∀ k, v.ownBlock = some k → w.heap.size ≤ k) ∧ Hid (Lnv l (ys.map Pe.l) f (i + 1) ∧ (∀ x ∈ ys, PeOk w x) ∧ ys.length ≤ i + 1 ∧ (f = i + 1 → ¬ l[i]? = some 13)) ∧ Hid (Below w.heap.size w wr)) (fun _ _ iv _ => l.length - (intOf iv).toNat)
    case atStart => exact ⟨0, 0, [], h0, by omega, rfl, rfl, Ow.nil _ _ _ _, (fun k e => by cases e), ⟨Lnv.start h0, by simp, by simp, fun e => by cases e⟩, Below.refl _ _⟩
    case round =>
      obtain ⟨i, f, ys, hi, hf, rfl, rfl, HO, HN, HX, HB⟩ := hrel
      obtain ⟨ga, gc, hgv, -⟩ := HO.out.shape
      subst hgv
      by_cases hlt : i + 1 < l.length
      · have hlt' : (i : Int) + 1 < (l.length : Int) := by omega
        have hc1 := (HB.out.cell (p := ⟨g, q + i, none⟩) HG.out).trans (HRW.out i (by omega))
        have hc2 := (HB.out.cell (p := ⟨g, q + (i + 1), none⟩) HG.out).trans (HRW.out (i + 1) hlt)
        have HON : Hid (¬ (l[i] = 13 ∧ l[i + 1] = 10) → Lnv l (ys.map Pe.l) f (i + 1 + 1)) := fun h => HX.out.1.on hf hlt h
        have HHI : Hid (f ≤ i → l[i] = 13 → l[i + 1] = 10 → Lnv l (ys.map Pe.l ++ [str l f i]) (i + 2) (i + 2)) := fun h a b => HX.out.1.hit h hlt a b
        have HFI : Hid (l[i] = 13 → f ≤ i) := fun h => by
          apply Classical.byContradiction
          intro hn
          exact HX.out.2.2.2 (by omega) (by rw [List.getElem?_eq_getElem (by omega), h])
        have HNX : Hid (l[i + 1]? = some l[i + 1]) := List.getElem?_eq_getElem hlt
        generalize l[i] = d1 at *
        generalize l[i + 1] = d2 at *
        by_cases h13 : d1 = 13
        · have k13 : ((d1.toNat : Int) == 13) = true := u8v h13
          have hfi := HFI.out h13
          by_cases h10 : d2 = 10
          · have k10 : ((d2.toNat : Int) == 10) = true := u8v h10
            have HLN := HHI.out hfi h13 h10
            have HL2 : Hid (Lnv l (ys.map Pe.l ++ [str l f i]) (i + 2) (i + 2)) := HLN
            have HN13 : Hid (¬ l[i + 1]? = some 13) := by rw [HNX.out, h10]; exact fun e => by cases e
            have hsl := run_slh (some ⟨g, q, none⟩) l.length cap f i hfi (by omega)
            have hlen : (str l f i).length = i - f := str_len l f i hfi (by omega)
            have HPE : Hid (PeOk w ⟨sla (some ⟨g, q, none⟩) f cap, str l f i, cap - f⟩) := HP.out.cut f (i - f) (by show f ≤ l.length; omega)
            have HNW : Hid (∀ j u, (celP ⟨sla (some ⟨g, q, none⟩) f cap, str l f i, cap - f⟩)[j]? = some u → (wr.alloc (.cells #[.slice (sla (some ⟨g, q, none⟩) f cap) (i - f) (cap - f)] 27)).cell? ⟨wr.heap.size, j, none⟩ = some u) := fun j u h => by
              unfold celP at h
              dsimp only at h
              rw [hlen] at h
              exact new_cells _ j u h
            have HCT : Hid ((ys ++ [(⟨sla (some ⟨g, q, none⟩) f cap, str l f i, cap - f⟩ : Pe)]).map Pe.l = ys.map Pe.l ++ [str l f i] ∧ (∀ x ∈ ys ++ [⟨sla (some ⟨g, q, none⟩) f cap, str l f i, cap - f⟩], PeOk w x) ∧ (ys ++ [(⟨sla (some ⟨g, q, none⟩) f cap, str l f i, cap - f⟩ : Pe)]).length ≤ i + 2) := by
              refine ⟨by simp, ?_, ?_⟩
              · intro x hx
                rcases List.mem_append.1 hx with h | h
                · exact HX.out.2.1 x h
                · rw [List.mem_singleton.1 h]; exact HPE.out
              · have := HX.out.2.2.1
                simp
                omega
            have HXL : Hid (ys.length ≤ 1099511627776) := by have := HX.out.2.2.1; show _ ≤ _; omega
            clear hlen HX HPE HON HHI HFI HNX h13 h10 HLN
            generalize hP : (⟨sla (some ⟨g, q, none⟩) f cap, str l f i, cap - f⟩ : Pe) = P at *
            clear hP
            generalize sla (some ⟨g, q, none⟩) f cap = sa at *
            go_wp2_with (at_builtin; refine wpList_append_ow celP_length (by decide) oneP rfl _ _ 63 rfl Try.underlying63 (.slice none 0 0) 24 infoTB rfl _ ys rfl (HO.out.below ((Below.refl _ _).alloc (Nat.le_refl _) _)) wr.heap.size 1 P rfl HNW.out (by have := HXL.out; omega) (by have := HXL.out; omega) ?_; intro g8 cap8 w8 HO8 HC8 HG8; apply Hid.out)
            unfold Hid
            have HO9 : Hid (Ow celP 27 1 w8 (.slice (some ⟨g8, 0, none⟩) (ys.length + 1) cap8) (ys ++ [P])) := HO8
            have HN9 : Hid (∀ i, (Value.slice (some ⟨g8, 0, none⟩) (ys.length + 1) cap8).ownBlock = some i → w.heap.size ≤ i) := fun i e => by
              cases e
              rcases HG8 with h | h
              · exact HN.out _ h
              · have := HB.out.size; simp at h; show _ ≤ g8; omega
            have HB9 : Hid (Below w.heap.size w w8) := (HB.out.alloc HB.out.size _).trans (HC8.to_below (by have := HB.out.size; simp; omega) (fun i e => HN.out i e))
            clear HO8 HC8 HG8 HO HN HB hsl HNW hc1 hc2
            go_wp2_with fail
            go_round
            case rel => exact ⟨i + 1, i + 2, ys ++ [P], hlt, Nat.le_refl _, by go_num, by go_num, HO9.out, HN9.out, ⟨by rw [HCT.out.1]; exact HL2.out, HCT.out.2.1, HCT.out.2.2, fun _ => HN13.out⟩, HB9.out⟩
            case measure => simp [intOf]; omega
          · have k10 : ((d2.toNat : Int) == 10) = false := u8w h10
            have HL2 : Hid (Lnv l (ys.map Pe.l) f (i + 1 + 1)) := HON.out (fun h => h10 h.2)
            clear HON HHI HFI HNX h13 h10
            go_wp2_with fail
            go_round
            case rel => exact ⟨i + 1, f, ys, hlt, by omega, rfl, by go_num, HO.out, HN.out, ⟨HL2.out, HX.out.2.1, Nat.le_succ_of_le HX.out.2.2.1, fun e => by omega⟩, HB.out⟩
            case measure => simp [intOf]; omega
        · have k13 : ((d1.toNat : Int) == 13) = false := u8w h13
          have HL2 : Hid (Lnv l (ys.map Pe.l) f (i + 1 + 1)) := HON.out (fun h => h13 h.1)
          clear HON HHI HFI HNX h13
          go_wp2_with fail
          go_round
          case rel => exact ⟨i + 1, f, ys, hlt, by omega, rfl, by go_num, HO.out, HN.out, ⟨HL2.out, HX.out.2.1, Nat.le_succ_of_le HX.out.2.2.1, fun e => by omega⟩, HB.out⟩
          case measure => simp [intOf]; omega
      · have hlt' : ¬ (i : Int) + 1 < (l.length : Int) := by omega
        have hsl := run_sll (some ⟨g, q, none⟩) l.length cap f (by omega)
        have HFN : Hid (T.1 = ys.map Pe.l ∧ T.2 = l.drop f) := by
          have h1 := HX.out.1
          unfold Lnv at h1
          rw [HT.out, List.drop_eq_nil_of_le (show l.length ≤ i + 1 by omega), show i + 1 = l.length by omega, str_end] at h1
          rw [h1]
          exact ⟨by simp [lns], rfl⟩
        have HPE : Hid (PeOk w ⟨sla (some ⟨g, q, none⟩) f cap, l.drop f, cap - f⟩) := by
          have := HP.out.cut f (l.length - f) (by show f ≤ l.length; omega)
          rw [List.take_of_length_le (by rw [List.length_drop]; exact Nat.le_refl _)] at this
          exact this
        have HDL : Hid ((l.drop f).length = l.length - f) := List.length_drop
        generalize sla (some ⟨g, q, none⟩) f cap = sa at *
        go_wp2_with fail
        go_region
        go_wp2_with fail
        go_ret2
        refine ⟨_, ys, sa, cap - f, ?_, ⟨HO.out, HN.out, by rw [HT.out, HFN.out.1], HX.out.2.1, HB.out.drew⟩, by rw [HFN.out.2]; exact HPE.out⟩
        rw [HFN.out.2, HDL.out]
        rfl
  · obtain rfl : l = [] := List.eq_nil_of_length_eq_zero (by omega)
    have HTN : Hid (T = ([], [])) := HT.out.symm
    go_enter Try.func33, Try.ntmps33
    go_wp2_with fail
    go_loopw [4, 5, 6] (fun v fv iv wr => v = .slice none 0 0 ∧ fv = .int .i64 0 ∧ iv = .int .i64 0 ∧ wr = w) (fun _ _ _ _ => 0)
    case atStart => exact ⟨rfl, rfl, rfl, rfl⟩
    case round =>
      obtain ⟨rfl, rfl, rfl, rfl⟩ := hrel
      go_wp2_with fail
      go_region
      go_wp2_with fail
      go_ret2
      rw [HTN.out]
      exact ⟨_, [], a, cap, rfl, ⟨Ow.nil _ _ _ _, (fun k e => by cases e), rfl, by simp, (Below.refl _ _).drew⟩, HP.out⟩
end Go.Proofs.Ytfifpepcmpaipaa
