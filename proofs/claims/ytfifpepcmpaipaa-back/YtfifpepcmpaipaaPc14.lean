/-
  The statements' own pieces: bytes cut at places.
-/
import Derived.Test.YtfifpepcmpaipaaOwn7
import Derived.Test.YtfifpepcmpaipaaTi14
import Derived.Test.YtfifpepcmpaipaaHrP
import Derived.Test.YtfifpepcmpaipaaOpenN
namespace Go.Proofs.Ytfifpepcmpaipaa
open Go.RowKit

/-- A piece: where it lies, its bytes, its room. -/
structure Pe where
  a : Option Addr
  l : List UInt8
  c : Nat
def celP (x : Pe) : List Value := [.slice x.a x.l.length x.c]
theorem celP_length (x : Pe) : (celP x).length = 1 := rfl
theorem oneP (x : Pe) : ∀ v ∈ celP x, v.oneCell' = true := by simp [celP, Value.oneCell']
theorem infoTB : (Try.prog.info? 27).map (fun i => (i.zero, i.size, i.bytes)) = some (some (.slice none 0 0), 1, 24) := by kernel_rfl
/-- All bytes of pieces. -/
def cat (xs : List Pe) : List UInt8 := xs.flatMap Pe.l
theorem cat_append (xs ys : List Pe) : cat (xs ++ ys) = cat xs ++ cat ys := by simp [cat]
theorem cat_one (x : Pe) : cat [x] = x.l := by simp [cat]
/-- A piece that lies in memory. -/
structure PeOk (w : World) (x : Pe) : Prop where
  bt : Bts x.a x.l w
  lc : x.l.length ≤ x.c
  cm : x.c ≤ 9223372036854775807
  nn : x.a = none → x.c = 0
theorem PeOk.nil (w : World) : PeOk w ⟨none, [], 0⟩ := ⟨.inl rfl, Nat.le_refl _, Nat.zero_le _, fun _ => rfl⟩
theorem PeOk.sp {w : World} {x : Pe} (h : PeOk w x) (h0 : x.l ≠ []) (ad : Addr) (e : x.a = some ad) : ad.spot = none := by
  rcases h.bt with e1 | ⟨g, o, e1, _⟩
  · exact absurd e1 h0
  · rw [e1] at e; cases e; rfl
theorem PeOk.below {w w' : World} {x : Pe} (h : PeOk w x) (hb : Below w.heap.size w w') : PeOk w' x := ⟨h.bt.below hb, h.lc, h.cm, h.nn⟩
/-- What is left of a list behind its first k. -/
theorem bts_drop {g o : Nat} {l : List UInt8} {w : World} (h : Bts (some ⟨g, o, none⟩) l w) (k : Nat) : Bts (some ⟨g, o + k, none⟩) (l.drop k) w := by
  rcases h with e | ⟨g', o', e, hg', hrow⟩
  · exact .inl (by rw [e]; simp)
  · cases e
    exact .inr ⟨g, o + k, rfl, hg', fun j hj => by
      rw [List.length_drop] at hj
      rw [Nat.add_assoc, hrow (k + j) (by omega), List.getElem_drop]⟩
/-- Where a slice of a list begins. -/
def sla (a : Option Addr) (k cap : Nat) : Option Addr := if cap = k then a else a.map (·.add k)
theorem run_slh (a : Option Addr) (n cap p q : Nat) (h1 : p ≤ q) (h2 : q ≤ cap) (w : World) : (Instr.sliceAt 27 (.slice a n cap) (some (.int .i64 (p : Int))) (some (.int .i64 (q : Int))) none).run Try.prog w = .ok (.slice (sla a p cap) (q - p) (cap - p)) w := by
  have hu : Try.prog.underlying 27 = some (.slice (Try.prog.elem 27)) := Try.underlying27
  have hs : (sizeOf (Try.prog.elem 27)).run Try.prog w = .ok 1 w := by
    obtain ⟨i0, hi0, hz0, hz1, hz2⟩ := info_parts info5
    have : (sizeOf 5).run Try.prog w = .ok 1 w := by go_simp
    exact this
  rw [run_sliceAt_slice (h := hu), run_slice_lh (ht := hu) (h0 := by omega) (h1 := by omega) (h2 := by omega), hs]
  simp [Result.andThen, sliced, sla]
theorem run_sll (a : Option Addr) (n cap p : Nat) (h1 : p ≤ n) (w : World) : (Instr.sliceAt 27 (.slice a n cap) (some (.int .i64 (p : Int))) none none).run Try.prog w = .ok (.slice (sla a p cap) (n - p) (cap - p)) w := by
  have hu : Try.prog.underlying 27 = some (.slice (Try.prog.elem 27)) := Try.underlying27
  have hs : (sizeOf (Try.prog.elem 27)).run Try.prog w = .ok 1 w := by
    obtain ⟨i0, hi0, hz0, hz1, hz2⟩ := info_parts info5
    have : (sizeOf 5).run Try.prog w = .ok 1 w := by go_simp
    exact this
  rw [run_sliceAt_slice (h := hu), run_slice_l (ht := hu) (h0 := by omega) (h1 := by omega), hs]
  simp [Result.andThen, sliced, sla]
theorem PeOk.cut {w : World} {a : Option Addr} {l : List UInt8} {cap : Nat} (h : PeOk w ⟨a, l, cap⟩) (p k : Nat) (hp : p ≤ l.length) : PeOk w ⟨sla a p cap, (l.drop p).take k, cap - p⟩ := by
  have hlc := h.lc
  have hcm := h.cm
  have hbt := h.bt
  have hnn := h.nn
  have hsp := h.sp
  dsimp only at hlc hcm hbt hnn hsp
  refine ⟨?_, ?_, ?_, ?_⟩
  · dsimp only
    refine Bts.take ?_ k
    unfold sla
    split
    · rename_i e
      have : l.drop p = [] := List.drop_eq_nil_of_le (by omega)
      rw [this]
      exact .inl rfl
    · cases a with
      | none => rw [bts_none hbt]; exact .inl (by simp)
      | some ad =>
        by_cases h0 : l = []
        · exact .inl (by rw [h0]; simp)
        have e : ad = ⟨ad.block, ad.off, none⟩ := by
          have := hsp h0 ad rfl
          cases ad
          simp_all
        rw [e] at hbt ⊢
        rw [show Option.map (fun x : Addr => x.add p) (some ⟨ad.block, ad.off, none⟩) = some ⟨ad.block, ad.off + p, none⟩ from by rw [Option.map_some, addr_add]]
        exact bts_drop hbt p
  · simp only [List.length_take, List.length_drop]
    omega
  · dsimp only; omega
  · dsimp only
    unfold sla
    intro e
    split at e
    · have := hnn e; omega
    · cases a with
      | none => have := hnn rfl; omega
      | some ad => cases e
set_option maxHeartbeats 2000000 in
set_option maxRecDepth 20000 in
theorem lpieces_any (a : Option Addr) (l : List UInt8) (n cap : Nat) (hn : n = l.length) (ca : Option Addr) (zs : List Int) (m ccap : Nat) (hm : m = zs.length) (w : World) (hp : PeOk w ⟨a, l, cap⟩) (hl : l.length ≤ 1099511627776) (hz : IntsB ca zs w) (hzl : zs.length ≤ 1099511627776) :
    Calls Try.prog 24 #[.slice a n cap, .slice ca m ccap] w fun e w' => ∃ v xs, e = .returned v ∧ Ow celP 27 1 w' v xs ∧ (∀ k, v.ownBlock = some k → w.heap.size ≤ k) ∧ cat xs = l ∧ (∀ x ∈ xs, PeOk w x) ∧ xs.length = zs.length + 1 ∧ Below w.heap.size w w' := by
  subst hn hm
  have HP : Hid (PeOk w ⟨a, l, cap⟩) := hp
  have HZ : Hid (IntsB ca zs w) := hz
  have hlc : l.length ≤ cap := hp.lc
  have hcm : cap ≤ 9223372036854775807 := hp.cm
  clear hp hz
  go_enter Try.func24, Try.ntmps24
  go_wp2_with fail
  go_loopw [5, 6, 8, 9, 12] (fun v fv _ _ iv wr => ∃ (k p : Nat) (xs : List Pe), k ≤ zs.length ∧ p ≤ l.length ∧ fv = .int .i64 p ∧ iv = .int .i64 k ∧ Hid (Ow celP 27 1 wr v xs) ∧ Hid (∀ i, v.ownBlock = some i → w.heap.size ≤ i) ∧ Hid (cat xs = l.take p ∧ (∀ x ∈ xs, PeOk w x) ∧ xs.length = k) ∧ Hid (Below w.heap.size w wr)) (fun _ _ _ _ iv _ => zs.length - (intOf iv).toNat)
  case atStart => exact ⟨0, 0, [], Nat.zero_le _, Nat.zero_le _, rfl, rfl, Ow.nil _ _ _ _, (fun k e => by cases e), ⟨by simp [cat], by simp, rfl⟩, Below.refl _ _⟩
  case round =>
    obtain ⟨k, p, xs, hk, hp, rfl, rfl, HO, HN, HX, HB⟩ := hrel
    by_cases hlt : k < zs.length
    · have hzi : Ints ca zs wr := by
        rcases HZ.out.1 with e | ⟨cg, co, e, hcg, hcc⟩
        · exact .inl e
        · exact .inr ⟨cg, co, e, Nat.lt_of_lt_of_le hcg HB.out.size, fun j hj => (HB.out.cell (p := ⟨cg, co + j, none⟩) hcg).trans (hcc j hj)⟩
      obtain ⟨cg, co, rfl, hcg, hcc⟩ := hzi.resolve_left (fun e => by rw [e] at hlt; cases hlt)
      have hcz := hcc k hlt
      clear hzi hcc
      generalize zs[k] = z at *
      obtain ⟨M, hM⟩ : ∃ M : Nat, (M : Int) = max z (p : Int) := ⟨(max z (p : Int)).toNat, by omega⟩
      obtain ⟨q, hq⟩ : ∃ q : Nat, (q : Int) = min (M : Int) (l.length : Int) := ⟨(min (M : Int) (l.length : Int)).toNat, by omega⟩
      have hq1 : p ≤ q := by omega
      have hq2 : q ≤ l.length := by omega
      have e1 : max z (p : Int) = (M : Int) := hM.symm
      have e2 : (if z < (p : Int) then (p : Int) else z) = (M : Int) := by rw [hM]; split <;> omega
      have e3 : min (M : Int) (l.length : Int) = (q : Int) := hq.symm
      have e4 : (if (l.length : Int) < (M : Int) then (l.length : Int) else (M : Int)) = (q : Int) := by rw [hq]; split <;> omega
      have e5 : (if l.length < M then (l.length : Int) else (M : Int)) = (q : Int) := by rw [hq]; split <;> omega
      have hsl := run_slh a l.length cap p q hq1 (by omega)
      have hlen : ((l.drop p).take (q - p)).length = q - p := by rw [List.length_take, List.length_drop]; omega
      have HPE : Hid (PeOk w ⟨sla a p cap, (l.drop p).take (q - p), cap - p⟩) := HP.out.cut p (q - p) hp
      have HNW : Hid (∀ j u, (celP ⟨sla a p cap, (l.drop p).take (q - p), cap - p⟩)[j]? = some u → (wr.alloc (.cells #[.slice (sla a p cap) (q - p) (cap - p)] 27)).cell? ⟨wr.heap.size, j, none⟩ = some u) := fun j u h => by
        unfold celP at h
        dsimp only at h
        rw [hlen] at h
        exact new_cells _ j u h
      have HCT : Hid (cat (xs ++ [⟨sla a p cap, (l.drop p).take (q - p), cap - p⟩]) = l.take q ∧ (∀ x ∈ xs ++ [⟨sla a p cap, (l.drop p).take (q - p), cap - p⟩], PeOk w x) ∧ (xs ++ [(⟨sla a p cap, (l.drop p).take (q - p), cap - p⟩ : Pe)]).length = k + 1) := by
        refine ⟨?_, ?_, ?_⟩
        · rw [cat_append, cat_one, HX.out.1, ← List.take_add, Nat.add_sub_cancel' hq1]
        · intro x hx
          rcases List.mem_append.1 hx with h | h
          · exact HX.out.2.1 x h
          · rw [List.mem_singleton.1 h]; exact HPE.out
        · simp [HX.out.2.2]
      have HXL : Hid (xs.length ≤ 1099511627776) := by have := HX.out.2.2; show _ ≤ _; omega
      obtain ⟨ga, gc, hgv, -⟩ := HO.out.shape
      subst hgv
      clear hM hq hlen HX HPE
      generalize hP : (⟨sla a p cap, (l.drop p).take (q - p), cap - p⟩ : Pe) = P at *
      clear hP
      generalize sla a p cap = sa at *
      go_wp2_with (at_builtin; refine wpList_append_ow celP_length (by decide) oneP rfl _ _ 63 rfl Try.underlying63 (.slice none 0 0) 24 infoTB rfl _ xs rfl (HO.out.below ((Below.refl _ _).alloc (Nat.le_refl _) _)) wr.heap.size 1 P rfl HNW.out (by have := HXL.out; omega) (by have := HXL.out; omega) ?_; intro g8 cap8 w8 HO8 HC8 HG8; apply Hid.out)
      unfold Hid
      have HO9 : Hid (Ow celP 27 1 w8 (.slice (some ⟨g8, 0, none⟩) (xs.length + 1) cap8) (xs ++ [P])) := HO8
      have HN9 : Hid (∀ i, (Value.slice (some ⟨g8, 0, none⟩) (xs.length + 1) cap8).ownBlock = some i → w.heap.size ≤ i) := fun i e => by
        cases e
        rcases HG8 with h | h
        · exact HN.out _ h
        · have := HB.out.size; simp at h; show _ ≤ g8; omega
      have HB9 : Hid (Below w.heap.size w w8) := (HB.out.alloc HB.out.size _).trans (HC8.to_below (by have := HB.out.size; simp; omega) (fun i e => HN.out i e))
      clear HO8 HC8 HG8 HO HN HB hsl HNW e1 e2 e3 e4 e5 hcz
      go_wp2_with fail
      go_round
      case rel => exact ⟨k + 1, q, xs ++ [P], hlt, hq2, rfl, by go_num, HO9.out, HN9.out, HCT.out, HB9.out⟩
      case measure => simp [intOf]; omega
    · have hsl := run_sll a l.length cap p hp
      have hlen : (l.drop p).length = l.length - p := List.length_drop
      have HPE : Hid (PeOk w ⟨sla a p cap, l.drop p, cap - p⟩) := by
        have := HP.out.cut p (l.length - p) hp
        rw [List.take_of_length_le (by rw [hlen]; exact Nat.le_refl _)] at this
        exact this
      have HNW : Hid (∀ j u, (celP ⟨sla a p cap, l.drop p, cap - p⟩)[j]? = some u → (wr.alloc (.cells #[.slice (sla a p cap) (l.length - p) (cap - p)] 27)).cell? ⟨wr.heap.size, j, none⟩ = some u) := fun j u h => by
        unfold celP at h
        dsimp only at h
        rw [hlen] at h
        exact new_cells _ j u h
      have HCT : Hid (cat (xs ++ [⟨sla a p cap, l.drop p, cap - p⟩]) = l ∧ (∀ x ∈ xs ++ [⟨sla a p cap, l.drop p, cap - p⟩], PeOk w x) ∧ (xs ++ [(⟨sla a p cap, l.drop p, cap - p⟩ : Pe)]).length = zs.length + 1) := by
        refine ⟨?_, ?_, ?_⟩
        · rw [cat_append, cat_one, HX.out.1, List.take_append_drop]
        · intro x hx
          rcases List.mem_append.1 hx with h | h
          · exact HX.out.2.1 x h
          · rw [List.mem_singleton.1 h]; exact HPE.out
        · have := HX.out.2.2
          simp
          omega
      have HXL : Hid (xs.length ≤ 1099511627776) := by have := HX.out.2.2; show _ ≤ _; omega
      obtain ⟨ga, gc, hgv, -⟩ := HO.out.shape
      subst hgv
      clear hlen HX HPE
      generalize hP : (⟨sla a p cap, l.drop p, cap - p⟩ : Pe) = P at *
      clear hP
      generalize sla a p cap = sa at *
      go_wp2_with (at_builtin; refine wpList_append_ow celP_length (by decide) oneP rfl _ _ 63 rfl Try.underlying63 (.slice none 0 0) 24 infoTB rfl _ xs rfl (HO.out.below ((Below.refl _ _).alloc (Nat.le_refl _) _)) wr.heap.size 1 P rfl HNW.out (by have := HXL.out; omega) (by have := HXL.out; omega) ?_; intro g8 cap8 w8 HO8 HC8 HG8; apply Hid.out)
      unfold Hid
      have HO9 : Hid (Ow celP 27 1 w8 (.slice (some ⟨g8, 0, none⟩) (xs.length + 1) cap8) (xs ++ [P])) := HO8
      have HN9 : Hid (∀ i, (Value.slice (some ⟨g8, 0, none⟩) (xs.length + 1) cap8).ownBlock = some i → w.heap.size ≤ i) := fun i e => by
        cases e
        rcases HG8 with h | h
        · exact HN.out _ h
        · have := HB.out.size; simp at h; show _ ≤ g8; omega
      have HB9 : Hid (Below w.heap.size w w8) := (HB.out.alloc HB.out.size _).trans (HC8.to_below (by have := HB.out.size; simp; omega) (fun i e => HN.out i e))
      clear HO8 HC8 HG8 HO HN HB hsl HNW
      go_wp2_with fail
      go_ret
      exact ⟨_, xs ++ [P], rfl, HO9.out, HN9.out, HCT.out.1, HCT.out.2.1, HCT.out.2.2, HB9.out⟩
end Go.Proofs.Ytfifpepcmpaipaa
