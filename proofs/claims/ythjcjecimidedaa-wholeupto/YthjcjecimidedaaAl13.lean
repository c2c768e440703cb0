/-
  All that a liner tells of bytes that are cut into pieces.
-/
import Derived.Test.YthjcjecimidedaaHl13
import Derived.Test.YthjcjecimidedaaRnP
import Derived.Test.YthjcjecimidedaaOwn7
import Derived.Test.YthjcjecimidedaaOpenN
import Derived.Deep.DeepCutAuto
namespace Go.Proofs.Ythjcjecimidedaa
open Go.RowKit

def celT (x : Td) : List Value := [.int .i64 (kdI x.i), .string ⟨(txI x.i).toArray⟩, .int .i64 (yI x.i), .int .i64 (x.n : Int)]
theorem celT_length (x : Td) : (celT x).length = 4 := rfl
theorem oneT : ∀ x, ∀ v ∈ celT x, v.oneCell' = true := by
  intro x v hv
  simp [celT] at hv
  rcases hv with rfl | rfl | rfl | rfl <;> rfl
theorem infoTD : (Try.prog.info? 51).map (fun i => (i.zero, i.size, i.bytes)) = some (some (Value.agg #[.int .i64 0, .string ⟨#[]⟩, .int .i64 0, .int .i64 0]), 4, 40) := by kernel_rfl
/-- The liner's blocks alone. -/
theorem LnC.tight {w : World} {F : Nat → Prop} {b m : Nat} {t : List UInt8} {h : Bool} {y : Int} (x : LnC w F b m t h y) : ∃ G : Nat → Prop, LnC w G b m t h y ∧ (∀ k, G k → F k ∧ k < w.heap.size) ∧ ∀ k, G k → ∀ cs u, Lies w k cs u → u = 57 ∨ u = 5 := by
  obtain ⟨v, h1, h2, h3⟩ := x.ex
  refine ⟨fun k => k = b ∨ v.ownBlock = some k, ⟨⟨v, h1, h2, fun k e => .inr e⟩, .inl rfl, x.lo, x.hi, x.le⟩, fun k hk => ?_, fun k hk cs u hl => ?_⟩
  · rcases hk with rfl | hk
    · exact ⟨x.fb, h1.lt⟩
    · exact ⟨h3 k hk, (h2.lt k hk).2⟩
  · rcases hk with rfl | hk
    · exact .inl (lies_kind hl h1)
    · obtain ⟨_, ⟨rfl, _⟩ | ⟨g, cap, cur, rfl, _, hh, _⟩⟩ := h2
      · cases hk
      · cases hk
        exact .inr (lies_kind hl hh)
theorem Ow.kind {α : Type} {cel : α → List Value} {t k : Nat} {w : World} {v : Value} {l : List α} (h : Ow cel t k w v l) {g : Nat} (hg : v.ownBlock = some g) : ∃ cs, Lies w g cs t := by
  obtain ⟨_, ⟨rfl, _⟩ | ⟨g', cap, cur, rfl, _, h4, _⟩⟩ := h
  · cases hg
  · cases hg; exact ⟨cur, h4⟩
/-- One Take, beside a row of what was told. -/
theorem take_beside (b m : Nat) (s : List UInt8) (a : Option Addr) (l : List UInt8) (n cap B : Nat) (hn : n = l.length) (hl : l.length ≤ 140737488355328) (w : World) (x : Ln w (fun k => B ≤ k ∧ k < w.heap.size) b m s) (hb : Bts a l w) (hne : ∀ ad, a = some ad → ad.block < B) (v : Value) (xs : List Td) (ho : Ow celT 51 4 w v xs) (hB : B ≤ w.heap.size) :
    Calls Try.prog 13 #[.pointer (some ⟨b, 0, none⟩), .slice a n cap] w fun e w' => e = .returned (.tuple #[.int .i64 ((tk m s l).1 : Nat), itV (tk m s l).2.1]) ∧ Ln w' (fun k => B ≤ k ∧ k < w'.heap.size) b m (tk m s l).2.2 ∧ Ow celT 51 4 w' v xs ∧ Below B w w' := by
  obtain ⟨G, hG, hG1, hG2⟩ := LnC.tight x
  refine (ztake_any G b m s a l n cap hn hl w hG (fun k hk => (hG1 k hk).2) hb (fun ad e h => absurd (hG1 _ h).1.1 (Nat.not_le.2 (hne ad e)))).mono ?_
  rintro e w' ⟨rfl, h1, h2⟩
  refine ⟨rfl, LnC.mono h1 (fun k hk h3 => ⟨?_, h3⟩), ho.chg h2 (fun g hg hh => ?_), h2.to_below hB (fun k hk => (hG1 k hk).1.1)⟩
  · rcases hk with hk | hk
    · exact (hG1 k hk).1.1
    · exact Nat.le_trans hB hk
  · obtain ⟨cs, hl⟩ := ho.kind hg
    rcases hG2 g hh cs _ hl with e | e <;> cases e
set_option maxHeartbeats 8000000 in
set_option maxRecDepth 20000 in
theorem all_some (m : Nat) (hm1 : 1 ≤ m) (hm2 : m ≤ 64) (g o : Nat) (l : List UInt8) (cap : Nat) (ca : Option Addr) (zs : List Int) (ccap : Nat) (w : World) (hb : Bts (some ⟨g, o, none⟩) l w) (hl0 : 0 < l.length) (hl : l.length ≤ 4194304) (hc : l.length ≤ cap) (hcm : cap ≤ 9223372036854775807) (hz : IntsB ca zs w) (hzl : zs.length ≤ 1099511627776) :
    Calls Try.prog 19 #[.int .i64 (m : Int), .slice (some ⟨g, o, none⟩) l.length cap, .slice ca zs.length ccap] w fun e w' => ∃ v, e = .returned (.tuple #[v, .int .i64 ((rn m [] l).2.length : Nat), .bool true]) ∧ Ow celT 51 4 w' v (rn m [] l).1 ∧ (∀ k, v.ownBlock = some k → w.heap.size ≤ k) ∧ Below w.heap.size w w' := by
  have HBT : Hid (Bts (some ⟨g, o, none⟩) l w) := hb
  have HG : Hid (g < w.heap.size) := hb.lt hl0
  have HLL : Hid (l.length ≤ 4194304) := hl
  have HCM : Hid (cap ≤ 9223372036854775807) := hcm
  have HZ : Hid (IntsB ca zs w) := hz
  have HNW := znew_good m hm1 (by omega) w
  clear hb hz
  go_enter Try.func19, Try.ntmps19
  go_wp2_with fail
  refine HNW.mono ?_
  rintro e w1 ⟨rfl, hX1, hB1⟩
  have HX1 : Hid (Ln w1 (fun k => w.heap.size ≤ k ∧ k < w1.heap.size) w.heap.size m []) := LnC.mono hX1 (fun k h1 h2 => ⟨h1, h2⟩)
  have HB1 : Hid (Below w.heap.size w w1) := hB1
  clear hX1 hB1 HNW
  go_wp2_with fail
  go_loopw [11, 12, 13, 14, 15, 16, 17, 18] (fun ov av sv iv _ _ _ _ wr => ∃ (i p : Nat) (xs : List Td) (s : List UInt8), i ≤ zs.length + 1 ∧ p ≤ l.length ∧ (i = zs.length + 1 → p = l.length) ∧ av = .int .i64 (p : Nat) ∧ sv = .int .i64 (s.length : Nat) ∧ iv = .int .i64 (i : Nat) ∧ Hid (rn m [] (l.take p) = (xs, s)) ∧ Hid (Ow celT 51 4 wr ov xs) ∧ Hid (∀ k, ov.ownBlock = some k → w.heap.size ≤ k) ∧ Hid (Ln wr (fun k => w.heap.size ≤ k ∧ k < wr.heap.size) w.heap.size m s) ∧ Hid (Below w.heap.size w wr)) (fun _ _ _ iv _ _ _ _ _ => zs.length + 2 - (intOf iv).toNat)
  case atStart => exact ⟨0, 0, [], [], Nat.zero_le _, Nat.zero_le _, (fun h => by omega), rfl, rfl, rfl, rfl, Ow.nil _ _ _ _, (fun k e => by cases e), HX1.out, HB1.out⟩
  case round =>
    obtain ⟨i, p, xs, s, hi, hp, hip, rfl, rfl, rfl, HRN, HO, HOB, HX, HB⟩ := hrel
    clear HX1 HB1
    by_cases hlt : i ≤ zs.length
    · have hlt' : ¬ ((zs.length : Int) < (i : Int)) := by omega
      have hlt'' : (i : Int) ≤ (zs.length : Int) := by omega
      have HIP : Hid (i = zs.length + 1 → p = l.length) := hip
      clear hip
      by_cases hlast : i = zs.length
      · have hl1 : ¬ (i : Int) < (zs.length : Int) := by omega
        obtain ⟨nn, hnn⟩ : ∃ nn, p + nn = l.length := ⟨l.length - p, by omega⟩
        have hq : (l.length : Int) - (p : Int) = (nn : Int) := by omega
        obtain ⟨E, hE⟩ : ∃ E, p + nn = E := ⟨_, rfl⟩
        have HEL : Hid (E ≤ l.length) := by show _ ≤ _; omega
        have HNX : Hid (i + 1 ≤ zs.length + 1 ∧ (i + 1 = zs.length + 1 → E = l.length)) := ⟨by omega, fun _ => by omega⟩
        have hE2 : (p : Int) + (nn : Int) = (E : Int) := by omega
        have hEc : E ≤ cap := by omega
        clear hlast
        have HEP : Hid (p + nn = E ∧ E ≤ cap) := ⟨hE, hEc⟩
        by_cases hpc : p < cap
        · have hpc' : (p : Int) < (cap : Int) := by omega
          go_wp2_with fail
          clear hq hE hE2 hEc hpc' hnn hl1
          go_loopw [11, 13, 16, 17, 18] (fun ov sv pv _ _ wr => ∃ (p n C : Nat) (A : Option Addr) (xs : List Td) (s : List UInt8), p + n = E ∧ p + C ≤ cap ∧ n ≤ C ∧ pv = .slice A n C ∧ sv = .int .i64 (s.length : Nat) ∧ (0 < n → A = some ⟨g, o + p, none⟩) ∧ Hid (rn m [] (l.take p) = (xs, s)) ∧ Hid (Ow celT 51 4 wr ov xs) ∧ Hid (∀ k, ov.ownBlock = some k → w.heap.size ≤ k) ∧ Hid (Ln wr (fun k => w.heap.size ≤ k ∧ k < wr.heap.size) w.heap.size m s) ∧ Hid (Below w.heap.size w wr)) (fun _ _ pv _ _ _ => lenOf pv)
          case atStart => exact ⟨p, E - p, cap - p, some ⟨g, o + p, none⟩, xs, s, by have := HEP.out; omega, by omega, by have := HEP.out; omega, rfl, rfl, fun _ => rfl, HRN.out, HO.out, HOB.out, HX.out, HB.out⟩
          case round =>
            obtain ⟨p, n, C, A, xs, s, hpn, hpC, hnC, rfl, rfl, hA, HRN, HO, HOB, HX, HB⟩ := hrel
            clear HEP hpc
            by_cases hn : 0 < n
            · obtain rfl := hA hn
              clear hA
              obtain ⟨q, hqo⟩ : ∃ q, q = o + p := ⟨_, rfl⟩
              rw [← hqo]
              have HQO : Hid (q = o + p) := hqo
              have hdl : n = ((l.drop p).take n).length := by rw [List.length_take, List.length_drop]; have := HEL.out; omega
              have hne : (l.drop p).take n ≠ [] := fun e => by rw [e] at hdl; simp at hdl; omega
              have hbt : Bts (some ⟨g, q, none⟩) ((l.drop p).take n) wr := by
                rw [hqo]
                exact (bts_drop (HBT.out.below HB.out) p (Nat.lt_of_lt_of_le HG.out HB.out.size)).take n
              have HTK := take_beside w.heap.size m s (some ⟨g, q, none⟩) ((l.drop p).take n) n C w.heap.size hdl (by rw [← hdl]; have := HEL.out; omega) wr HX.out hbt (fun ad e => by cases e; exact HG.out) u11 xs HO.out HB.out.size
              have hk1 := tk_pos m ((l.drop p).take n) s hne
              have hk2 := tk_len m ((l.drop p).take n) s
              rw [← hdl] at hk2
              have HKN : Hid ((tk m s ((l.drop p).take n)).2.1 = .no → (tk m s ((l.drop p).take n)).1 = n) := fun h => by rw [(tk_no m _ s h).1, ← hdl]
              have HKE : Hid ((tk m s ((l.drop p).take n)).2.1 ≠ .no → (tk m s ((l.drop p).take n)).2.2 = []) := tk_yes m _ s
              have HKS : Hid ((tk m s ((l.drop p).take n)).2.1 = .no → (tk m s ((l.drop p).take n)).2.2.length = s.length + (tk m s ((l.drop p).take n)).1) := fun h => by rw [(tk_no m _ s h).1, (tk_no m _ s h).2, List.length_append]
              have HRK : Hid (rn m [] (l.take (p + (tk m s ((l.drop p).take n)).1)) = (xs ++ tds (tk m s ((l.drop p).take n)).2.1 (s.length + (tk m s ((l.drop p).take n)).1), (tk m s ((l.drop p).take n)).2.2)) := rn_on m p n l HRN.out
              have hxl : xs.length ≤ 4194304 ∧ s.length ≤ 4194304 := by
                have h1 := rn_len m (l.take p) []
                rw [HRN.out, List.length_take] at h1
                have := HLL.out
                simp at h1
                omega
              have HPN : Hid (p + n = E ∧ p + C ≤ cap) := ⟨hpn, hpC⟩
              have hn63 : n ≤ 4194304 := by have := HEL.out; have := HLL.out; omega
              have hC63 : C ≤ 9223372036854775807 := by have := HCM.out; omega
              clear hdl hne hbt hqo HRN HX HO hpn hpC
              generalize (tk m s ((l.drop p).take n)).1 = k at *
              generalize (tk m s ((l.drop p).take n)).2.1 = it at *
              generalize (tk m s ((l.drop p).take n)).2.2 = s2 at *
              obtain ⟨sl, hsl⟩ : ∃ sl, sl = s.length := ⟨_, rfl⟩
              have HSL : Hid (sl = s.length) := hsl
              rw [← hsl] at hxl ⊢
              clear hsl
              have e1 : decide ((k : Int) < 1) = false := by simp; omega
              have e2 : decide (n < k) = false := by simp; omega
              by_cases hit : it = .no
              · have hkn : k = n := HKN.out hit
                have HSS : Hid (s2.length = sl + k) := by have := HKS.out hit; rw [HSL.out]; exact this
                have HR7 : Hid (rn m [] (l.take (p + k)) = (xs, s2)) := by
                  have := HRK.out
                  rw [hit, tds_no, List.append_nil] at this
                  exact this
                have hx3 : decide ((n : Int) < (n : Int)) = false := by simp
                clear HKN HKE HKS HRK
                subst hkn
                subst hit
                unfold itV at HTK
                go_wp2_with fail
                refine HTK.mono ?_
                rintro e w5 ⟨rfl, hX5, hO5, hB5⟩
                obtain ⟨W6, hW6⟩ : ∃ W6, W6 = w5.alloc (.cells #[.int .i64 0, .string ⟨#[]⟩, .slice none 0 0, .int .i64 0, .bool false] 35) := ⟨_, rfl⟩
                have hb6 : Below w5.heap.size w5 W6 := by subst hW6; exact (Below.refl _ _).alloc (Nat.le_refl _) _
                have hb5 : Below w.heap.size w w5 := HB.out.trans hB5
                have HX6 : Hid (Ln W6 (fun k => w.heap.size ≤ k ∧ k < W6.heap.size) w.heap.size m s2) := (LnC.below hX5 hb6).mono (fun k h1 h2 => ⟨h1.1, h2⟩)
                have HB6 : Hid (Below w.heap.size w W6) := hb5.trans (hb6.mono hb5.size)
                have HO6 : Hid (Ow celT 51 4 W6 u11 xs) := hO5.below hb6
                have HI6 : Hid (Lies W6 w5.heap.size #[.int .i64 0, .string ⟨#[]⟩, .slice none 0 0, .int .i64 0, .bool false] 35) := by subst hW6; exact Lies.new w5 _ _
                have HWW : Hid (w5.alloc (.cells #[.int .i64 0, .string ⟨#[]⟩, .slice none 0 0, .int .i64 0, .bool false] 35) = W6) := hW6.symm
                obtain ⟨⟨d0, d1, d2, d3, d4⟩, -⟩ := it_cells HI6.out
                clear hW6 hb6 hX5 hO5 hB5 hb5 HTK HB
                obtain ⟨ua, uc, hu, -⟩ := HO6.out.shape
                subst hu
                have hW6 := HWW.out.symm
                subst hW6
                clear HWW d0 d1 d2 d3 d4
                by_cases hCk : C = k
                · have hcn0 : C - k = 0 := by omega
                  have hcn1 : ¬ (k : Int) < (C : Int) := by omega
                  subst hCk
                  go_wp2_with fail
                  go_round
                  case rel => exact ⟨p + C, 0, 0, some ⟨g, q, none⟩, xs, s2, by have := HPN.out; omega, by have := HPN.out; omega, Nat.le_refl _, by first | rfl | (congr 1; omega), by rw [HSS.out]; go_num, fun h => absurd h (Nat.lt_irrefl 0), HR7.out, HO6.out, HOB.out, HX6.out, HB6.out⟩
                  case measure => simp [lenOf]; omega
                · have hcn1 : (k : Int) < (C : Int) := by omega
                  go_wp2_with fail
                  go_round
                  case rel => exact ⟨p + k, k - k, C - k, some ⟨g, q + k, none⟩, xs, s2, by have := HPN.out; omega, by have := HPN.out; omega, by omega, by first | rfl | (congr 1; omega), by rw [HSS.out]; go_num, fun h => by rw [HQO.out, Nat.add_assoc], HR7.out, HO6.out, HOB.out, HX6.out, HB6.out⟩
                  case measure => simp [lenOf]; omega
              · obtain ⟨k1, k2, k3⟩ := kdI_no hit
                rw [itV_is] at HTK
                go_wp2_with fail
                refine HTK.mono ?_
                rintro e w5 ⟨rfl, hX5, hO5, hB5⟩
                obtain ⟨W6, hW6⟩ : ∃ W6, W6 = w5.alloc (.cells #[.int .i64 (kdI it), .string ⟨(txI it).toArray⟩, .slice none 0 0, .int .i64 (yI it), .bool false] 35) := ⟨_, rfl⟩
                have hb6 : Below w5.heap.size w5 W6 := by subst hW6; exact (Below.refl _ _).alloc (Nat.le_refl _) _
                have hb5 : Below w.heap.size w w5 := HB.out.trans hB5
                have HX6 : Hid (Ln W6 (fun k => w.heap.size ≤ k ∧ k < W6.heap.size) w.heap.size m s2) := (LnC.below hX5 hb6).mono (fun k h1 h2 => ⟨h1.1, h2⟩)
                have HB6 : Hid (Below w.heap.size w W6) := hb5.trans (hb6.mono hb5.size)
                have HO6 : Hid (Ow celT 51 4 W6 u11 xs) := hO5.below hb6
                have HI6 : Hid (Lies W6 w5.heap.size #[.int .i64 (kdI it), .string ⟨(txI it).toArray⟩, .slice none 0 0, .int .i64 (yI it), .bool false] 35) := by subst hW6; exact Lies.new w5 _ _
                have HWW : Hid (w5.alloc (.cells #[.int .i64 (kdI it), .string ⟨(txI it).toArray⟩, .slice none 0 0, .int .i64 (yI it), .bool false] 35) = W6) := hW6.symm
                obtain ⟨⟨d0, d1, d2, d3, d4⟩, -⟩ := it_cells HI6.out
                clear hW6 hb6 hX5 hO5 hB5 hb5 HTK HB
                obtain ⟨ua, uc, hu, -⟩ := HO6.out.shape
                subst hu
                have hs2 : s2 = [] := HKE.out hit
                have HR7 : Hid (rn m [] (l.take (p + k)) = (xs ++ [⟨it, sl + k⟩], [])) := by
                  have := HRK.out
                  rw [tds_it hit, hs2, ← HSL.out] at this
                  exact this
                have HX7 : Hid (Ln W6 (fun k => w.heap.size ≤ k ∧ k < W6.heap.size) w.heap.size m []) := by rw [← hs2]; exact HX6.out
                clear hit HKN HKE HKS HRK hs2 HX6
                obtain ⟨W7, hW7⟩ : ∃ W7, W7 = W6.alloc (.cells (celT ⟨it, sl + k⟩).toArray 51) := ⟨_, rfl⟩
                have hb7 : Below W6.heap.size W6 W7 := by subst hW7; exact (Below.refl _ _).alloc (Nat.le_refl _) _
                have HO7 : Hid (Ow celT 51 4 W7 (.slice ua xs.length uc) xs) := HO6.out.below hb7
                have HB7 : Hid (Below w.heap.size w W7) := HB6.out.trans (hb7.mono HB6.out.size)
                have HX8 : Hid (Ln W7 (fun k => w.heap.size ≤ k ∧ k < W7.heap.size) w.heap.size m []) := (LnC.below HX7.out hb7).mono (fun k h1 h2 => ⟨h1.1, h2⟩)
                have HNW : Hid (∀ j u, (celT ⟨it, sl + k⟩)[j]? = some u → W7.cell? ⟨W6.heap.size, j, none⟩ = some u) := fun j u hu => by
                  subst hW7
                  exact new_cells (celT ⟨it, sl + k⟩) j u hu
                have HWV : Hid (W6.alloc (.cells #[.int .i64 (kdI it), .string ⟨(txI it).toArray⟩, .int .i64 (yI it), .int .i64 ((sl : Int) + (k : Int))] 51) = W7) := by
                  show _ = _
                  rw [hW7]
                  unfold celT
                  dsimp only
                  rw [Int.natCast_add]
                clear hW7 hb7 HX7
                by_cases hCk : C = k
                · have hcn0 : C - k = 0 := by omega
                  have hcn1 : ¬ (k : Int) < (C : Int) := by omega
                  have hnk : n = k := by omega
                  subst hCk
                  subst hnk
                  go_wp2_with (first | (rw [HWV.out]; refine wpList_append_ow celT_length (by decide) oneT rfl _ _ 47 rfl Try.underlying47 _ 40 infoTD rfl _ xs rfl HO7.out W6.heap.size 1 ⟨it, sl + n⟩ rfl HNW.out (by omega) (by omega) ?_; intro g8 cap8 w8 HO8 HC8 HG8; apply Hid.out) | rw [HWW.out])
                  unfold Hid
                  have hapn : ∀ j, (w.heap.size ≤ j ∧ j < W7.heap.size) → (∀ cs u, Lies W7 j cs u → u = 57 ∨ u = 5) → ¬ (Value.slice ua xs.length uc).ownBlock = some j := fun j _ hk e => by
                    obtain ⟨cs, hl⟩ := HO7.out.kind e
                    rcases hk cs _ hl with e | e <;> cases e
                  have HX9 : Hid (Ln w8 (fun k => w.heap.size ≤ k ∧ k < w8.heap.size) w.heap.size m []) := by
                    obtain ⟨G, hG, hG1, hG2⟩ := LnC.tight HX8.out
                    exact (hG.chg HC8 (fun j hj => hapn j (hG1 j hj).1 (hG2 j hj))).mono (fun j hj h2 => ⟨(hG1 j hj).1.1, h2⟩)
                  have HB9 : Hid (Below w.heap.size w w8) := HB7.out.trans (HC8.to_below HB7.out.size (fun j e => HOB.out j e))
                  have HV9 : Hid (w.heap.size ≤ g8) := by
                    rcases HG8 with e | e
                    · exact HOB.out _ e
                    · exact Nat.le_trans HB7.out.size e
                  have HO9 : Hid (Ow celT 51 4 w8 (.slice (some ⟨g8, 0, none⟩) (xs.length + 1) cap8) (xs ++ [⟨it, sl + n⟩])) := HO8
                  clear HO8 HC8 HG8 hapn HX8 HB7 HO7 HNW HWW HWV
                  go_wp2_with fail
                  go_round
                  case rel => exact ⟨p + n, 0, 0, some ⟨g, q, none⟩, xs ++ [Td.mk it (sl + n)], [], by have := HPN.out; omega, by have := HPN.out; omega, Nat.le_refl _, by first | rfl | (congr 1; omega), by simp, fun h => absurd h (Nat.lt_irrefl 0), HR7.out, HO9.out, (fun k e => by cases e; exact HV9.out), HX9.out, HB9.out⟩
                  case measure => simp [lenOf]; omega
                · have hcn1 : (k : Int) < (C : Int) := by omega
                  go_wp2_with (first | (rw [HWV.out]; refine wpList_append_ow celT_length (by decide) oneT rfl _ _ 47 rfl Try.underlying47 _ 40 infoTD rfl _ xs rfl HO7.out W6.heap.size 1 ⟨it, sl + k⟩ rfl HNW.out (by omega) (by omega) ?_; intro g8 cap8 w8 HO8 HC8 HG8; apply Hid.out) | rw [HWW.out])
                  unfold Hid
                  have hapn : ∀ j, (w.heap.size ≤ j ∧ j < W7.heap.size) → (∀ cs u, Lies W7 j cs u → u = 57 ∨ u = 5) → ¬ (Value.slice ua xs.length uc).ownBlock = some j := fun j _ hk e => by
                    obtain ⟨cs, hl⟩ := HO7.out.kind e
                    rcases hk cs _ hl with e | e <;> cases e
                  have HX9 : Hid (Ln w8 (fun k => w.heap.size ≤ k ∧ k < w8.heap.size) w.heap.size m []) := by
                    obtain ⟨G, hG, hG1, hG2⟩ := LnC.tight HX8.out
                    exact (hG.chg HC8 (fun j hj => hapn j (hG1 j hj).1 (hG2 j hj))).mono (fun j hj h2 => ⟨(hG1 j hj).1.1, h2⟩)
                  have HB9 : Hid (Below w.heap.size w w8) := HB7.out.trans (HC8.to_below HB7.out.size (fun j e => HOB.out j e))
                  have HV9 : Hid (w.heap.size ≤ g8) := by
                    rcases HG8 with e | e
                    · exact HOB.out _ e
                    · exact Nat.le_trans HB7.out.size e
                  have HO9 : Hid (Ow celT 51 4 w8 (.slice (some ⟨g8, 0, none⟩) (xs.length + 1) cap8) (xs ++ [⟨it, sl + k⟩])) := HO8
                  clear HO8 HC8 HG8 hapn HX8 HB7 HO7 HNW HWW HWV
                  go_wp2_with fail
                  go_round
                  case rel => exact ⟨p + k, n - k, C - k, some ⟨g, q + k, none⟩, xs ++ [Td.mk it (sl + k)], [], by have := HPN.out; omega, by have := HPN.out; omega, by omega, rfl, by simp, fun h => by rw [HQO.out, Nat.add_assoc], HR7.out, HO9.out, (fun k e => by cases e; exact HV9.out), HX9.out, HB9.out⟩
                  case measure => simp [lenOf]; omega
            · have hn' : ¬ (0 : Int) < (n : Int) := by omega
              have hpE : p = E := by omega
              subst hpE
              go_wp2_with fail
              go_round
              case rel => exact ⟨i + 1, p, xs, s, HNX.out.1, HEL.out, HNX.out.2, rfl, rfl, by go_num, HRN.out, HO.out, HOB.out, HX.out, HB.out⟩
              case measure => simp [intOf]; omega
        · have hpc' : ¬ (p : Int) < (cap : Int) := by omega
          obtain rfl : p = cap := by omega
          obtain rfl : p = E := by omega
          clear hE
          go_wp2_with fail
          refine wp_loop_rounds 1 ?_
          rw [rounds_succ]
          go_wp2_with fail
          go_round
          case rel => exact ⟨i + 1, p, xs, s, HNX.out.1, HEL.out, HNX.out.2, rfl, rfl, by go_num, HRN.out, HO.out, HOB.out, HX.out, HB.out⟩
          case measure => simp [intOf]; omega
      · have hl1 : (i : Int) < (zs.length : Int) := by omega
        have hlz : i < zs.length := by omega
        have hzi : Ints ca zs wr := by
          rcases HZ.out.1 with e | ⟨cg, co, e, hcg, hcc⟩
          · exact .inl e
          · exact .inr ⟨cg, co, e, Nat.lt_of_lt_of_le hcg HB.out.size, fun j hj => (HB.out.cell (p := ⟨cg, co + j, none⟩) hcg).trans (hcc j hj)⟩
        obtain ⟨cg, co, rfl, hcg, hcc⟩ := hzi.resolve_left (fun e => by rw [e] at hlz; cases hlz)
        have hcz := hcc i hlz
        have hzm1 : zs[i].tmod 9 < 9 := Int.tmod_lt_of_pos _ (by decide)
        have HNX0 : Hid (i + 1 ≤ zs.length + 1 ∧ ¬ i + 1 = zs.length + 1) := ⟨by omega, by omega⟩
        clear hzi hcc hlast
        generalize zs[i] = z at *
        obtain ⟨n0, hn0⟩ : ∃ n0, p + n0 = l.length := ⟨l.length - p, by omega⟩
        have hq : (l.length : Int) - (p : Int) = (n0 : Int) := by omega
        obtain ⟨M, hM⟩ : ∃ M : Nat, (M : Int) = max 0 (z.tmod 9) := ⟨(max 0 (z.tmod 9)).toNat, by omega⟩
        have hM1 : (if (0 : Int) < z.tmod 9 then z.tmod 9 else 0) = (M : Int) := by split <;> omega
        have hM2 : max (0 : Int) (z.tmod 9) = (M : Int) := hM.symm
        obtain ⟨nn, hnn⟩ : ∃ nn : Nat, nn = min n0 M := ⟨_, rfl⟩
        have hq1 : min (n0 : Int) (M : Int) = (nn : Int) := by omega
        have hq2 : (if (M : Int) < (n0 : Int) then (M : Int) else (n0 : Int)) = (nn : Int) := by split <;> omega
        have hq3 : (if M < n0 then (M : Int) else (n0 : Int)) = (nn : Int) := by split <;> omega
        obtain ⟨E, hE⟩ : ∃ E, p + nn = E := ⟨_, rfl⟩
        have HEL : Hid (E ≤ l.length) := by show _ ≤ _; omega
        have HNX : Hid (i + 1 ≤ zs.length + 1 ∧ (i + 1 = zs.length + 1 → E = l.length)) := ⟨HNX0.out.1, fun h => absurd h HNX0.out.2⟩
        have hE2 : (p : Int) + (nn : Int) = (E : Int) := by omega
        have hEc : E ≤ cap := by omega
        have hnl : nn ≤ n0 := by omega
        clear HNX0 hM hnn hzm1
        have HEP : Hid (p + nn = E ∧ E ≤ cap) := ⟨hE, hEc⟩
        by_cases hpc : p < cap
        · have hpc' : (p : Int) < (cap : Int) := by omega
          go_wp2_with fail
          clear hq hE hE2 hEc hpc' hn0 hl1 hcz hM1 hM2 hq1 hq2 hq3 hnl hlz
          go_loopw [11, 13, 16, 17, 18] (fun ov sv pv _ _ wr => ∃ (p n C : Nat) (A : Option Addr) (xs : List Td) (s : List UInt8), p + n = E ∧ p + C ≤ cap ∧ n ≤ C ∧ pv = .slice A n C ∧ sv = .int .i64 (s.length : Nat) ∧ (0 < n → A = some ⟨g, o + p, none⟩) ∧ Hid (rn m [] (l.take p) = (xs, s)) ∧ Hid (Ow celT 51 4 wr ov xs) ∧ Hid (∀ k, ov.ownBlock = some k → w.heap.size ≤ k) ∧ Hid (Ln wr (fun k => w.heap.size ≤ k ∧ k < wr.heap.size) w.heap.size m s) ∧ Hid (Below w.heap.size w wr)) (fun _ _ pv _ _ _ => lenOf pv)
          case atStart => exact ⟨p, E - p, cap - p, some ⟨g, o + p, none⟩, xs, s, by have := HEP.out; omega, by omega, by have := HEP.out; omega, rfl, rfl, fun _ => rfl, HRN.out, HO.out, HOB.out, HX.out, HB.out⟩
          case round =>
            obtain ⟨p, n, C, A, xs, s, hpn, hpC, hnC, rfl, rfl, hA, HRN, HO, HOB, HX, HB⟩ := hrel
            clear HEP hpc
            by_cases hn : 0 < n
            · obtain rfl := hA hn
              clear hA
              obtain ⟨q, hqo⟩ : ∃ q, q = o + p := ⟨_, rfl⟩
              rw [← hqo]
              have HQO : Hid (q = o + p) := hqo
              have hdl : n = ((l.drop p).take n).length := by rw [List.length_take, List.length_drop]; have := HEL.out; omega
              have hne : (l.drop p).take n ≠ [] := fun e => by rw [e] at hdl; simp at hdl; omega
              have hbt : Bts (some ⟨g, q, none⟩) ((l.drop p).take n) wr := by
                rw [hqo]
                exact (bts_drop (HBT.out.below HB.out) p (Nat.lt_of_lt_of_le HG.out HB.out.size)).take n
              have HTK := take_beside w.heap.size m s (some ⟨g, q, none⟩) ((l.drop p).take n) n C w.heap.size hdl (by rw [← hdl]; have := HEL.out; omega) wr HX.out hbt (fun ad e => by cases e; exact HG.out) u11 xs HO.out HB.out.size
              have hk1 := tk_pos m ((l.drop p).take n) s hne
              have hk2 := tk_len m ((l.drop p).take n) s
              rw [← hdl] at hk2
              have HKN : Hid ((tk m s ((l.drop p).take n)).2.1 = .no → (tk m s ((l.drop p).take n)).1 = n) := fun h => by rw [(tk_no m _ s h).1, ← hdl]
              have HKE : Hid ((tk m s ((l.drop p).take n)).2.1 ≠ .no → (tk m s ((l.drop p).take n)).2.2 = []) := tk_yes m _ s
              have HKS : Hid ((tk m s ((l.drop p).take n)).2.1 = .no → (tk m s ((l.drop p).take n)).2.2.length = s.length + (tk m s ((l.drop p).take n)).1) := fun h => by rw [(tk_no m _ s h).1, (tk_no m _ s h).2, List.length_append]
              have HRK : Hid (rn m [] (l.take (p + (tk m s ((l.drop p).take n)).1)) = (xs ++ tds (tk m s ((l.drop p).take n)).2.1 (s.length + (tk m s ((l.drop p).take n)).1), (tk m s ((l.drop p).take n)).2.2)) := rn_on m p n l HRN.out
              have hxl : xs.length ≤ 4194304 ∧ s.length ≤ 4194304 := by
                have h1 := rn_len m (l.take p) []
                rw [HRN.out, List.length_take] at h1
                have := HLL.out
                simp at h1
                omega
              have HPN : Hid (p + n = E ∧ p + C ≤ cap) := ⟨hpn, hpC⟩
              have hn63 : n ≤ 4194304 := by have := HEL.out; have := HLL.out; omega
              have hC63 : C ≤ 9223372036854775807 := by have := HCM.out; omega
              clear hdl hne hbt hqo HRN HX HO hpn hpC
              generalize (tk m s ((l.drop p).take n)).1 = k at *
              generalize (tk m s ((l.drop p).take n)).2.1 = it at *
              generalize (tk m s ((l.drop p).take n)).2.2 = s2 at *
              obtain ⟨sl, hsl⟩ : ∃ sl, sl = s.length := ⟨_, rfl⟩
              have HSL : Hid (sl = s.length) := hsl
              rw [← hsl] at hxl ⊢
              clear hsl
              have e1 : decide ((k : Int) < 1) = false := by simp; omega
              have e2 : decide (n < k) = false := by simp; omega
              by_cases hit : it = .no
              · have hkn : k = n := HKN.out hit
                have HSS : Hid (s2.length = sl + k) := by have := HKS.out hit; rw [HSL.out]; exact this
                have HR7 : Hid (rn m [] (l.take (p + k)) = (xs, s2)) := by
                  have := HRK.out
                  rw [hit, tds_no, List.append_nil] at this
                  exact this
                have hx3 : decide ((n : Int) < (n : Int)) = false := by simp
                clear HKN HKE HKS HRK
                subst hkn
                subst hit
                unfold itV at HTK
                go_wp2_with fail
                refine HTK.mono ?_
                rintro e w5 ⟨rfl, hX5, hO5, hB5⟩
                obtain ⟨W6, hW6⟩ : ∃ W6, W6 = w5.alloc (.cells #[.int .i64 0, .string ⟨#[]⟩, .slice none 0 0, .int .i64 0, .bool false] 35) := ⟨_, rfl⟩
                have hb6 : Below w5.heap.size w5 W6 := by subst hW6; exact (Below.refl _ _).alloc (Nat.le_refl _) _
                have hb5 : Below w.heap.size w w5 := HB.out.trans hB5
                have HX6 : Hid (Ln W6 (fun k => w.heap.size ≤ k ∧ k < W6.heap.size) w.heap.size m s2) := (LnC.below hX5 hb6).mono (fun k h1 h2 => ⟨h1.1, h2⟩)
                have HB6 : Hid (Below w.heap.size w W6) := hb5.trans (hb6.mono hb5.size)
                have HO6 : Hid (Ow celT 51 4 W6 u11 xs) := hO5.below hb6
                have HI6 : Hid (Lies W6 w5.heap.size #[.int .i64 0, .string ⟨#[]⟩, .slice none 0 0, .int .i64 0, .bool false] 35) := by subst hW6; exact Lies.new w5 _ _
                have HWW : Hid (w5.alloc (.cells #[.int .i64 0, .string ⟨#[]⟩, .slice none 0 0, .int .i64 0, .bool false] 35) = W6) := hW6.symm
                obtain ⟨⟨d0, d1, d2, d3, d4⟩, -⟩ := it_cells HI6.out
                clear hW6 hb6 hX5 hO5 hB5 hb5 HTK HB
                obtain ⟨ua, uc, hu, -⟩ := HO6.out.shape
                subst hu
                have hW6 := HWW.out.symm
                subst hW6
                clear HWW d0 d1 d2 d3 d4
                by_cases hCk : C = k
                · have hcn0 : C - k = 0 := by omega
                  have hcn1 : ¬ (k : Int) < (C : Int) := by omega
                  subst hCk
                  go_wp2_with fail
                  go_round
                  case rel => exact ⟨p + C, 0, 0, some ⟨g, q, none⟩, xs, s2, by have := HPN.out; omega, by have := HPN.out; omega, Nat.le_refl _, by first | rfl | (congr 1; omega), by rw [HSS.out]; go_num, fun h => absurd h (Nat.lt_irrefl 0), HR7.out, HO6.out, HOB.out, HX6.out, HB6.out⟩
                  case measure => simp [lenOf]; omega
                · have hcn1 : (k : Int) < (C : Int) := by omega
                  go_wp2_with fail
                  go_round
                  case rel => exact ⟨p + k, k - k, C - k, some ⟨g, q + k, none⟩, xs, s2, by have := HPN.out; omega, by have := HPN.out; omega, by omega, by first | rfl | (congr 1; omega), by rw [HSS.out]; go_num, fun h => by rw [HQO.out, Nat.add_assoc], HR7.out, HO6.out, HOB.out, HX6.out, HB6.out⟩
                  case measure => simp [lenOf]; omega
              · obtain ⟨k1, k2, k3⟩ := kdI_no hit
                rw [itV_is] at HTK
                go_wp2_with fail
                refine HTK.mono ?_
                rintro e w5 ⟨rfl, hX5, hO5, hB5⟩
                obtain ⟨W6, hW6⟩ : ∃ W6, W6 = w5.alloc (.cells #[.int .i64 (kdI it), .string ⟨(txI it).toArray⟩, .slice none 0 0, .int .i64 (yI it), .bool false] 35) := ⟨_, rfl⟩
                have hb6 : Below w5.heap.size w5 W6 := by subst hW6; exact (Below.refl _ _).alloc (Nat.le_refl _) _
                have hb5 : Below w.heap.size w w5 := HB.out.trans hB5
                have HX6 : Hid (Ln W6 (fun k => w.heap.size ≤ k ∧ k < W6.heap.size) w.heap.size m s2) := (LnC.below hX5 hb6).mono (fun k h1 h2 => ⟨h1.1, h2⟩)
                have HB6 : Hid (Below w.heap.size w W6) := hb5.trans (hb6.mono hb5.size)
                have HO6 : Hid (Ow celT 51 4 W6 u11 xs) := hO5.below hb6
                have HI6 : Hid (Lies W6 w5.heap.size #[.int .i64 (kdI it), .string ⟨(txI it).toArray⟩, .slice none 0 0, .int .i64 (yI it), .bool false] 35) := by subst hW6; exact Lies.new w5 _ _
                have HWW : Hid (w5.alloc (.cells #[.int .i64 (kdI it), .string ⟨(txI it).toArray⟩, .slice none 0 0, .int .i64 (yI it), .bool false] 35) = W6) := hW6.symm
                obtain ⟨⟨d0, d1, d2, d3, d4⟩, -⟩ := it_cells HI6.out
                clear hW6 hb6 hX5 hO5 hB5 hb5 HTK HB
                obtain ⟨ua, uc, hu, -⟩ := HO6.out.shape
                subst hu
                have hs2 : s2 = [] := HKE.out hit
                have HR7 : Hid (rn m [] (l.take (p + k)) = (xs ++ [⟨it, sl + k⟩], [])) := by
                  have := HRK.out
                  rw [tds_it hit, hs2, ← HSL.out] at this
                  exact this
                have HX7 : Hid (Ln W6 (fun k => w.heap.size ≤ k ∧ k < W6.heap.size) w.heap.size m []) := by rw [← hs2]; exact HX6.out
                clear hit HKN HKE HKS HRK hs2 HX6
                obtain ⟨W7, hW7⟩ : ∃ W7, W7 = W6.alloc (.cells (celT ⟨it, sl + k⟩).toArray 51) := ⟨_, rfl⟩
                have hb7 : Below W6.heap.size W6 W7 := by subst hW7; exact (Below.refl _ _).alloc (Nat.le_refl _) _
                have HO7 : Hid (Ow celT 51 4 W7 (.slice ua xs.length uc) xs) := HO6.out.below hb7
                have HB7 : Hid (Below w.heap.size w W7) := HB6.out.trans (hb7.mono HB6.out.size)
                have HX8 : Hid (Ln W7 (fun k => w.heap.size ≤ k ∧ k < W7.heap.size) w.heap.size m []) := (LnC.below HX7.out hb7).mono (fun k h1 h2 => ⟨h1.1, h2⟩)
                have HNW : Hid (∀ j u, (celT ⟨it, sl + k⟩)[j]? = some u → W7.cell? ⟨W6.heap.size, j, none⟩ = some u) := fun j u hu => by
                  subst hW7
                  exact new_cells (celT ⟨it, sl + k⟩) j u hu
                have HWV : Hid (W6.alloc (.cells #[.int .i64 (kdI it), .string ⟨(txI it).toArray⟩, .int .i64 (yI it), .int .i64 ((sl : Int) + (k : Int))] 51) = W7) := by
                  show _ = _
                  rw [hW7]
                  unfold celT
                  dsimp only
                  rw [Int.natCast_add]
                clear hW7 hb7 HX7
                by_cases hCk : C = k
                · have hcn0 : C - k = 0 := by omega
                  have hcn1 : ¬ (k : Int) < (C : Int) := by omega
                  have hnk : n = k := by omega
                  subst hCk
                  subst hnk
                  go_wp2_with (first | (rw [HWV.out]; refine wpList_append_ow celT_length (by decide) oneT rfl _ _ 47 rfl Try.underlying47 _ 40 infoTD rfl _ xs rfl HO7.out W6.heap.size 1 ⟨it, sl + n⟩ rfl HNW.out (by omega) (by omega) ?_; intro g8 cap8 w8 HO8 HC8 HG8; apply Hid.out) | rw [HWW.out])
                  unfold Hid
                  have hapn : ∀ j, (w.heap.size ≤ j ∧ j < W7.heap.size) → (∀ cs u, Lies W7 j cs u → u = 57 ∨ u = 5) → ¬ (Value.slice ua xs.length uc).ownBlock = some j := fun j _ hk e => by
                    obtain ⟨cs, hl⟩ := HO7.out.kind e
                    rcases hk cs _ hl with e | e <;> cases e
                  have HX9 : Hid (Ln w8 (fun k => w.heap.size ≤ k ∧ k < w8.heap.size) w.heap.size m []) := by
                    obtain ⟨G, hG, hG1, hG2⟩ := LnC.tight HX8.out
                    exact (hG.chg HC8 (fun j hj => hapn j (hG1 j hj).1 (hG2 j hj))).mono (fun j hj h2 => ⟨(hG1 j hj).1.1, h2⟩)
                  have HB9 : Hid (Below w.heap.size w w8) := HB7.out.trans (HC8.to_below HB7.out.size (fun j e => HOB.out j e))
                  have HV9 : Hid (w.heap.size ≤ g8) := by
                    rcases HG8 with e | e
                    · exact HOB.out _ e
                    · exact Nat.le_trans HB7.out.size e
                  have HO9 : Hid (Ow celT 51 4 w8 (.slice (some ⟨g8, 0, none⟩) (xs.length + 1) cap8) (xs ++ [⟨it, sl + n⟩])) := HO8
                  clear HO8 HC8 HG8 hapn HX8 HB7 HO7 HNW HWW HWV
                  go_wp2_with fail
                  go_round
                  case rel => exact ⟨p + n, 0, 0, some ⟨g, q, none⟩, xs ++ [Td.mk it (sl + n)], [], by have := HPN.out; omega, by have := HPN.out; omega, Nat.le_refl _, by first | rfl | (congr 1; omega), by simp, fun h => absurd h (Nat.lt_irrefl 0), HR7.out, HO9.out, (fun k e => by cases e; exact HV9.out), HX9.out, HB9.out⟩
                  case measure => simp [lenOf]; omega
                · have hcn1 : (k : Int) < (C : Int) := by omega
                  go_wp2_with (first | (rw [HWV.out]; refine wpList_append_ow celT_length (by decide) oneT rfl _ _ 47 rfl Try.underlying47 _ 40 infoTD rfl _ xs rfl HO7.out W6.heap.size 1 ⟨it, sl + k⟩ rfl HNW.out (by omega) (by omega) ?_; intro g8 cap8 w8 HO8 HC8 HG8; apply Hid.out) | rw [HWW.out])
                  unfold Hid
                  have hapn : ∀ j, (w.heap.size ≤ j ∧ j < W7.heap.size) → (∀ cs u, Lies W7 j cs u → u = 57 ∨ u = 5) → ¬ (Value.slice ua xs.length uc).ownBlock = some j := fun j _ hk e => by
                    obtain ⟨cs, hl⟩ := HO7.out.kind e
                    rcases hk cs _ hl with e | e <;> cases e
                  have HX9 : Hid (Ln w8 (fun k => w.heap.size ≤ k ∧ k < w8.heap.size) w.heap.size m []) := by
                    obtain ⟨G, hG, hG1, hG2⟩ := LnC.tight HX8.out
                    exact (hG.chg HC8 (fun j hj => hapn j (hG1 j hj).1 (hG2 j hj))).mono (fun j hj h2 => ⟨(hG1 j hj).1.1, h2⟩)
                  have HB9 : Hid (Below w.heap.size w w8) := HB7.out.trans (HC8.to_below HB7.out.size (fun j e => HOB.out j e))
                  have HV9 : Hid (w.heap.size ≤ g8) := by
                    rcases HG8 with e | e
                    · exact HOB.out _ e
                    · exact Nat.le_trans HB7.out.size e
                  have HO9 : Hid (Ow celT 51 4 w8 (.slice (some ⟨g8, 0, none⟩) (xs.length + 1) cap8) (xs ++ [⟨it, sl + k⟩])) := HO8
                  clear HO8 HC8 HG8 hapn HX8 HB7 HO7 HNW HWW HWV
                  go_wp2_with fail
                  go_round
                  case rel => exact ⟨p + k, n - k, C - k, some ⟨g, q + k, none⟩, xs ++ [Td.mk it (sl + k)], [], by have := HPN.out; omega, by have := HPN.out; omega, by omega, rfl, by simp, fun h => by rw [HQO.out, Nat.add_assoc], HR7.out, HO9.out, (fun k e => by cases e; exact HV9.out), HX9.out, HB9.out⟩
                  case measure => simp [lenOf]; omega
            · have hn' : ¬ (0 : Int) < (n : Int) := by omega
              have hpE : p = E := by omega
              subst hpE
              go_wp2_with fail
              go_round
              case rel => exact ⟨i + 1, p, xs, s, HNX.out.1, HEL.out, HNX.out.2, rfl, rfl, by go_num, HRN.out, HO.out, HOB.out, HX.out, HB.out⟩
              case measure => simp [intOf]; omega
        · have hpc' : ¬ (p : Int) < (cap : Int) := by omega
          obtain rfl : p = cap := by omega
          obtain rfl : p = E := by omega
          clear hE
          go_wp2_with fail
          refine wp_loop_rounds 1 ?_
          rw [rounds_succ]
          go_wp2_with fail
          go_round
          case rel => exact ⟨i + 1, p, xs, s, HNX.out.1, HEL.out, HNX.out.2, rfl, rfl, by go_num, HRN.out, HO.out, HOB.out, HX.out, HB.out⟩
          case measure => simp [intOf]; omega
    · have hlt' : (zs.length : Int) < (i : Int) := by omega
      have hlt'' : ¬ (i : Int) ≤ (zs.length : Int) := by omega
      have hpl : p = l.length := hip (by omega)
      have HR2 : Hid (rn m [] l = (xs, s)) := by have := HRN.out; rw [hpl, List.take_length] at this; exact this
      obtain ⟨ua, uc, hu, -⟩ := HO.out.shape
      subst hu
      clear HRN hpl hip
      go_wp2_with fail
      go_ret3
      rw [HR2.out]
      exact ⟨_, rfl, HO.out, HOB.out, HB.out⟩
end Go.Proofs.Ythjcjecimidedaa
