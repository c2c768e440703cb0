/-
  The walk of the statement on what is handed in and what is kept of it.
-/
import Derived.Test.YtlkflikhbkhpeabDoorLent
import Derived.Test.YtlkflikhbkhpeabDoorHead
import Derived.Test.YtlkflikhbkhpeabDoorRegn
import Derived.Test.YtlkflikhbkhpeabDoorMac
namespace Go.Proofs.YtlkflikhbkhpeabDoor
open Go.RowKit

/-- A condition on a world, kept from being rewritten. -/
def At (S : World → Prop) (w : World) : Prop := S w
theorem At.out {S : World → Prop} {w : World} (h : At S w) : S w := h
/-- A hash is no row of another kind. -/
theorem HashAt.kind {w : World} {g q t : Nat} {l : List UInt8} {cs : Array Value} (h : HashAt w g l) (hl : Lies w q cs t) (ht : t ≠ 46) : q ≠ g := by
  intro e
  subst e
  obtain ⟨row, _, _, h1⟩ := h.ex
  exact ht (lies_kind hl h1)
/-- Take number i first: its guard lets it. -/
theorem wpAnyH_tk {P : Program} {ops : Array Oper} {Q : Exit → Act → World → Prop} {md : Region.Mode} {S : World → Prop} {i : Nat} {oi : Oper} {d : Option Tmp} {v : Value} {fuel : Nat} {listed : Array Bool} {a : Act} {w : World} (hi : ops[i]? = some oi)
    (hs : Region.noSelect ops = true) (hf : Region.free md ops listed i = true) (hr : (Region.ready md ops listed).contains i = true)
    (hQ : ∀ c a w, Q (.panic c) (a.put d v) w → Q (.panic c) a w) (hd : oi.dst = d) (hg : Region.wanted oi (yielded ops a.tmps) = true) (hy : ∀ w', S w' → (execOp a.eval oi).run P w' = .ok (.value v) w') (hS : S w)
    (h : wpAnyH P md ops Q S fuel (listed.setIfInBounds i true) (a.put d v) w) : wpAnyH P md ops Q S (fuel + 1) listed a w := by
  subst hd
  exact wpAnyH_take hi hs hf hr hQ (.inl ⟨hg, hy⟩) hS h
/-- One alone may come up, and its guard lets it. -/
theorem wpAnyH_oneG {P : Program} {ops : Array Oper} {Q : Exit → Act → World → Prop} {md : Region.Mode} {S : World → Prop} {i : Nat} {o : Oper} {fuel : Nat} {listed : Array Bool} {a : Act} {w : World} (hr : Region.ready md ops listed = [i]) (hi : ops[i]? = some o) (hg : Region.wanted o (yielded ops a.tmps) = true)
    (h : o.wp P a w (fun a' w' => S w' ∧ wpAnyH P md ops Q S fuel (listed.setIfInBounds i true) a' w') Q) : wpAnyH P md ops Q S (fuel + 1) listed a w :=
  ⟨fun h0 => (by rw [h0] at hr; cases hr), fun j hj => by
    rw [hr, List.mem_singleton] at hj
    subst hj
    unfold wpOp
    simp only [hi, hg, if_true]
    exact .inl h⟩

/-- A statement by itself: what it leaves is what is told of it. -/
theorem region_cut {P : Program} {id : Nat} {ops : Array Oper} {d : Bool} {Q : Exit → Act → World → Prop} {a : Act} {w : World} (R : Act → Act → World → Prop)
    (h1 : (Code.region id ops d).wp P (fun e a' w' => e = .normal ∧ R a a' w') a w) (h2 : ∀ a' w', R a a' w' → Q .normal a' w') : (Code.region id ops d).wp P Q a w :=
  Code.wp_mono (fun _ a' w' h => by
    obtain ⟨rfl, hr⟩ := h
    exact h2 a' w' hr) h1
theorem wpOp_of {P : Program} {ops : Array Oper} {Q : Exit → Act → World → Prop} {K : Act → World → Prop} {i : Nat} {o : Oper} {a : Act} {w : World} (hi : ops[i]? = some o) (hg : Region.wanted o (yielded ops a.tmps) = true) (h : o.wp P a w K Q) : wpOp P ops Q i K a w := by
  unfold wpOp
  simp only [hi, hg, if_true]
  exact .inl h

/-- What stands between the calls: two rows that are lent, two copies of them, a hash. -/
structure Lv (w0 w : World) (gl cl : Nat) (L : List UInt8) (gm cm : Nat) (M : List UInt8) (gs cs : Nat) (SL : List UInt8) (gt ct : Nat) (SM : List UInt8) (gh : Nat) (T : List UInt8) : Prop where
  bel : Below w0.heap.size w0 w
  l : Rw w gl cl L
  m : Rw w gm cm M
  s : Rw w gs cs SL
  t : Rw w gt ct SM
  h : HashAt w gh T
  bl : w0.heap.size ≤ gl
  lm : gl < gm
  ms : gm < gs
  st : gs < gt
  th : gt < gh
theorem Lv.below {w0 w w' : World} {gl cl gm cm gs cs gt ct gh : Nat} {L M SL SM T : List UInt8} (h : Lv w0 w gl cl L gm cm M gs cs SL gt ct SM gh T) (hb : Below w.heap.size w w') : Lv w0 w' gl cl L gm cm M gs cs SL gt ct SM gh T :=
  ⟨h.bel.trans (hb.mono h.bel.size), h.l.below hb, h.m.below hb, h.s.below hb, h.t.below hb, h.h.below hb, h.bl, h.lm, h.ms, h.st, h.th⟩
theorem Lv.took {w0 w w' : World} {gl cl gm cm gs cs gt ct gh : Nat} {L M SL SM T U : List UInt8} (h : Lv w0 w gl cl L gm cm M gs cs SL gt ct SM gh T) (hb : But gh w w') (hh : HashAt w' gh U) : Lv w0 w' gl cl L gm cm M gs cs SL gt ct SM gh U := by
  have h1 := h.bl
  have h2 := h.lm
  have h3 := h.ms
  have h4 := h.st
  have h5 := h.th
  exact ⟨h.bel.trans (hb.below (by omega) h.bel.size), h.l.of (hb.block _ h.l.lt (by omega)), h.m.of (hb.block _ h.m.lt (by omega)), h.s.of (hb.block _ h.s.lt (by omega)), h.t.of (hb.block _ h.t.lt (by omega)), hh, h1, h2, h3, h4, h5⟩
theorem Lv.setL {w0 w : World} {gl cl gm cm gs cs gt ct gh : Nat} {L M SL SM T : List UInt8} (h : Lv w0 w gl cl L gm cm M gs cs SL gt ct SM gh T) (k : Nat) (x : UInt8) : Lv w0 (w.setCell ⟨gl, k, none⟩ (.int .u8 (x.toNat : Int))) gl cl (L.set k x) gm cm M gs cs SL gt ct SM gh T := by
  have h1 := h.bl
  have h2 := h.lm
  have h3 := h.ms
  have h4 := h.st
  have h5 := h.th
  exact ⟨h.bel.setCell h.bl _, h.l.set k x, h.m.other (by omega) _ _, h.s.other (by omega) _ _, h.t.other (by omega) _ _, h.h.of (Below.heap_setCell _ _ _ _ (by show gh ≠ gl; omega)), h1, h2, h3, h4, h5⟩
theorem Lv.setM {w0 w : World} {gl cl gm cm gs cs gt ct gh : Nat} {L M SL SM T : List UInt8} (h : Lv w0 w gl cl L gm cm M gs cs SL gt ct SM gh T) (k : Nat) (x : UInt8) : Lv w0 (w.setCell ⟨gm, k, none⟩ (.int .u8 (x.toNat : Int))) gl cl L gm cm (M.set k x) gs cs SL gt ct SM gh T := by
  have h1 := h.bl
  have h2 := h.lm
  have h3 := h.ms
  have h4 := h.st
  have h5 := h.th
  exact ⟨h.bel.setCell (by show w0.heap.size ≤ gm; omega) _, h.l.other (by omega) _ _, h.m.set k x, h.s.other (by omega) _ _, h.t.other (by omega) _ _, h.h.of (Below.heap_setCell _ _ _ _ (by show gh ≠ gm; omega)), h1, h2, h3, h4, h5⟩
/-- The first k bytes are x. -/
theorem fill_next {L : List UInt8} {k : Nat} {x : UInt8} (h : L.take k = List.replicate k x) (hk : k < L.length) : (L.set k x).take (k + 1) = List.replicate (k + 1) x := by
  rw [List.take_succ_eq_append_getElem (by rw [List.length_set]; exact hk), List.getElem_set_self, List.take_set_of_le (Nat.le_refl _), h, List.replicate_succ']
theorem fore_replicate (n m : Nat) (x : UInt8) {w : World} {g cap : Nat} (h : Rw w g cap (List.replicate (n + m) x)) : Bts (some ⟨g, 0, none⟩) (List.replicate n x) w := by
  have := h.bts n
  rwa [List.take_replicate, Nat.min_eq_left (by omega)] at this

set_option maxRecDepth 100000 in
set_option maxHeartbeats 8000000 in
theorem leaves_walk (a : Option Addr) (la : List UInt8) (ca : Nat) (b : Option Addr) (lb : List UInt8) (cb : Nat) {w : World} (hra : Bts a la w) (sla : la.length ≤ 1048576) (hna : a = none → ca = 0) (hrb : Bts b lb w) (slb : lb.length ≤ 1048576) (hnb : b = none → cb = 0) (ht : Tabs w) :
    Calls Tryd.prog 4 #[.slice a la.length ca, .slice b lb.length cb] w fun e w' => e = .returned (.bool true) ∧ Below w.heap.size w w' := by
  have HRA : Hid (Bts a la w) := hra
  have HRB : Hid (Bts b lb w) := hrb
  have HNA : Hid (a = none → ca = 0) := hna
  have HNB : Hid (b = none → cb = 0) := hnb
  have HT : Hid (Tabs w) := ht
  have hs2 : 2 ≤ w.heap.size := ht.size
  have HLENT : Hid (∀ v, Bts a la v → Calls Tryd.prog 10 #[.slice a la.length ca] v fun e w' => ∃ g c, e = .returned (.slice (some ⟨g, 0, none⟩) (la.length + 200) c) ∧ v.heap.size ≤ g ∧ Rw w' g c (la ++ marks 200) ∧ Below v.heap.size v w') := fun v hv => lent_any a la ca v hv sla
  have HLENM : Hid (∀ v, Bts b lb v → Calls Tryd.prog 10 #[.slice b lb.length cb] v fun e w' => ∃ g c, e = .returned (.slice (some ⟨g, 0, none⟩) (lb.length + 200) c) ∧ v.heap.size ≤ g ∧ Rw w' g c (lb ++ marks 200) ∧ Below v.heap.size v w') := fun v hv => lent_any b lb cb v hv slb
  obtain ⟨na, hna'⟩ : ∃ na, na = la.length := ⟨_, rfl⟩
  obtain ⟨nb, hnb'⟩ : ∃ nb, nb = lb.length := ⟨_, rfl⟩
  rw [← hna'] at sla HLENT ⊢
  rw [← hnb'] at slb HLENM ⊢
  have ELA : Hid (na = la.length) := hna'
  have ELB : Hid (nb = lb.length) := hnb'
  have EL : Hid ((la ++ marks 200).length = na + 200) := by show _ = _; rw [List.length_append, marks_length, hna']
  have EM : Hid ((lb ++ marks 200).length = nb + 200) := by show _ = _; rw [List.length_append, marks_length, hnb']
  clear hra hrb hna hnb ht hna' hnb'
  go_enter Tryd.func4, Tryd.ntmps4
  go_wp2_with fail
  refine (head_any w HT.out).mono ?_
  rintro e w1 ⟨rfl, hb1⟩
  have HB1 : Hid (Below w.heap.size w w1) := hb1
  clear hb1
  go_wp2_with fail
  refine (HLENT.out w1 (HRA.out.below HB1.out)).mono ?_
  clear HLENT
  rintro e w2 ⟨gl, cl, rfl, hgl, hrl, hb2⟩
  have HS2 : Hid (Below w.heap.size w w2 ∧ Rw w2 gl cl (la ++ marks 200) ∧ w.heap.size ≤ gl) := ⟨HB1.out.trans (hb2.mono HB1.out.size), hrl, Nat.le_trans HB1.out.size hgl⟩
  clear hgl hrl hb2 HB1
  go_wp2_with fail
  refine (HLENM.out w2 (HRB.out.below HS2.out.1)).mono ?_
  clear HLENM
  rintro e w3 ⟨gm, cm, rfl, hgm, hrm, hb3⟩
  have HS3 : Hid (Below w.heap.size w w3 ∧ Rw w3 gl cl (la ++ marks 200) ∧ w.heap.size ≤ gl ∧ Rw w3 gm cm (lb ++ marks 200) ∧ gl < gm) := ⟨HS2.out.1.trans (hb3.mono HS2.out.1.size), HS2.out.2.1.below hb3, HS2.out.2.2, hrm, Nat.lt_of_lt_of_le HS2.out.2.1.lt hgm⟩
  clear hgm hrm hb3 HS2
  have hcop := copied_any (some ⟨gl, 0, none⟩) (la ++ marks 200) cl w3 HS3.out.2.1.all (by rw [EL.out]; omega)
  rw [EL.out] at hcop
  have HCOP : Hid _ := hcop
  clear hcop
  go_wp2_with fail
  refine Calls.mono HCOP.out ?_
  clear HCOP
  rintro e w4 ⟨u4, rfl, hown4, hb4⟩
  obtain ⟨gs, cs, rfl, hgs, hrs⟩ := own_rw hown4 (by omega)
  have HS4 : Hid (Below w.heap.size w w4 ∧ Rw w4 gl cl (la ++ marks 200) ∧ w.heap.size ≤ gl ∧ Rw w4 gm cm (lb ++ marks 200) ∧ gl < gm ∧ Rw w4 gs cs (la ++ marks 200) ∧ gm < gs) := ⟨HS3.out.1.trans (hb4.mono HS3.out.1.size), HS3.out.2.1.below hb4, HS3.out.2.2.1, HS3.out.2.2.2.1.below hb4, HS3.out.2.2.2.2, hrs, Nat.lt_of_lt_of_le HS3.out.2.2.2.1.lt hgs⟩
  clear hown4 hb4 hgs hrs HS3
  have hcop := copied_any (some ⟨gm, 0, none⟩) (lb ++ marks 200) cm w4 HS4.out.2.2.2.1.all (by rw [EM.out]; omega)
  rw [EM.out] at hcop
  have HCOP : Hid _ := hcop
  clear hcop
  go_wp2_with fail
  refine Calls.mono HCOP.out ?_
  clear HCOP
  rintro e w5 ⟨u5, rfl, hown5, hb5⟩
  obtain ⟨gt, ct, rfl, hgt, hrt⟩ := own_rw hown5 (by omega)
  have HS5 : Hid (Below w.heap.size w w5 ∧ Rw w5 gl cl (la ++ marks 200) ∧ w.heap.size ≤ gl ∧ Rw w5 gm cm (lb ++ marks 200) ∧ gl < gm ∧ Rw w5 gs cs (la ++ marks 200) ∧ gm < gs ∧ Rw w5 gt ct (lb ++ marks 200) ∧ gs < gt) := ⟨HS4.out.1.trans (hb5.mono HS4.out.1.size), HS4.out.2.1.below hb5, HS4.out.2.2.1, HS4.out.2.2.2.1.below hb5, HS4.out.2.2.2.2.1, HS4.out.2.2.2.2.2.1.below hb5, HS4.out.2.2.2.2.2.2, hrt, Nat.lt_of_lt_of_le HS4.out.2.2.2.2.2.1.lt hgt⟩
  clear hown5 hb5 hgt hrt HS4
  go_wp2_with fail
  refine (new_any w5).mono ?_
  rintro e w6 ⟨gh, rfl, hgh, hhh, hb6⟩
  have HLV : Hid (Lv w w6 gl cl (la ++ marks 200) gm cm (lb ++ marks 200) gs cs (la ++ marks 200) gt ct (lb ++ marks 200) gh ([])) := by
    obtain ⟨q1, q2, q3, q4, q5, q6, q7, q8, q9⟩ := HS5.out
    exact ⟨q1.trans (hb6.mono q1.size), q2.below hb6, q4.below hb6, q6.below hb6, q8.below hb6, hhh, q3, q5, q7, q9, Nat.lt_of_lt_of_le q8.lt hgh⟩
  clear hgh hhh hb6 HS5
  have CLc : na + 200 ≤ cl := by have := HLV.out.l.cap; rw [EL.out] at this; exact this
  have CMc : nb + 200 ≤ cm := by have := HLV.out.m.cap; rw [EM.out] at this; exact this
  have CSc : na + 200 ≤ cs := by have := HLV.out.s.cap; rw [EL.out] at this; exact this
  have CTc : nb + 200 ≤ ct := by have := HLV.out.t.cap; rw [EM.out] at this; exact this
  have hCL : na ≤ cl := by omega
  have hCM : nb ≤ cm := by omega
  have hCS : na ≤ cs := by omega
  have hCT : nb ≤ ct := by omega
  go_wp2_with fail
  have hmd := md5_any (some ⟨gl, 0, none⟩) la cl w6 HLV.out.l.fore (fun ad e => by injection e with e; subst e; exact HLV.out.l.lt) (by rw [← ELA.out]; omega) (HT.out.below HLV.out.bel) (by rw [← ELA.out]; omega)
  rw [← ELA.out] at hmd
  refine hmd.mono ?_
  clear hmd
  rintro e w7 ⟨rfl, hb7⟩
  have HLV7 : Hid (Lv w w7 gl cl (la ++ marks 200) gm cm (lb ++ marks 200) gs cs (la ++ marks 200) gt ct (lb ++ marks 200) gh ([])) := HLV.out.below hb7
  clear hb7 HLV
  go_wp2_with (refine wpList_store_row rfl 24 _ _ rfl w7.heap.size rfl _ (rowV (md5 la)) rfl 24 (Lies.new w7 _ _) (infoMd la) (by rw [rowV_size, md5_length]; rfl) (rowV_one _) rfl ?_; refine wpList_gen (fun w8 => Hid (Lies w8 w7.heap.size (rowV (md5 la)) 24) ∧ Hid (Lv w w8 gl cl (la ++ marks 200) gm cm (lb ++ marks 200) gs cs (la ++ marks 200) gt ct (lb ++ marks 200) gh ([]))) ⟨(Lies.new w7 _ _).row _, HLV7.out.below (below_row ((Below.refl _ _).alloc (Nat.le_refl _) _) (Nat.le_refl _) _)⟩ ?_; rintro w8 ⟨HD8, HLV8⟩)
  clear HLV7
  generalize w7.heap.size = g10 at HD8 ⊢
  refine region_cut (fun a0 a' w' => ∃ g, a' = (((((((((a0.put (some 33) (.slice (some ⟨gl, 0, none⟩) (na + 200) cl)).put (some 34) (.slice a na ca)).put (some 35) (.int .i64 na)).put (some 36) (.slice (some ⟨gl, 0, none⟩) na cl)).put (some 37) (.slice (some ⟨gm, 0, none⟩) (nb + 200) cm)).put (some 38) (.slice b nb cb)).put (some 39) (.int .i64 nb)).put (some 40) (.slice (some ⟨gm, 0, none⟩) nb cm)).put (some 41) (.agg (rowV (mac la lb)))).put (some 11) (.pointer (some ⟨g, 0, none⟩)) ∧ Lies w' g (rowV (mac la lb)) 24 ∧ w8.heap.size ≤ g ∧ Below w8.heap.size w8 w') ?_ ?_
  · have HMAC : Hid (∀ v, Below w8.heap.size w8 v → Calls Tryd.prog 8 #[.slice (some ⟨gl, 0, none⟩) na cl, .slice (some ⟨gm, 0, none⟩) nb cm] v fun e w' => e = .returned (.agg (rowV (mac la lb))) ∧ Below v.heap.size v w') := fun v hv => by
      have hv' := HLV8.out.below hv
      have h := mac_any (some ⟨gl, 0, none⟩) (some ⟨gm, 0, none⟩) (la) (lb) cl cm v hv'.l.fore hv'.m.fore (fun ad e => by injection e with e; subst e; exact hv'.l.lt) (fun ad e => by injection e with e; subst e; exact hv'.m.lt) (by rw [← ELA.out]; omega) (by rw [← ELB.out]; omega) (HT.out.below hv'.bel) (by rw [← ELA.out]; omega) (by rw [← ELB.out]; omega)
      rw [← ELA.out, ← ELB.out] at h
      exact h
    have hB0 : Below w8.heap.size w8 w8.drew := (Below.refl _ _).drew
    refine wp_region_late (fun _ => True) 10 (by kernel_rfl) trivial (fun hHeld => ?_)
    refine wpAnyE_take (i := 0) (d := some 33) (v := ?_) rfl (by kernel_rfl) (by kernel_rfl) (by kernel_rfl) (by kernel_rfl) (fun _ _ _ h => by cases h.1) rfl rfl ?hy (by assumption) ?_
    case hy => (intro w' hSw; (try dsimp only at hSw); go_simp <;> (try with_reducible rfl))
    simp only [Act.put, List.setIfInBounds_toArray, List.set_cons_zero, List.set_cons_succ]
    refine wpAnyE_take (i := 1) (d := some 34) (v := ?_) rfl (by kernel_rfl) (by kernel_rfl) (by kernel_rfl) (by kernel_rfl) (fun _ _ _ h => by cases h.1) rfl rfl ?hy (by assumption) ?_
    case hy => (intro w' hSw; (try dsimp only at hSw); go_simp <;> (try with_reducible rfl))
    simp only [Act.put, List.setIfInBounds_toArray, List.set_cons_zero, List.set_cons_succ]
    refine wpAnyE_take (i := 2) (d := some 35) (v := ?_) rfl (by kernel_rfl) (by kernel_rfl) (by kernel_rfl) (by kernel_rfl) (fun _ _ _ h => by cases h.1) rfl rfl ?hy (by assumption) ?_
    case hy => (intro w' hSw; (try dsimp only at hSw); go_simp <;> (try with_reducible rfl))
    simp only [Act.put, List.setIfInBounds_toArray, List.set_cons_zero, List.set_cons_succ]
    refine wpAnyE_take (i := 3) (d := some 36) (v := ?_) rfl (by kernel_rfl) (by kernel_rfl) (by kernel_rfl) (by kernel_rfl) (fun _ _ _ h => by cases h.1) rfl rfl ?hy (by assumption) ?_
    case hy => (intro w' hSw; (try dsimp only at hSw); go_simp <;> (try with_reducible rfl))
    simp only [Act.put, List.setIfInBounds_toArray, List.set_cons_zero, List.set_cons_succ]
    refine wpAnyE_take (i := 4) (d := some 37) (v := ?_) rfl (by kernel_rfl) (by kernel_rfl) (by kernel_rfl) (by kernel_rfl) (fun _ _ _ h => by cases h.1) rfl rfl ?hy (by assumption) ?_
    case hy => (intro w' hSw; (try dsimp only at hSw); go_simp <;> (try with_reducible rfl))
    simp only [Act.put, List.setIfInBounds_toArray, List.set_cons_zero, List.set_cons_succ]
    refine wpAnyE_take (i := 5) (d := some 38) (v := ?_) rfl (by kernel_rfl) (by kernel_rfl) (by kernel_rfl) (by kernel_rfl) (fun _ _ _ h => by cases h.1) rfl rfl ?hy (by assumption) ?_
    case hy => (intro w' hSw; (try dsimp only at hSw); go_simp <;> (try with_reducible rfl))
    simp only [Act.put, List.setIfInBounds_toArray, List.set_cons_zero, List.set_cons_succ]
    refine wpAnyE_take (i := 6) (d := some 39) (v := ?_) rfl (by kernel_rfl) (by kernel_rfl) (by kernel_rfl) (by kernel_rfl) (fun _ _ _ h => by cases h.1) rfl rfl ?hy (by assumption) ?_
    case hy => (intro w' hSw; (try dsimp only at hSw); go_simp <;> (try with_reducible rfl))
    simp only [Act.put, List.setIfInBounds_toArray, List.set_cons_zero, List.set_cons_succ]
    refine wpAnyE_take (i := 7) (d := some 40) (v := ?_) rfl (by kernel_rfl) (by kernel_rfl) (by kernel_rfl) (by kernel_rfl) (fun _ _ _ h => by cases h.1) rfl rfl ?hy (by assumption) ?_
    case hy => (intro w' hSw; (try dsimp only at hSw); go_simp <;> (try with_reducible rfl))
    simp only [Act.put, List.setIfInBounds_toArray, List.set_cons_zero, List.set_cons_succ]
    refine wpAnyE_all (rs := [8, 9]) (by kernel_rfl) (by simp) ?_
    intro i hi
    have hi' : i = 8 ∨ i = 9 := by simpa using hi
    clear hi
    rcases hi' with rfl | rfl
    · refine wpOp_of rfl rfl ?_
      go_simp
      refine (HMAC.out w8.drew hB0).mono ?_
      rintro e v1 ⟨rfl, hb0⟩
      have hb1 : Below w8.heap.size w8 v1 := ⟨hb0.os, hb0.tape, hb0.output, hb0.size, hb0.block⟩
      clear hb0
      try refine ⟨trivial, ?_⟩
      refine wpAnyE_one (i := 9) (by kernel_rfl) rfl rfl ?_
      go_simp
      try refine ⟨trivial, ?_⟩
      refine wpAnyE_one (i := 10) (by kernel_rfl) rfl rfl ?_
      refine wp_store_row 24 (.tmp 11) (.tmp 41) rfl v1.heap.size (rowV (mac la lb)) rfl rfl 24 _ (Lies.new v1 _ _) (infoDl _ (mac_length la lb)) (by rw [rowV_size, mac_length la lb]; rfl) (rowV_one _) ?_
      refine ⟨.inl rfl, ?_⟩
      refine wpAnyE_done (by kernel_rfl) ?_ _
      refine ⟨rfl, v1.heap.size, ?_, (Lies.new v1 _ _).row _, hb1.size, below_row (hb1.alloc hb1.size _) hb1.size _⟩
      simp only [Act.put, List.setIfInBounds_toArray]
      rfl
    · refine wpOp_of rfl rfl ?_
      go_simp
      try refine ⟨trivial, ?_⟩
      have hb1 : Below w8.heap.size w8 (w8.drew.alloc (.cells zeroD 24)) := hB0.alloc (Nat.le_refl _) _
      have hl1 : Lies (w8.drew.alloc (.cells zeroD 24)) w8.heap.size zeroD 24 := Lies.new w8.drew _ _
      refine wpAnyE_one (i := 8) (by kernel_rfl) rfl rfl ?_
      go_simp
      refine (HMAC.out _ hb1).mono ?_
      rintro e v1 ⟨rfl, hb0⟩
      have hb2 : Below w8.heap.size w8 v1 := hb1.trans (hb0.mono hb1.size)
      have hl2 : Lies v1 w8.heap.size zeroD 24 := hl1.below hb0 hl1.lt
      clear hb0 hb1 hl1
      try refine ⟨trivial, ?_⟩
      refine wpAnyE_one (i := 10) (by kernel_rfl) rfl rfl ?_
      refine wp_store_row 24 (.tmp 11) (.tmp 41) rfl w8.heap.size (rowV (mac la lb)) rfl rfl 24 _ hl2 (infoDl _ (mac_length la lb)) (by rw [rowV_size, mac_length la lb]; rfl) (rowV_one _) ?_
      refine ⟨.inl rfl, ?_⟩
      refine wpAnyE_done (by kernel_rfl) ?_ _
      refine ⟨rfl, w8.heap.size, ?_, hl2.row _, Nat.le_refl _, below_row hb2 (Nat.le_refl _) _⟩
      simp only [Act.put, List.setIfInBounds_toArray]
      rfl
  rintro a' w9 ⟨g11, rfl, hl9, hg11, hb9⟩
  have HD9 : Hid (Lies w9 g10 (rowV (md5 la)) 24) := HD8.out.below hb9 HD8.out.lt
  have HE9 : Hid (Lies w9 g11 (rowV (mac la lb)) 24) := hl9
  have HLV9 : Hid (Lv w w9 gl cl (la ++ marks 200) gm cm (lb ++ marks 200) gs cs (la ++ marks 200) gt ct (lb ++ marks 200) gh ([])) := HLV8.out.below hb9
  clear hl9 hg11 hb9 HD8 HLV8
  (try simp only [Act.put, List.setIfInBounds_toArray, List.set_cons_zero, List.set_cons_succ])
  go_wp2_with fail
  have hwr := write_any gh [] la (some ⟨gl, 0, none⟩) cl w9 HLV9.out.h HLV9.out.l.fore (fun ad e => by injection e with e; subst e; exact HLV9.out.h.off HLV9.out.l) (by rw [← ELA.out]; omega) (by have h1 := HLV9.out.bl; have h2 := HLV9.out.lm; have h3 := HLV9.out.ms; have h4 := HLV9.out.st; have h5 := HLV9.out.th; omega) (HT.out.below HLV9.out.bel) (by rw [← ELA.out]; simp; omega)
  rw [← ELA.out] at hwr
  refine hwr.mono ?_
  clear hwr
  rintro e w10 ⟨rfl, hh10, hb10⟩
  rw [List.nil_append] at hh10
  have HD10 : Hid (Lies w10 g10 (rowV (md5 la)) 24) := hb10.lies HD9.out (HLV9.out.h.kind HD9.out (by decide))
  have HE10 : Hid (Lies w10 g11 (rowV (mac la lb)) 24) := hb10.lies HE9.out (HLV9.out.h.kind HE9.out (by decide))
  have HLV10 : Hid (Lv w w10 gl cl (la ++ marks 200) gm cm (lb ++ marks 200) gs cs (la ++ marks 200) gt ct (lb ++ marks 200) gh (la)) := HLV9.out.took hb10 hh10
  clear hh10 hb10 HD9 HE9 HLV9
  go_wp2_with fail
  have hwr := write_any gh la lb (some ⟨gm, 0, none⟩) cm w10 HLV10.out.h HLV10.out.m.fore (fun ad e => by injection e with e; subst e; exact HLV10.out.h.off HLV10.out.m) (by rw [← ELB.out]; omega) (by have h1 := HLV10.out.bl; have h2 := HLV10.out.lm; have h3 := HLV10.out.ms; have h4 := HLV10.out.st; have h5 := HLV10.out.th; omega) (HT.out.below HLV10.out.bel) (by rw [← ELA.out, ← ELB.out]; omega)
  rw [← ELB.out] at hwr
  refine hwr.mono ?_
  clear hwr
  rintro e w11 ⟨rfl, hh11, hb11⟩
  have HD11 : Hid (Lies w11 g10 (rowV (md5 la)) 24) := hb11.lies HD10.out (HLV10.out.h.kind HD10.out (by decide))
  have HE11 : Hid (Lies w11 g11 (rowV (mac la lb)) 24) := hb11.lies HE10.out (HLV10.out.h.kind HE10.out (by decide))
  have HLV11 : Hid (Lv w w11 gl cl (la ++ marks 200) gm cm (lb ++ marks 200) gs cs (la ++ marks 200) gt ct (lb ++ marks 200) gh (la ++ lb)) := HLV10.out.took hb11 hh11
  clear hh11 hb11 HD10 HE10 HLV10
  go_wp2_with fail
  have HSS : Hid (∀ w', Below w11.heap.size w11 w' → At (fun w' => w'.rangeAt g10 0 (rowV (md5 la)).toList ∧ w'.rangeAt g11 0 (rowV (mac la lb)).toList) w') := fun w' hb => ⟨(HD11.out.below hb HD11.out.lt).range, (HE11.out.below hb HE11.out.lt).range⟩
  clear HD11 HE11
  refine wp_region_held_drew (S := At (fun w' => w'.rangeAt g10 0 (rowV (md5 la)).toList ∧ w'.rangeAt g11 0 (rowV (mac la lb)).toList)) (by kernel_rfl) (HSS.out _ (Below.refl _ _).drew) (fun hHeld => ?_)
  refine wpAnyH_tk (i := 0) (d := some 54) (v := .agg (rowV (md5 la))) rfl (by kernel_rfl) (by kernel_rfl) (by kernel_rfl) (fun _ _ _ h => h) rfl rfl ?hy (by assumption) ?_
  case hy => exact fun w' hSw => exec_load 24 _ rfl g10 0 rfl (rowV (md5 la)) _ (At.out hSw).1 Tryd.underlying24 rfl (infoDl _ (md5_length la))
  simp only [Act.put, List.setIfInBounds_toArray, List.set_cons_zero, List.set_cons_succ]
  refine wpAnyH_tk (i := 1) (d := some 55) (v := ?_) rfl (by kernel_rfl) (by kernel_rfl) (by kernel_rfl) (fun _ _ _ h => h) rfl rfl ?hy (by assumption) ?_
  case hy => (intro w' hSw; unfold At at hSw; (try dsimp only at hSw); go_simp <;> (try with_reducible rfl))
  simp only [Act.put, List.setIfInBounds_toArray, List.set_cons_zero, List.set_cons_succ]
  refine wpAnyH_oneG (i := 2) (by kernel_rfl) rfl rfl ?_
  go_simp
  have hbd : Below w11.heap.size w11 w11.drew := (Below.refl _ _).drew
  have hmd := rmd5_any a la ca w11.drew (HRA.out.below (HLV11.out.below hbd).bel) HNA.out (by rw [← ELA.out]; omega)
  rw [← ELA.out] at hmd
  refine hmd.mono ?_
  clear hmd
  rintro e v1 ⟨rfl, hb0⟩
  have hb1 : Below w11.heap.size w11 v1 := hbd.trans (hb0.mono hbd.size)
  clear hb0 hbd hHeld
  have hH1 := HSS.out _ hb1
  refine ⟨hH1, ?_⟩
  have hneq := neq_row (md5 la) (md5_length la)
  refine wpAnyH_oneG (i := 3) (by kernel_rfl) rfl rfl ?_
  go_simp
  refine wpAnyH_oneG (i := 4) (by kernel_rfl) rfl rfl ?_
  go_simp
  clear hneq
  refine wpAnyH_tk (i := 5) (d := some 59) (v := .agg (rowV (mac la lb))) rfl (by kernel_rfl) (by kernel_rfl) (by kernel_rfl) (fun _ _ _ h => h) rfl rfl ?hy (by assumption) ?_
  case hy => exact fun w' hSw => exec_load 24 _ rfl g11 0 rfl (rowV (mac la lb)) _ (At.out hSw).2 Tryd.underlying24 rfl (infoDl _ (mac_length la lb))
  simp only [Act.put, List.setIfInBounds_toArray, List.set_cons_zero, List.set_cons_succ]
  refine wpAnyH_tk (i := 6) (d := some 60) (v := ?_) rfl (by kernel_rfl) (by kernel_rfl) (by kernel_rfl) (fun _ _ _ h => h) rfl rfl ?hy (by assumption) ?_
  case hy => (intro w' hSw; unfold At at hSw; (try dsimp only at hSw); go_simp <;> (try with_reducible rfl))
  simp only [Act.put, List.setIfInBounds_toArray, List.set_cons_zero, List.set_cons_succ]
  refine wpAnyH_tk (i := 7) (d := some 61) (v := ?_) rfl (by kernel_rfl) (by kernel_rfl) (by kernel_rfl) (fun _ _ _ h => h) rfl rfl ?hy (by assumption) ?_
  case hy => (intro w' hSw; unfold At at hSw; (try dsimp only at hSw); go_simp <;> (try with_reducible rfl))
  simp only [Act.put, List.setIfInBounds_toArray, List.set_cons_zero, List.set_cons_succ]
  refine wpAnyH_oneG (i := 8) (by kernel_rfl) rfl rfl ?_
  go_simp
  have hmc := rmac_any a b la lb ca cb v1 (HRA.out.below (HLV11.out.below hb1).bel) (HRB.out.below (HLV11.out.below hb1).bel) HNA.out HNB.out (by rw [← ELA.out]; omega) (by rw [← ELB.out]; omega)
  rw [← ELA.out, ← ELB.out] at hmc
  refine hmc.mono ?_
  clear hmc
  rintro e v2 ⟨rfl, hb0⟩
  have hb2 : Below w11.heap.size w11 v2 := hb1.trans (hb0.mono hb1.size)
  clear hb0 hH1 hb1
  have hH2 := HSS.out _ hb2
  refine ⟨hH2, ?_⟩
  have hneq := neq_row (mac la lb) (mac_length la lb)
  refine wpAnyH_oneG (i := 9) (by kernel_rfl) rfl rfl ?_
  go_simp
  refine wpAnyH_oneG (i := 10) (by kernel_rfl) rfl rfl ?_
  go_simp
  refine wpAnyH_oneG (i := 11) (by kernel_rfl) rfl rfl ?_
  go_simp
  clear hneq
  refine wpAnyH_tk (i := 12) (d := some 66) (v := ?_) rfl (by kernel_rfl) (by kernel_rfl) (by kernel_rfl) (fun _ _ _ h => h) rfl rfl ?hy (by assumption) ?_
  case hy => (intro w' hSw; unfold At at hSw; (try dsimp only at hSw); go_simp <;> (try with_reducible rfl))
  simp only [Act.put, List.setIfInBounds_toArray, List.set_cons_zero, List.set_cons_succ]
  refine wpAnyH_tk (i := 13) (d := some 67) (v := ?_) rfl (by kernel_rfl) (by kernel_rfl) (by kernel_rfl) (fun _ _ _ h => h) rfl rfl ?hy (by assumption) ?_
  case hy => (intro w' hSw; unfold At at hSw; (try dsimp only at hSw); go_simp <;> (try with_reducible rfl))
  simp only [Act.put, List.setIfInBounds_toArray, List.set_cons_zero, List.set_cons_succ]
  refine wpAnyH_oneG (i := 14) (by kernel_rfl) rfl rfl ?_
  go_simp
  have hsm := same_any (some ⟨gl, 0, none⟩) (some ⟨gs, 0, none⟩) (la ++ marks 200) cl cs v2 (HLV11.out.below hb2).l.all (HLV11.out.below hb2).s.all
  rw [EL.out] at hsm
  refine hsm.mono ?_
  clear hsm
  rintro e v3 ⟨rfl, hw⟩
  rw [hw]
  clear hw
  refine ⟨hH2, ?_⟩
  refine wpAnyH_oneG (i := 15) (by kernel_rfl) rfl rfl ?_
  go_simp
  refine wpAnyH_oneG (i := 16) (by kernel_rfl) rfl rfl ?_
  go_simp
  refine wpAnyH_oneG (i := 17) (by kernel_rfl) rfl rfl ?_
  go_simp
  refine wpAnyH_tk (i := 18) (d := some 72) (v := ?_) rfl (by kernel_rfl) (by kernel_rfl) (by kernel_rfl) (fun _ _ _ h => h) rfl rfl ?hy (by assumption) ?_
  case hy => (intro w' hSw; unfold At at hSw; (try dsimp only at hSw); go_simp <;> (try with_reducible rfl))
  simp only [Act.put, List.setIfInBounds_toArray, List.set_cons_zero, List.set_cons_succ]
  refine wpAnyH_tk (i := 19) (d := some 73) (v := ?_) rfl (by kernel_rfl) (by kernel_rfl) (by kernel_rfl) (fun _ _ _ h => h) rfl rfl ?hy (by assumption) ?_
  case hy => (intro w' hSw; unfold At at hSw; (try dsimp only at hSw); go_simp <;> (try with_reducible rfl))
  simp only [Act.put, List.setIfInBounds_toArray, List.set_cons_zero, List.set_cons_succ]
  refine wpAnyH_oneG (i := 20) (by kernel_rfl) rfl rfl ?_
  go_simp
  have hsm := same_any (some ⟨gm, 0, none⟩) (some ⟨gt, 0, none⟩) (lb ++ marks 200) cm ct v2 (HLV11.out.below hb2).m.all (HLV11.out.below hb2).t.all
  rw [EM.out] at hsm
  refine hsm.mono ?_
  clear hsm
  rintro e v3 ⟨rfl, hw⟩
  rw [hw]
  clear hw
  refine ⟨hH2, ?_⟩
  refine wpAnyH_oneG (i := 21) (by kernel_rfl) rfl rfl ?_
  go_simp
  refine wpAnyH_oneG (i := 22) (by kernel_rfl) rfl rfl ?_
  go_simp
  refine wpAnyH_done (by kernel_rfl) ?_ _
  have HLW : Hid (Lv w v2 gl cl (la ++ marks 200) gm cm (lb ++ marks 200) gs cs (la ++ marks 200) gt ct (lb ++ marks 200) gh (la ++ lb)) := HLV11.out.below hb2
  clear hb2 hH2 HSS HLV11
  go_wp2_with fail
  go_loopw [79] (fun i wr => ∃ (k : Nat) (L : List UInt8), k ≤ na + 200 ∧ i = .int .i64 k ∧ Hid (L.length = na + 200 ∧ L.take k = List.replicate k 7) ∧ Hid (Lv w wr gl cl (L) gm cm (lb ++ marks 200) gs cs (la ++ marks 200) gt ct (lb ++ marks 200) gh (la ++ lb))) (fun i _ => na + 200 - (intOf i).toNat)
  case atStart => exact ⟨0, la ++ marks 200, by omega, rfl, ⟨EL.out, rfl⟩, HLW⟩
  case round =>
    obtain ⟨k, L, hk, rfl, HF, HV⟩ := hrel
    clear HLW
    by_cases hlt : k < na + 200
    · have hI : (k : Int) < (na : Int) + 200 := by omega
      have hkl : k < L.length := by rw [HF.out.1]; exact hlt
      have hc1 := HV.out.l.cell k hkl
      have hfr := HV.out.l.frozen k
      have HV' : Hid (Lv w (wr.setCell ⟨gl, k, none⟩ (.int .u8 7)) gl cl (L.set k 7) gm cm (lb ++ marks 200) gs cs (la ++ marks 200) gt ct (lb ++ marks 200) gh (la ++ lb)) := HV.out.setL k 7
      have HF' : Hid ((L.set k 7).length = na + 200 ∧ (L.set k 7).take (k + 1) = List.replicate (k + 1) 7) := ⟨by rw [List.length_set]; exact HF.out.1, fill_next HF.out.2 hkl⟩
      clear HV HF
      go_wp2
      clear hc1 hfr
      go_roundw
      case rel => exact ⟨k + 1, L.set k 7, by omega, by go_num, HF', HV'⟩
      case measure => simp [intOf]; omega
    · have HVL : Hid (Lv w wr gl cl (List.replicate (na + 200) 7) gm cm (lb ++ marks 200) gs cs (la ++ marks 200) gt ct (lb ++ marks 200) gh (la ++ lb)) := by
        have e : L = List.replicate (na + 200) 7 := by
          have h1 := HF.out.2
          have h2 := HF.out.1
          rw [List.take_of_length_le (by omega)] at h1
          rw [h1, show k = na + 200 by omega]
        rw [← e]
        exact HV.out
      have hI : ¬ (k : Int) < (na : Int) + 200 := by omega
      clear HV HF
      go_wp2_with fail
      go_loopw [88] (fun i wq => ∃ (j : Nat) (M : List UInt8), j ≤ nb + 200 ∧ i = .int .i64 j ∧ Hid (M.length = nb + 200 ∧ M.take j = List.replicate j 9) ∧ Hid (Lv w wq gl cl (List.replicate (na + 200) 7) gm cm (M) gs cs (la ++ marks 200) gt ct (lb ++ marks 200) gh (la ++ lb))) (fun i _ => nb + 200 - (intOf i).toNat)
      case atStart => exact ⟨0, lb ++ marks 200, by omega, rfl, ⟨EM.out, rfl⟩, HVL⟩
      case round =>
        obtain ⟨j, M, hj, rfl, HF, HV⟩ := hrel
        clear HVL
        by_cases hlj : j < nb + 200
        · have hJ : (j : Int) < (nb : Int) + 200 := by omega
          have hkl : j < M.length := by rw [HF.out.1]; exact hlj
          have hc1 := HV.out.m.cell j hkl
          have hfr := HV.out.m.frozen j
          have HV' : Hid (Lv w (wr.setCell ⟨gm, j, none⟩ (.int .u8 9)) gl cl (List.replicate (na + 200) 7) gm cm (M.set j 9) gs cs (la ++ marks 200) gt ct (lb ++ marks 200) gh (la ++ lb)) := HV.out.setM j 9
          have HF' : Hid ((M.set j 9).length = nb + 200 ∧ (M.set j 9).take (j + 1) = List.replicate (j + 1) 9) := ⟨by rw [List.length_set]; exact HF.out.1, fill_next HF.out.2 hkl⟩
          clear HV HF
          go_wp2
          clear hc1 hfr
          go_roundw
          case rel => exact ⟨j + 1, M.set j 9, by omega, by go_num, HF', HV'⟩
          case measure => simp [intOf]; omega
        · have HX : Hid (Lv w wr gl cl (List.replicate (na + 200) 7) gm cm (List.replicate (nb + 200) 9) gs cs (la ++ marks 200) gt ct (lb ++ marks 200) gh (la ++ lb)) := by
            have e : M = List.replicate (nb + 200) 9 := by
              have h1 := HF.out.2
              have h2 := HF.out.1
              rw [List.take_of_length_le (by omega)] at h1
              rw [h1, show j = nb + 200 by omega]
            rw [← e]
            exact HV.out
          have hJ : ¬ (j : Int) < (nb : Int) + 200 := by omega
          clear HV HF
          go_wp2_with fail
          have hmd := md5_any (some ⟨gl, 0, none⟩) (List.replicate na 7) cl wr (fore_replicate na 200 7 HX.out.l) (fun ad e => by injection e with e; subst e; exact HX.out.l.lt) (by rw [List.length_replicate]; omega) (HT.out.below HX.out.bel) (by rw [List.length_replicate]; omega)
          rw [List.length_replicate] at hmd
          refine hmd.mono ?_
          clear hmd
          rintro e x1 ⟨rfl, hb1⟩
          have HX1 : Hid (Lv w x1 gl cl (List.replicate (na + 200) 7) gm cm (List.replicate (nb + 200) 9) gs cs (la ++ marks 200) gt ct (lb ++ marks 200) gh (la ++ lb)) := HX.out.below hb1
          clear hb1 HX
          go_wp2_with (refine wpList_store_row rfl 24 _ _ rfl x1.heap.size rfl _ (rowV (md5 (List.replicate na 7))) rfl 24 (Lies.new x1 _ _) (infoMd _) (by rw [rowV_size, md5_length]; rfl) (rowV_one _) rfl ?_; refine wpList_gen (fun x2 => Hid (Lies x2 x1.heap.size (rowV (md5 (List.replicate na 7))) 24) ∧ Hid (Lv w x2 gl cl (List.replicate (na + 200) 7) gm cm (List.replicate (nb + 200) 9) gs cs (la ++ marks 200) gt ct (lb ++ marks 200) gh (la ++ lb))) ⟨(Lies.new x1 _ _).row _, HX1.out.below (below_row ((Below.refl _ _).alloc (Nat.le_refl _) _) (Nat.le_refl _) _)⟩ ?_; rintro x2 ⟨HD2, HX2⟩)
          clear HX1
          generalize x1.heap.size = g14 at HD2 ⊢
          refine region_cut (fun a0 a' w' => ∃ g, a' = (((((((((a0.put (some 100) (.slice (some ⟨gl, 0, none⟩) (na + 200) cl)).put (some 101) (.slice a na ca)).put (some 102) (.int .i64 na)).put (some 103) (.slice (some ⟨gl, 0, none⟩) na cl)).put (some 104) (.slice (some ⟨gm, 0, none⟩) (nb + 200) cm)).put (some 105) (.slice b nb cb)).put (some 106) (.int .i64 nb)).put (some 107) (.slice (some ⟨gm, 0, none⟩) nb cm)).put (some 108) (.agg (rowV (mac (List.replicate na 7) (List.replicate nb 9))))).put (some 15) (.pointer (some ⟨g, 0, none⟩)) ∧ Lies w' g (rowV (mac (List.replicate na 7) (List.replicate nb 9))) 24 ∧ x2.heap.size ≤ g ∧ Below x2.heap.size x2 w') ?_ ?_
          · have HMAC : Hid (∀ v, Below x2.heap.size x2 v → Calls Tryd.prog 8 #[.slice (some ⟨gl, 0, none⟩) na cl, .slice (some ⟨gm, 0, none⟩) nb cm] v fun e w' => e = .returned (.agg (rowV (mac (List.replicate na 7) (List.replicate nb 9)))) ∧ Below v.heap.size v w') := fun v hv => by
              have hv' := HX2.out.below hv
              have h := mac_any (some ⟨gl, 0, none⟩) (some ⟨gm, 0, none⟩) (List.replicate na 7) (List.replicate nb 9) cl cm v (fore_replicate na 200 7 hv'.l) (fore_replicate nb 200 9 hv'.m) (fun ad e => by injection e with e; subst e; exact hv'.l.lt) (fun ad e => by injection e with e; subst e; exact hv'.m.lt) (by rw [List.length_replicate]; omega) (by rw [List.length_replicate]; omega) (HT.out.below hv'.bel) (by rw [List.length_replicate]; omega) (by rw [List.length_replicate]; omega)
              rw [List.length_replicate, List.length_replicate] at h
              exact h
            have hB0 : Below x2.heap.size x2 x2.drew := (Below.refl _ _).drew
            refine wp_region_late (fun _ => True) 10 (by kernel_rfl) trivial (fun hHeld => ?_)
            refine wpAnyE_take (i := 0) (d := some 100) (v := ?_) rfl (by kernel_rfl) (by kernel_rfl) (by kernel_rfl) (by kernel_rfl) (fun _ _ _ h => by cases h.1) rfl rfl ?hy (by assumption) ?_
            case hy => (intro w' hSw; (try dsimp only at hSw); go_simp <;> (try with_reducible rfl))
            simp only [Act.put, List.setIfInBounds_toArray, List.set_cons_zero, List.set_cons_succ]
            refine wpAnyE_take (i := 1) (d := some 101) (v := ?_) rfl (by kernel_rfl) (by kernel_rfl) (by kernel_rfl) (by kernel_rfl) (fun _ _ _ h => by cases h.1) rfl rfl ?hy (by assumption) ?_
            case hy => (intro w' hSw; (try dsimp only at hSw); go_simp <;> (try with_reducible rfl))
            simp only [Act.put, List.setIfInBounds_toArray, List.set_cons_zero, List.set_cons_succ]
            refine wpAnyE_take (i := 2) (d := some 102) (v := ?_) rfl (by kernel_rfl) (by kernel_rfl) (by kernel_rfl) (by kernel_rfl) (fun _ _ _ h => by cases h.1) rfl rfl ?hy (by assumption) ?_
            case hy => (intro w' hSw; (try dsimp only at hSw); go_simp <;> (try with_reducible rfl))
            simp only [Act.put, List.setIfInBounds_toArray, List.set_cons_zero, List.set_cons_succ]
            refine wpAnyE_take (i := 3) (d := some 103) (v := ?_) rfl (by kernel_rfl) (by kernel_rfl) (by kernel_rfl) (by kernel_rfl) (fun _ _ _ h => by cases h.1) rfl rfl ?hy (by assumption) ?_
            case hy => (intro w' hSw; (try dsimp only at hSw); go_simp <;> (try with_reducible rfl))
            simp only [Act.put, List.setIfInBounds_toArray, List.set_cons_zero, List.set_cons_succ]
            refine wpAnyE_take (i := 4) (d := some 104) (v := ?_) rfl (by kernel_rfl) (by kernel_rfl) (by kernel_rfl) (by kernel_rfl) (fun _ _ _ h => by cases h.1) rfl rfl ?hy (by assumption) ?_
            case hy => (intro w' hSw; (try dsimp only at hSw); go_simp <;> (try with_reducible rfl))
            simp only [Act.put, List.setIfInBounds_toArray, List.set_cons_zero, List.set_cons_succ]
            refine wpAnyE_take (i := 5) (d := some 105) (v := ?_) rfl (by kernel_rfl) (by kernel_rfl) (by kernel_rfl) (by kernel_rfl) (fun _ _ _ h => by cases h.1) rfl rfl ?hy (by assumption) ?_
            case hy => (intro w' hSw; (try dsimp only at hSw); go_simp <;> (try with_reducible rfl))
            simp only [Act.put, List.setIfInBounds_toArray, List.set_cons_zero, List.set_cons_succ]
            refine wpAnyE_take (i := 6) (d := some 106) (v := ?_) rfl (by kernel_rfl) (by kernel_rfl) (by kernel_rfl) (by kernel_rfl) (fun _ _ _ h => by cases h.1) rfl rfl ?hy (by assumption) ?_
            case hy => (intro w' hSw; (try dsimp only at hSw); go_simp <;> (try with_reducible rfl))
            simp only [Act.put, List.setIfInBounds_toArray, List.set_cons_zero, List.set_cons_succ]
            refine wpAnyE_take (i := 7) (d := some 107) (v := ?_) rfl (by kernel_rfl) (by kernel_rfl) (by kernel_rfl) (by kernel_rfl) (fun _ _ _ h => by cases h.1) rfl rfl ?hy (by assumption) ?_
            case hy => (intro w' hSw; (try dsimp only at hSw); go_simp <;> (try with_reducible rfl))
            simp only [Act.put, List.setIfInBounds_toArray, List.set_cons_zero, List.set_cons_succ]
            refine wpAnyE_all (rs := [8, 9]) (by kernel_rfl) (by simp) ?_
            intro i hi
            have hi' : i = 8 ∨ i = 9 := by simpa using hi
            clear hi
            rcases hi' with rfl | rfl
            · refine wpOp_of rfl rfl ?_
              go_simp
              refine (HMAC.out x2.drew hB0).mono ?_
              rintro e v1 ⟨rfl, hb0⟩
              have hb1 : Below x2.heap.size x2 v1 := ⟨hb0.os, hb0.tape, hb0.output, hb0.size, hb0.block⟩
              clear hb0
              try refine ⟨trivial, ?_⟩
              refine wpAnyE_one (i := 9) (by kernel_rfl) rfl rfl ?_
              go_simp
              try refine ⟨trivial, ?_⟩
              refine wpAnyE_one (i := 10) (by kernel_rfl) rfl rfl ?_
              refine wp_store_row 24 (.tmp 15) (.tmp 108) rfl v1.heap.size (rowV (mac (List.replicate na 7) (List.replicate nb 9))) rfl rfl 24 _ (Lies.new v1 _ _) (infoDl _ (mac_length _ _)) (by rw [rowV_size, mac_length _ _]; rfl) (rowV_one _) ?_
              refine ⟨.inl rfl, ?_⟩
              refine wpAnyE_done (by kernel_rfl) ?_ _
              refine ⟨rfl, v1.heap.size, ?_, (Lies.new v1 _ _).row _, hb1.size, below_row (hb1.alloc hb1.size _) hb1.size _⟩
              simp only [Act.put, List.setIfInBounds_toArray]
              rfl
            · refine wpOp_of rfl rfl ?_
              go_simp
              try refine ⟨trivial, ?_⟩
              have hb1 : Below x2.heap.size x2 (x2.drew.alloc (.cells zeroD 24)) := hB0.alloc (Nat.le_refl _) _
              have hl1 : Lies (x2.drew.alloc (.cells zeroD 24)) x2.heap.size zeroD 24 := Lies.new x2.drew _ _
              refine wpAnyE_one (i := 8) (by kernel_rfl) rfl rfl ?_
              go_simp
              refine (HMAC.out _ hb1).mono ?_
              rintro e v1 ⟨rfl, hb0⟩
              have hb2 : Below x2.heap.size x2 v1 := hb1.trans (hb0.mono hb1.size)
              have hl2 : Lies v1 x2.heap.size zeroD 24 := hl1.below hb0 hl1.lt
              clear hb0 hb1 hl1
              try refine ⟨trivial, ?_⟩
              refine wpAnyE_one (i := 10) (by kernel_rfl) rfl rfl ?_
              refine wp_store_row 24 (.tmp 15) (.tmp 108) rfl x2.heap.size (rowV (mac (List.replicate na 7) (List.replicate nb 9))) rfl rfl 24 _ hl2 (infoDl _ (mac_length _ _)) (by rw [rowV_size, mac_length _ _]; rfl) (rowV_one _) ?_
              refine ⟨.inl rfl, ?_⟩
              refine wpAnyE_done (by kernel_rfl) ?_ _
              refine ⟨rfl, x2.heap.size, ?_, hl2.row _, Nat.le_refl _, below_row hb2 (Nat.le_refl _) _⟩
              simp only [Act.put, List.setIfInBounds_toArray]
              rfl
          rintro a' x3 ⟨g15, rfl, hl3, hg15, hb3⟩
          have HD3 : Hid (Lies x3 g14 (rowV (md5 (List.replicate na 7))) 24) := HD2.out.below hb3 HD2.out.lt
          have HE3 : Hid (Lies x3 g15 (rowV (mac (List.replicate na 7) (List.replicate nb 9))) 24) := hl3
          have HX3 : Hid (Lv w x3 gl cl (List.replicate (na + 200) 7) gm cm (List.replicate (nb + 200) 9) gs cs (la ++ marks 200) gt ct (lb ++ marks 200) gh (la ++ lb)) := HX2.out.below hb3
          clear hl3 hg15 hb3 HD2 HX2
          (try simp only [Act.put, List.setIfInBounds_toArray, List.set_cons_zero, List.set_cons_succ])
          go_wp2_with fail
          refine wp_region_late (fun _ => True) 10 (by kernel_rfl) trivial (fun hHeld => ?_)
          refine wpAnyE_take (i := 0) (d := some 109) (v := ?_) rfl (by kernel_rfl) (by kernel_rfl) (by kernel_rfl) (by kernel_rfl) (fun _ _ _ h => h) rfl rfl ?hy (by assumption) ?_
          case hy => (intro w' hSw; (try dsimp only at hSw); go_simp <;> (try with_reducible rfl))
          simp only [Act.put, List.setIfInBounds_toArray, List.set_cons_zero, List.set_cons_succ]
          refine wpAnyE_take (i := 1) (d := some 110) (v := ?_) rfl (by kernel_rfl) (by kernel_rfl) (by kernel_rfl) (by kernel_rfl) (fun _ _ _ h => h) rfl rfl ?hy (by assumption) ?_
          case hy => (intro w' hSw; (try dsimp only at hSw); go_simp <;> (try with_reducible rfl))
          simp only [Act.put, List.setIfInBounds_toArray, List.set_cons_zero, List.set_cons_succ]
          refine wpAnyE_take (i := 2) (d := some 111) (v := ?_) rfl (by kernel_rfl) (by kernel_rfl) (by kernel_rfl) (by kernel_rfl) (fun _ _ _ h => h) rfl rfl ?hy (by assumption) ?_
          case hy => (intro w' hSw; (try dsimp only at hSw); go_simp <;> (try with_reducible rfl))
          simp only [Act.put, List.setIfInBounds_toArray, List.set_cons_zero, List.set_cons_succ]
          refine wpAnyE_take (i := 3) (d := some 112) (v := ?_) rfl (by kernel_rfl) (by kernel_rfl) (by kernel_rfl) (by kernel_rfl) (fun _ _ _ h => h) rfl rfl ?hy (by assumption) ?_
          case hy => (intro w' hSw; (try dsimp only at hSw); go_simp <;> (try with_reducible rfl))
          simp only [Act.put, List.setIfInBounds_toArray, List.set_cons_zero, List.set_cons_succ]
          refine wpAnyE_take (i := 5) (d := some 114) (v := ?_) rfl (by kernel_rfl) (by kernel_rfl) (by kernel_rfl) (by kernel_rfl) (fun _ _ _ h => h) rfl rfl ?hy (by assumption) ?_
          case hy => (intro w' hSw; (try dsimp only at hSw); go_simp <;> (try with_reducible rfl))
          simp only [Act.put, List.setIfInBounds_toArray, List.set_cons_zero, List.set_cons_succ]
          refine wpAnyE_take (i := 6) (d := some 115) (v := ?_) rfl (by kernel_rfl) (by kernel_rfl) (by kernel_rfl) (by kernel_rfl) (fun _ _ _ h => h) rfl rfl ?hy (by assumption) ?_
          case hy => (intro w' hSw; (try dsimp only at hSw); go_simp <;> (try with_reducible rfl))
          simp only [Act.put, List.setIfInBounds_toArray, List.set_cons_zero, List.set_cons_succ]
          refine wpAnyE_take (i := 7) (d := some 116) (v := ?_) rfl (by kernel_rfl) (by kernel_rfl) (by kernel_rfl) (by kernel_rfl) (fun _ _ _ h => h) rfl rfl ?hy (by assumption) ?_
          case hy => (intro w' hSw; (try dsimp only at hSw); go_simp <;> (try with_reducible rfl))
          simp only [Act.put, List.setIfInBounds_toArray, List.set_cons_zero, List.set_cons_succ]
          refine wpAnyE_take (i := 8) (d := some 117) (v := ?_) rfl (by kernel_rfl) (by kernel_rfl) (by kernel_rfl) (by kernel_rfl) (fun _ _ _ h => h) rfl rfl ?hy (by assumption) ?_
          case hy => (intro w' hSw; (try dsimp only at hSw); go_simp <;> (try with_reducible rfl))
          simp only [Act.put, List.setIfInBounds_toArray, List.set_cons_zero, List.set_cons_succ]
          refine wpAnyE_one (i := 4) (by kernel_rfl) rfl rfl ?_
          go_simp
          have hbd : Below x3.heap.size x3 x3.drew := (Below.refl _ _).drew
          have hcop := copied_any (some ⟨gs, 0, none⟩) la cs x3.drew (HX3.out.below hbd).s.fore (by rw [← ELA.out]; omega)
          rw [← ELA.out] at hcop
          refine hcop.mono ?_
          clear hcop
          rintro e x4 ⟨u4, rfl, hown4, hb0⟩
          have hb4 : Below x3.heap.size x3 x4 := hbd.trans (hb0.mono hbd.size)
          have hz4 : x3.drew.heap.size ≤ x4.heap.size := hb0.size
          clear hb0
          try refine ⟨trivial, ?_⟩
          refine wpAnyE_one (i := 9) (by kernel_rfl) rfl rfl ?_
          refine wp_append_bts _ _ rfl x3.drew.heap.size u4 na la rfl hown4 ⟨gt, 0, none⟩ lb nb ct rfl ELB.out.symm (HX3.out.below hb4).t.fore (by omega) hz4 _ rfl ?_
          intro u5 x5 hown5 hbel5
          have hb5 : Below x3.heap.size x3 x5 := hbel5 _ _ hb4 (Nat.le_refl _)
          obtain ⟨a16, c16, rfl, hbt5, hlen5, hn5, hc5, hlt5⟩ := own_bts hown5
          have HW : Hid (Bts a16 (la ++ lb) x5 ∧ (a16 = none → c16 = 0) ∧ (la ++ lb).length = na + nb) := ⟨hbt5, hn5, hlen5⟩
          have HX5 : Hid (Lv w x5 gl cl (List.replicate (na + 200) 7) gm cm (List.replicate (nb + 200) 9) gs cs (la ++ marks 200) gt ct (lb ++ marks 200) gh (la ++ lb)) := HX3.out.below hb5
          have HD5 : Hid (Lies x5 g14 (rowV (md5 (List.replicate na 7))) 24) := HD3.out.below hb5 HD3.out.lt
          have HE5 : Hid (Lies x5 g15 (rowV (mac (List.replicate na 7) (List.replicate nb 9))) 24) := HE3.out.below hb5 HE3.out.lt
          clear hown4 hown5 hbel5 hb4 hb5 hz4 hbd hbt5 hlen5 hn5 hc5 hlt5 HX3 HD3 HE3
          refine ⟨.inr trivial, ?_⟩
          refine wpAnyE_one (i := 10) (by kernel_rfl) rfl rfl ?_
          go_simp
          refine wpAnyE_done (by kernel_rfl) ?_ _
          clear hHeld
          go_wp2_with fail
          obtain ⟨D7, hD7⟩ : ∃ D7, D7 = md5 (List.replicate na 7) := ⟨_, rfl⟩
          obtain ⟨E7, hE7⟩ : ∃ E7, E7 = mac (List.replicate na 7) (List.replicate nb 9) := ⟨_, rfl⟩
          have D7L : D7.length = 16 := by rw [hD7]; exact md5_length _
          have E7L : E7.length = 16 := by rw [hE7]; exact mac_length _ _
          have HD7 : Hid (D7 = md5 (List.replicate na 7)) := hD7
          have HE7 : Hid (E7 = mac (List.replicate na 7) (List.replicate nb 9)) := hE7
          rw [← hD7] at HD5
          rw [← hE7] at HE5
          clear hD7 hE7
          have HSS : Hid (∀ w', Below x5.heap.size x5 w' → At (fun w' => w'.rangeAt g14 0 (rowV D7).toList ∧ w'.rangeAt g15 0 (rowV E7).toList) w') := fun w' hb => ⟨(HD5.out.below hb HD5.out.lt).range, (HE5.out.below hb HE5.out.lt).range⟩
          clear HD5 HE5
          refine wp_region_held_drew (S := At (fun w' => w'.rangeAt g14 0 (rowV D7).toList ∧ w'.rangeAt g15 0 (rowV E7).toList)) (by kernel_rfl) (HSS.out _ (Below.refl _ _).drew) (fun hHeld => ?_)
          refine wpAnyH_tk (i := 0) (d := some 119) (v := ?_) rfl (by kernel_rfl) (by kernel_rfl) (by kernel_rfl) (fun _ _ _ h => h) rfl rfl ?hy (by assumption) ?_
          case hy => (intro w' hSw; unfold At at hSw; (try dsimp only at hSw); go_simp <;> (try with_reducible rfl))
          simp only [Act.put, List.setIfInBounds_toArray, List.set_cons_zero, List.set_cons_succ]
          refine wpAnyH_tk (i := 2) (d := some 121) (v := ?_) rfl (by kernel_rfl) (by kernel_rfl) (by kernel_rfl) (fun _ _ _ h => h) rfl rfl ?hy (by assumption) ?_
          case hy => (intro w' hSw; unfold At at hSw; (try dsimp only at hSw); go_simp <;> (try with_reducible rfl))
          simp only [Act.put, List.setIfInBounds_toArray, List.set_cons_zero, List.set_cons_succ]
          refine wpAnyH_oneG (i := 1) (by kernel_rfl) rfl rfl ?_
          go_simp
          have hbd : Below x5.heap.size x5 x5.drew := (Below.refl _ _).drew
          refine (sum_any gh (la ++ lb) x5.drew (HX5.out.below hbd).h (HT.out.below (HX5.out.below hbd).bel) (by rw [HW.out.2.2]; omega)).mono ?_
          rintro e y1 ⟨rfl, hb0⟩
          have hb1 : Below x5.heap.size x5 y1 := hbd.trans (hb0.mono hbd.size)
          clear hb0 hbd hHeld
          have hH1 := HSS.out _ hb1
          refine ⟨hH1, ?_⟩
          refine wpAnyH_oneG (i := 3) (by kernel_rfl) rfl rfl ?_
          go_simp
          have hmd := rmd5_any a16 (la ++ lb) c16 y1 (HW.out.1.below hb1) HW.out.2.1 (by rw [HW.out.2.2]; omega)
          rw [HW.out.2.2] at hmd
          refine hmd.mono ?_
          clear hmd
          rintro e y2 ⟨rfl, hb0⟩
          have hb2 : Below x5.heap.size x5 y2 := hb1.trans (hb0.mono hb1.size)
          clear hb0 hb1 hH1
          have hH2 := HSS.out _ hb2
          refine ⟨hH2, ?_⟩
          have heq := eql_row (md5 (la ++ lb)) (md5_length _)
          refine wpAnyH_oneG (i := 4) (by kernel_rfl) rfl rfl ?_
          go_simp
          refine wpAnyH_oneG (i := 5) (by kernel_rfl) rfl rfl ?_
          go_simp
          clear heq
          refine wpAnyH_tk (i := 6) (d := some 125) (v := .agg (rowV D7)) rfl (by kernel_rfl) (by kernel_rfl) (by kernel_rfl) (fun _ _ _ h => h) rfl rfl ?hy (by assumption) ?_
          case hy => exact fun w' hSw => exec_load 24 _ rfl g14 0 rfl (rowV D7) _ (At.out hSw).1 Tryd.underlying24 rfl (infoDl _ D7L)
          simp only [Act.put, List.setIfInBounds_toArray, List.set_cons_zero, List.set_cons_succ]
          refine wpAnyH_tk (i := 7) (d := some 126) (v := ?_) rfl (by kernel_rfl) (by kernel_rfl) (by kernel_rfl) (fun _ _ _ h => h) rfl rfl ?hy (by assumption) ?_
          case hy => (intro w' hSw; unfold At at hSw; (try dsimp only at hSw); go_simp <;> (try with_reducible rfl))
          simp only [Act.put, List.setIfInBounds_toArray, List.set_cons_zero, List.set_cons_succ]
          refine wpAnyH_tk (i := 8) (d := some 127) (v := ?_) rfl (by kernel_rfl) (by kernel_rfl) (by kernel_rfl) (fun _ _ _ h => h) rfl rfl ?hy (by assumption) ?_
          case hy => (intro w' hSw; unfold At at hSw; (try dsimp only at hSw); go_simp <;> (try with_reducible rfl))
          simp only [Act.put, List.setIfInBounds_toArray, List.set_cons_zero, List.set_cons_succ]
          refine wpAnyH_tk (i := 9) (d := some 128) (v := ?_) rfl (by kernel_rfl) (by kernel_rfl) (by kernel_rfl) (fun _ _ _ h => h) rfl rfl ?hy (by assumption) ?_
          case hy => (intro w' hSw; unfold At at hSw; (try dsimp only at hSw); go_simp <;> (try with_reducible rfl))
          simp only [Act.put, List.setIfInBounds_toArray, List.set_cons_zero, List.set_cons_succ]
          refine wpAnyH_tk (i := 10) (d := some 129) (v := ?_) rfl (by kernel_rfl) (by kernel_rfl) (by kernel_rfl) (fun _ _ _ h => h) rfl rfl ?hy (by assumption) ?_
          case hy => (intro w' hSw; unfold At at hSw; (try dsimp only at hSw); go_simp <;> (try with_reducible rfl))
          simp only [Act.put, List.setIfInBounds_toArray, List.set_cons_zero, List.set_cons_succ]
          refine wpAnyH_oneG (i := 11) (by kernel_rfl) rfl rfl ?_
          go_simp
          have hcop := copied_any (some ⟨gl, 0, none⟩) (List.replicate na 7) cl y2 (fore_replicate na 200 7 (HX5.out.below hb2).l) (by rw [List.length_replicate]; omega)
          rw [List.length_replicate] at hcop
          refine hcop.mono ?_
          clear hcop
          rintro e y3 ⟨u3, rfl, hown3, hb0⟩
          obtain ⟨b3, d3, rfl, hbt3, -, hn3, -, -⟩ := own_bts hown3
          have hb3 : Below x5.heap.size x5 y3 := hb2.trans (hb0.mono hb2.size)
          have HT3 : Hid (Bts b3 (List.replicate na 7) y3 ∧ (b3 = none → d3 = 0)) := ⟨hbt3, hn3⟩
          clear hb0 hb2 hH2 hown3 hbt3 hn3
          have hH3 := HSS.out _ hb3
          refine ⟨hH3, ?_⟩
          refine wpAnyH_oneG (i := 12) (by kernel_rfl) rfl rfl ?_
          go_simp
          have hmd := rmd5_any b3 (List.replicate na 7) d3 y3 HT3.out.1 HT3.out.2 (by rw [List.length_replicate]; omega)
          rw [List.length_replicate, ← HD7.out] at hmd
          refine hmd.mono ?_
          clear hmd
          rintro e y4 ⟨rfl, hb0⟩
          have hb4 : Below x5.heap.size x5 y4 := hb3.trans (hb0.mono hb3.size)
          clear hb0 hb3 hH3 HT3
          have hH4 := HSS.out _ hb4
          refine ⟨hH4, ?_⟩
          have heq := eql_row D7 D7L
          refine wpAnyH_oneG (i := 13) (by kernel_rfl) rfl rfl ?_
          go_simp
          refine wpAnyH_oneG (i := 14) (by kernel_rfl) rfl rfl ?_
          go_simp
          refine wpAnyH_oneG (i := 15) (by kernel_rfl) rfl rfl ?_
          go_simp
          clear heq
          refine wpAnyH_tk (i := 16) (d := some 135) (v := .agg (rowV E7)) rfl (by kernel_rfl) (by kernel_rfl) (by kernel_rfl) (fun _ _ _ h => h) rfl rfl ?hy (by assumption) ?_
          case hy => exact fun w' hSw => exec_load 24 _ rfl g15 0 rfl (rowV E7) _ (At.out hSw).2 Tryd.underlying24 rfl (infoDl _ E7L)
          simp only [Act.put, List.setIfInBounds_toArray, List.set_cons_zero, List.set_cons_succ]
          refine wpAnyH_tk (i := 17) (d := some 136) (v := ?_) rfl (by kernel_rfl) (by kernel_rfl) (by kernel_rfl) (fun _ _ _ h => h) rfl rfl ?hy (by assumption) ?_
          case hy => (intro w' hSw; unfold At at hSw; (try dsimp only at hSw); go_simp <;> (try with_reducible rfl))
          simp only [Act.put, List.setIfInBounds_toArray, List.set_cons_zero, List.set_cons_succ]
          refine wpAnyH_tk (i := 18) (d := some 137) (v := ?_) rfl (by kernel_rfl) (by kernel_rfl) (by kernel_rfl) (fun _ _ _ h => h) rfl rfl ?hy (by assumption) ?_
          case hy => (intro w' hSw; unfold At at hSw; (try dsimp only at hSw); go_simp <;> (try with_reducible rfl))
          simp only [Act.put, List.setIfInBounds_toArray, List.set_cons_zero, List.set_cons_succ]
          refine wpAnyH_tk (i := 19) (d := some 138) (v := ?_) rfl (by kernel_rfl) (by kernel_rfl) (by kernel_rfl) (fun _ _ _ h => h) rfl rfl ?hy (by assumption) ?_
          case hy => (intro w' hSw; unfold At at hSw; (try dsimp only at hSw); go_simp <;> (try with_reducible rfl))
          simp only [Act.put, List.setIfInBounds_toArray, List.set_cons_zero, List.set_cons_succ]
          refine wpAnyH_tk (i := 20) (d := some 139) (v := ?_) rfl (by kernel_rfl) (by kernel_rfl) (by kernel_rfl) (fun _ _ _ h => h) rfl rfl ?hy (by assumption) ?_
          case hy => (intro w' hSw; unfold At at hSw; (try dsimp only at hSw); go_simp <;> (try with_reducible rfl))
          simp only [Act.put, List.setIfInBounds_toArray, List.set_cons_zero, List.set_cons_succ]
          refine wpAnyH_tk (i := 22) (d := some 141) (v := ?_) rfl (by kernel_rfl) (by kernel_rfl) (by kernel_rfl) (fun _ _ _ h => h) rfl rfl ?hy (by assumption) ?_
          case hy => (intro w' hSw; unfold At at hSw; (try dsimp only at hSw); go_simp <;> (try with_reducible rfl))
          simp only [Act.put, List.setIfInBounds_toArray, List.set_cons_zero, List.set_cons_succ]
          refine wpAnyH_tk (i := 23) (d := some 142) (v := ?_) rfl (by kernel_rfl) (by kernel_rfl) (by kernel_rfl) (fun _ _ _ h => h) rfl rfl ?hy (by assumption) ?_
          case hy => (intro w' hSw; unfold At at hSw; (try dsimp only at hSw); go_simp <;> (try with_reducible rfl))
          simp only [Act.put, List.setIfInBounds_toArray, List.set_cons_zero, List.set_cons_succ]
          refine wpAnyH_tk (i := 24) (d := some 143) (v := ?_) rfl (by kernel_rfl) (by kernel_rfl) (by kernel_rfl) (fun _ _ _ h => h) rfl rfl ?hy (by assumption) ?_
          case hy => (intro w' hSw; unfold At at hSw; (try dsimp only at hSw); go_simp <;> (try with_reducible rfl))
          simp only [Act.put, List.setIfInBounds_toArray, List.set_cons_zero, List.set_cons_succ]
          refine wpAnyH_tk (i := 25) (d := some 144) (v := ?_) rfl (by kernel_rfl) (by kernel_rfl) (by kernel_rfl) (fun _ _ _ h => h) rfl rfl ?hy (by assumption) ?_
          case hy => (intro w' hSw; unfold At at hSw; (try dsimp only at hSw); go_simp <;> (try with_reducible rfl))
          simp only [Act.put, List.setIfInBounds_toArray, List.set_cons_zero, List.set_cons_succ]
          refine wpAnyH_oneG (i := 21) (by kernel_rfl) rfl rfl ?_
          go_simp
          have hcop := copied_any (some ⟨gl, 0, none⟩) (List.replicate na 7) cl y4 (fore_replicate na 200 7 (HX5.out.below hb4).l) (by rw [List.length_replicate]; omega)
          rw [List.length_replicate] at hcop
          refine hcop.mono ?_
          clear hcop
          rintro e y5 ⟨u5, rfl, hown5, hb0⟩
          obtain ⟨b5, d5, rfl, hbt5, -, hn5, -, -⟩ := own_bts hown5
          have hb5 : Below x5.heap.size x5 y5 := hb4.trans (hb0.mono hb4.size)
          have HT5 : Hid (Bts b5 (List.replicate na 7) y5 ∧ (b5 = none → d5 = 0)) := ⟨hbt5, hn5⟩
          clear hb0 hb4 hH4 hown5 hbt5 hn5
          have hH5 := HSS.out _ hb5
          refine ⟨hH5, ?_⟩
          refine wpAnyH_oneG (i := 26) (by kernel_rfl) rfl rfl ?_
          go_simp
          have hcop := copied_any (some ⟨gm, 0, none⟩) (List.replicate nb 9) cm y5 (fore_replicate nb 200 9 (HX5.out.below hb5).m) (by rw [List.length_replicate]; omega)
          rw [List.length_replicate] at hcop
          refine hcop.mono ?_
          clear hcop
          rintro e y6 ⟨u6, rfl, hown6, hb0⟩
          obtain ⟨b6, d6, rfl, hbt6, -, hn6, -, -⟩ := own_bts hown6
          have hb6 : Below x5.heap.size x5 y6 := hb5.trans (hb0.mono hb5.size)
          have HT6 : Hid (Bts b5 (List.replicate na 7) y6 ∧ (b5 = none → d5 = 0) ∧ Bts b6 (List.replicate nb 9) y6 ∧ (b6 = none → d6 = 0)) := ⟨HT5.out.1.below hb0, HT5.out.2, hbt6, hn6⟩
          clear hb0 hb5 hH5 hown6 hbt6 hn6 HT5
          have hH6 := HSS.out _ hb6
          refine ⟨hH6, ?_⟩
          refine wpAnyH_oneG (i := 27) (by kernel_rfl) rfl rfl ?_
          go_simp
          have hmc := rmac_any b5 b6 (List.replicate na 7) (List.replicate nb 9) d5 d6 y6 HT6.out.1 HT6.out.2.2.1 HT6.out.2.1 HT6.out.2.2.2 (by rw [List.length_replicate]; omega) (by rw [List.length_replicate]; omega)
          rw [List.length_replicate, List.length_replicate, ← HE7.out] at hmc
          refine hmc.mono ?_
          clear hmc
          rintro e y7 ⟨rfl, hb0⟩
          have hb7 : Below x5.heap.size x5 y7 := hb6.trans (hb0.mono hb6.size)
          clear hb0 hb6 hH6 HT6
          have hH7 := HSS.out _ hb7
          refine ⟨hH7, ?_⟩
          have heq := eql_row E7 E7L
          refine wpAnyH_oneG (i := 28) (by kernel_rfl) rfl rfl ?_
          go_simp
          refine wpAnyH_oneG (i := 29) (by kernel_rfl) rfl rfl ?_
          go_simp
          refine wpAnyH_oneG (i := 30) (by kernel_rfl) rfl rfl ?_
          go_simp
          refine wpAnyH_done (by kernel_rfl) ?_ _
          clear heq
          go_wp2
          go_ret
          exact ⟨rfl, (HX5.out.below hb7).bel⟩
end Go.Proofs.YtlkflikhbkhpeabDoor
