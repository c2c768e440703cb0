/-
  The contracts of octet.Span and octet.Bad of a text.
-/
import Derived.Test.YthkoionigdnhgabGreatDoorPureBad
import Derived.Test.YthkoionigdnhgabGreatDoorAdP
import Derived.Test.YthkoionigdnhgabGreatDoorPureUp
namespace Go.Proofs.YthkoionigdnhgabGreatDoor
open Go.RowKit

theorem ret_i64T {a b : Int} (h : a = b) : Ending.returned (.int .i64 a) = .returned (.int .i64 b) := by rw [h]

set_option maxRecDepth 100000 in
set_option maxHeartbeats 400000 in
theorem span_negT (c f : Int) (s : ByteArray) (w : World) (hf : f < 0) :
    Calls Tryz.prog 61 #[.int .i64 c, .string s, .int .i64 f] w fun e w' => e = .returned (.int .i64 f) ∧ w' = w := by
  go_enter Tryz.func61, Tryz.ntmps61
  go_wp2
  go_ret
  exact ⟨rfl, rfl⟩

set_option maxRecDepth 100000 in
set_option maxHeartbeats 400000 in
theorem span_behindT (c f : Int) (s : ByteArray) (w : World) (hs : s.size ≤ maxLen) (hf : (s.size : Int) ≤ f) :
    Calls Tryz.prog 61 #[.int .i64 c, .string s, .int .i64 f] w fun e w' => e = .returned (.int .i64 f) ∧ w' = w := by
  unfold maxLen at hs
  have hn : ¬ f < 0 := by omega
  have hl : ¬ f < (s.size : Int) := by omega
  go_enter Tryz.func61, Tryz.ntmps61
  go_wp2
  refine wp_loop_rounds 1 ?_
  rw [rounds_succ]
  go_wp2
  go_ret
  exact ⟨rfl, rfl⟩

set_option maxRecDepth 100000 in
set_option maxHeartbeats 400000 in
theorem span_inT (c : Int) (f : Nat) (s : ByteArray) (w : World) (ht : Table w) (hs : s.size ≤ maxLen) (hf : f ≤ s.size) :
    Calls Tryz.prog 61 #[.int .i64 c, .string s, .int .i64 f] w fun e w' => e = .returned (.int .i64 (f + badN c (s.data.toList.drop f))) ∧ w' = w := by
  unfold maxLen at hs
  have HT : Hid (Table w) := ht
  clear ht
  go_enter Tryz.func61, Tryz.ntmps61
  go_wp2
  go_loop [7] (fun i => ∃ m : Nat, m ≤ s.size ∧ i = .int .i64 m ∧ Hid (f + badN c (s.data.toList.drop f) = m + badN c (s.data.toList.drop m))) (fun i => s.size - (intOf i).toNat)
  case atStart => exact ⟨f, hf, rfl, rfl⟩
  case round =>
    obtain ⟨m, hm, rfl, HM⟩ := hrel
    by_cases hlt : m < s.size
    · by_cases hb : isB c (s[m].toNat : Int) = true
      · have HN : Hid (f + badN c (s.data.toList.drop f) = (m + 1) + badN c (s.data.toList.drop (m + 1))) := by
          have := badN_yes c s.data.toList m (by simpa using hlt) hb
          show _ = _
          rw [HM.out, this]; omega
        go_wp2_with (go_at_call 95; refine (is_any _ _ _ HT.out).mono ?_; rintro e w' ⟨rfl, rfl⟩)
        go_round
        case rel => exact ⟨m + 1, by omega, by go_num, HN⟩
        case measure => simp [intOf]; omega
      · have hb' : isB c (s[m].toNat : Int) = false := by simpa using hb
        have HN : Hid (f + badN c (s.data.toList.drop f) = m) := by
          have := badN_no c s.data.toList m (by simpa using hlt) hb'
          show _ = _
          rw [HM.out, this]; omega
        clear hb
        go_wp2_with (go_at_call 95; refine (is_any _ _ _ HT.out).mono ?_; rintro e w' ⟨rfl, rfl⟩)
        go_ret
        exact ⟨ret_i64T (by have := HN.out; omega), rfl⟩
    · have HN : Hid (f + badN c (s.data.toList.drop f) = m) := by
        have := badN_end c s.data.toList m (by simp; omega)
        show _ = _
        rw [HM.out, this]; omega
      go_wp2
      go_ret
      exact ⟨ret_i64T (by have := HN.out; omega), rfl⟩

theorem span_anyT (c f : Int) (s : ByteArray) (w : World) (ht : Table w) (hs : s.size ≤ maxLen) :
    Calls Tryz.prog 61 #[.int .i64 c, .string s, .int .i64 f] w fun e w' => e = .returned (.int .i64 (spanI c s.data.toList f)) ∧ w' = w := by
  by_cases h0 : f < 0
  · rw [spanI_neg _ _ _ h0]
    exact span_negT c f s w h0
  · by_cases h1 : (s.size : Int) ≤ f
    · rw [spanI_behind _ _ _ (by simpa using h1)]
      exact span_behindT c f s w hs h1
    · obtain ⟨n, rfl⟩ := Int.eq_ofNat_of_zero_le (show 0 ≤ f by omega)
      rw [spanI_nat]
      exact span_inT c n s w ht hs (by omega)

set_option maxRecDepth 100000 in
theorem bad_anyT (c : Int) (s : ByteArray) (w : World) (ht : Table w) (hs : s.size ≤ maxLen) :
    Calls Tryz.prog 48 #[.int .i64 c, .string s] w fun e w' => e = .returned (.int .i64 (badN c s.data.toList)) ∧ w' = w := by
  have hz := spanI_zero c s.data.toList
  go_enter Tryz.func48, Tryz.ntmps48
  go_wp2_with fail
  refine (span_anyT c 0 s _ ht hs).mono ?_
  rintro e w' ⟨rfl, rfl⟩
  go_wp2
  go_ret
  exact ⟨rfl, rfl⟩
end Go.Proofs.YthkoionigdnhgabGreatDoor
/-
  The contracts of domain's number, and of the library's HasPrefix.
-/
namespace Go.Proofs.YthkoionigdnhgabGreatDoor
open Go.RowKit

theorem drop_head (s : ByteArray) (k : Nat) (h : k < s.size) : s.data.toList.drop k = s[k] :: s.data.toList.drop (k + 1) := by
  rw [List.drop_eq_getElem_cons (by rw [len_list]; exact h)]
  rfl
theorem drop_end (s : ByteArray) (k : Nat) (h : s.size ≤ k) : s.data.toList.drop k = [] := List.drop_eq_nil_of_le (by rw [len_list]; exact h)

end Go.Proofs.YthkoionigdnhgabGreatDoor
/-
  The contract of domain.V4.
-/
namespace Go.Proofs.YthkoionigdnhgabGreatDoor
open Go.RowKit

def bytesV (l : List Nat) : Array Value := (l.map fun n => Value.int .u8 (n : Nat)).toArray
theorem info4 : (Tryz.prog.info? 128).map (·.size) = some 4 := by kernel_rfl
theorem infoSp : (Tryz.prog.info? 41).map (·.size) = some 2 := by kernel_rfl
theorem results_two {P : Program} {fn : Func} {p q : Tmp} {ty tz : TypeId} (h : fn.results = #[.cell p ty, .cell q tz]) (tmps : Array Value) (w : World) (g1 g2 : Nat) (t1 t2 : TypeId) (cs ds : Array Value) (f1 f2 : Nat × Nat) (d1 d2 : TypeDesc)
    (hp : tmps.getD p undef = .pointer (some ⟨g1, 0, none⟩)) (hq : tmps.getD q undef = .pointer (some ⟨g2, 0, none⟩)) (hg1 : w.heap[g1]? = some (.cells cs t1 f1)) (hg2 : w.heap[g2]? = some (.cells ds t2 f2))
    (hu1 : P.underlying ty = some d1) (hd1 : (match d1 with | .struct _ | .array _ _ => true | _ => false) = true) (hi1 : (P.info? ty).map (·.size) = some cs.size)
    (hu2 : P.underlying tz = some d2) (hd2 : (match d2 with | .struct _ | .array _ _ => true | _ => false) = true) (hi2 : (P.info? tz).map (·.size) = some ds.size) :
    (results fn tmps).run P w = .ok (.tuple #[.agg cs, .agg ds]) w := by
  have hp' : tmps[p]?.getD undef = .pointer (some ⟨g1, 0, none⟩) := by simpa using hp
  have hq' : tmps[q]?.getD undef = .pointer (some ⟨g2, 0, none⟩) := by simpa using hq
  simp [results, h, hp', hq', asAddr, run_loadVar_row w g1 t1 ty cs f1 d1 hg1 hu1 hd1 hi1, run_loadVar_row w g2 t2 tz ds f2 d2 hg2 hu2 hd2 hi2]
theorem Table.below {w w' : World} (h : Table w) (hg : 2 < w.heap.size) (hb : Below w.heap.size w w') : Table w' := fun c hc => by
  rw [hb.cell (p := ⟨2, c, none⟩) hg]
  exact h c hc

/-- The blocks of V4: its two results, the numbers so far, the place. -/
structure V4S (w : World) (l : List Nat) (k : Nat) (wr : World) : Prop where
  r1 : Lies wr w.heap.size #[.int .u8 0, .int .u8 0, .int .u8 0, .int .u8 0] 128
  r2 : Lies wr (w.heap.size + 1) #[.int .i64 0, .int .i64 0] 41
  a : Lies wr (w.heap.size + 2) (bytesV (l ++ List.replicate (4 - l.length) 0)) 128
  pl : Lies wr (w.heap.size + 3) #[.int .i64 (k : Nat)] 3
  below : Below w.heap.size w wr
theorem V4S.later {w wr wx : World} {l : List Nat} {k : Nat} (h : V4S w l k wr) (hb : Below wr.heap.size wr wx) : V4S w l k wx :=
  ⟨h.r1.below hb h.r1.lt, h.r2.below hb h.r2.lt, h.a.below hb h.a.lt, h.pl.below hb h.pl.lt, h.below.trans (hb.mono (Nat.le_of_lt h.r1.lt))⟩
theorem bytesV_put (l : List Nat) (n : Nat) (h : l.length < 4) : (bytesV (l ++ List.replicate (4 - l.length) 0)).setIfInBounds l.length (.int .u8 (n : Nat)) = bytesV ((l ++ [n]) ++ List.replicate (4 - (l ++ [n]).length) 0) := by
  unfold bytesV
  rw [List.setIfInBounds_toArray]
  congr 1
  match l, h with
  | [], _ => rfl
  | [_], _ => rfl
  | [_, _], _ => rfl
  | [_, _, _], _ => rfl
theorem V4S.put {w wr : World} {l : List Nat} {k : Nat} (h : V4S w l k wr) (n : Nat) (hl : l.length < 4) : V4S w (l ++ [n]) k (wr.setCell ⟨w.heap.size + 2, l.length, none⟩ (.int .u8 (n : Nat))) :=
  ⟨h.r1.set_other (a := ⟨w.heap.size + 2, l.length, none⟩) (by show w.heap.size ≠ w.heap.size + 2; omega) _, h.r2.set_other (a := ⟨w.heap.size + 2, l.length, none⟩) (by show w.heap.size + 1 ≠ w.heap.size + 2; omega) _, by have := h.a.set l.length (.int .u8 (n : Nat)); rw [bytesV_put l n hl] at this; exact this, h.pl.set_other (a := ⟨w.heap.size + 2, l.length, none⟩) (by show w.heap.size + 3 ≠ w.heap.size + 2; omega) _, h.below.setCell (p := ⟨w.heap.size + 2, l.length, none⟩) (by show w.heap.size ≤ w.heap.size + 2; omega) _⟩
/-- V4's answer, laid into its blocks. -/
theorem V4S.ret {w wr : World} {l : List Nat} {k : Nat} (h : V4S w l k wr) (cs ds : Array Value) (R : Ending → World → Prop) (tmps : Array Value) (hp : tmps.getD 2 undef = .pointer (some ⟨w.heap.size, 0, none⟩)) (hq : tmps.getD 3 undef = .pointer (some ⟨w.heap.size + 1, 0, none⟩)) (hc : cs.size = 4) (hd : ds.size = 2)
    (hR : R (.returned (.tuple #[.agg cs, .agg ds])) ((wr.setRow w.heap.size cs).setRow (w.heap.size + 1) ds)) : bodyPost Tryz.prog Tryz.f140 R .ret { tmps := tmps, defers := [] } ((wr.setRow w.heap.size cs).setRow (w.heap.size + 1) ds) :=
  bodyPost_ret (results_two (p := 2) (q := 3) (by kernel_rfl) tmps _ w.heap.size (w.heap.size + 1) 128 41 cs ds (0, 0) (0, 0) _ _ hp hq ((h.r1.row cs).row_other (by omega) ds) ((h.r2.row_other (by omega) cs).row ds) Tryz.underlying128 rfl (by rw [hc]; exact info4) Tryz.underlying41 rfl (by rw [hd]; exact infoSp)) rfl hR
end Go.Proofs.YthkoionigdnhgabGreatDoor
/-
  The contracts of domain's groups: room, whole, take, open.
-/
namespace Go.Proofs.YthkoionigdnhgabGreatDoor
open Go.RowKit

def l8 (l : List Nat) : List Nat := l ++ List.replicate (8 - l.length) 0
/-- The cells of groups. -/
def grC (g : Gs) : Array Value := ((l8 g.l).map (fun n => Value.int .u16 (n : Nat)) ++ [Value.int .i64 (g.l.length : Nat), Value.bool g.gap.isSome, Value.int .i64 (g.gap.getD 0 : Nat)]).toArray
structure Gs.Ok (g : Gs) : Prop where
  le : g.l.length ≤ 8
  gap : ∀ k, g.gap = some k → k ≤ g.l.length ∧ g.l.length ≤ 6
  lt : ∀ n ∈ g.l, n < 65536
theorem l8_length (l : List Nat) (h : l.length ≤ 8) : (l8 l).length = 8 := by simp [l8]; omega
theorem grC_n (g : Gs) (h : g.l.length ≤ 8) : (grC g)[8]? = some (.int .i64 (g.l.length : Nat)) ∧ (grC g)[9]? = some (.bool g.gap.isSome) ∧ (grC g)[10]? = some (.int .i64 (g.gap.getD 0 : Nat)) := by
  have e : ((l8 g.l).map (fun n => Value.int .u16 (n : Nat))).length = 8 := by rw [List.length_map, l8_length _ h]
  unfold grC
  refine ⟨?_, ?_, ?_⟩ <;> rw [List.getElem?_toArray, List.getElem?_append_right (by omega), e] <;> rfl
/-- Groups in a block. -/
structure GrAt (w : World) (b : Nat) (g : Gs) : Prop where
  lies : Lies w b (grC g) 224
  ok : g.Ok
theorem GrAt.cells {w : World} {b : Nat} {g : Gs} (h : GrAt w b g) : w.cell? ⟨b, 8, none⟩ = some (.int .i64 (g.l.length : Nat)) ∧ w.cell? ⟨b, 9, none⟩ = some (.bool g.gap.isSome) ∧ w.cell? ⟨b, 10, none⟩ = some (.int .i64 (g.gap.getD 0 : Nat)) := by
  obtain ⟨h1, h2, h3⟩ := grC_n g h.ok.le
  exact ⟨(h.lies.cell 8).trans h1, (h.lies.cell 9).trans h2, (h.lies.cell 10).trans h3⟩
theorem GrAt.but {w w' : World} {b c : Nat} {g : Gs} (h : GrAt w b g) (hb : But c w w') (hne : b ≠ c) : GrAt w' b g := ⟨hb.lies h.lies hne, h.ok⟩
theorem GrAt.below {w w' : World} {b : Nat} {g : Gs} (h : GrAt w b g) (hb : Below w.heap.size w w') : GrAt w' b g := ⟨h.lies.below hb h.lies.lt, h.ok⟩

theorem Gs.Ok.put {g : Gs} (h : g.Ok) (n : Nat) (hn : n < 65536) (hr : 0 < g.room) : (g.put n).Ok := by
  have hr' := hr
  unfold Gs.room at hr'
  refine ⟨?_, fun k hk => ?_, fun m hm => ?_⟩
  · simp only [Gs.put, List.length_append, List.length_singleton]
    split at hr' <;> omega
  · have hk' : g.gap = some k := hk
    obtain ⟨h1, h2⟩ := h.gap k hk'
    rw [hk', Option.isSome_some, if_pos rfl] at hr'
    simp only [Gs.put, List.length_append, List.length_singleton]
    omega
  · rcases List.mem_append.1 hm with hm | hm
    · exact h.lt m hm
    · rw [List.mem_singleton.1 hm]; exact hn
theorem Gs.Ok.open' {g : Gs} (h : g.Ok) (hr : g.l.length ≤ 6) : g.open'.Ok := ⟨h.le, fun k hk => by
  have : g.l.length = k := by injection hk
  show k ≤ g.l.length ∧ g.l.length ≤ 6
  omega, h.lt⟩

end Go.Proofs.YthkoionigdnhgabGreatDoor
/-
  The contract of domain's groups: address.
-/
namespace Go.Proofs.YthkoionigdnhgabGreatDoor
open Go.RowKit

theorem info16 : (Tryz.prog.info? 25).map (·.size) = some 16 := by kernel_rfl
theorem bytesV_size (l : List Nat) : (bytesV l).size = l.length := by simp [bytesV]
theorem bytesV_at (l : List Nat) (k : Nat) (h : k < l.length) : (bytesV l)[k]? = some (.int .u8 (l[k] : Nat)) := by
  unfold bytesV
  rw [List.getElem?_toArray, List.getElem?_map, List.getElem?_eq_getElem h]
  rfl
theorem bytesV_set (l : List Nat) (k n : Nat) : (bytesV l).setIfInBounds k (.int .u8 (n : Nat)) = bytesV (l.set k n) := by
  unfold bytesV
  rw [List.setIfInBounds_toArray, List.map_set]
/-- The bytes when i of the groups are laid. -/
def partA (g : Gs) : Nat → List Nat
  | 0 => List.replicate 16 0
  | i + 1 => ((partA g i).set (2 * (if g.gap.isSome = true ∧ g.gap.getD 0 ≤ i then i + (8 - g.l.length) else i)) (g.l.getD i 0 / 256)).set (2 * (if g.gap.isSome = true ∧ g.gap.getD 0 ≤ i then i + (8 - g.l.length) else i) + 1) (g.l.getD i 0 % 256)
/-- The blocks of address. -/
structure AdS (w : World) (b : Nat) (g : Gs) (i : Nat) (wr : World) : Prop where
  r : Lies wr w.heap.size (bytesV (List.replicate 16 0)) 25
  a : Lies wr (w.heap.size + 1) (bytesV (partA g i)) 25
  g : Lies wr b (grC g) 224
  below : Below w.heap.size w wr
theorem AdS.put {w wr : World} {b : Nat} {g : Gs} {i : Nat} (h : AdS w b g i wr) (hb : b < w.heap.size) (T x : Nat) (hT : (if g.gap.isSome = true ∧ g.gap.getD 0 ≤ i then i + (8 - g.l.length) else i) = T) (hx : g.l.getD i 0 = x) :
    AdS w b g (i + 1) ((wr.setCell ⟨w.heap.size + 1, 2 * T, none⟩ (.int .u8 ((x : Int) / 256))).setCell ⟨w.heap.size + 1, 2 * T + 1, none⟩ (.int .u8 ((x : Int) % 256))) := by
  have e : bytesV (partA g (i + 1)) = ((bytesV (partA g i)).setIfInBounds (2 * T) (.int .u8 ((x : Int) / 256))).setIfInBounds (2 * T + 1) (.int .u8 ((x : Int) % 256)) := by
    have e1 : ((x : Int) / 256) = ((x / 256 : Nat) : Int) := by omega
    have e2 : ((x : Int) % 256) = ((x % 256 : Nat) : Int) := by omega
    rw [e1, e2, bytesV_set, bytesV_set, partA, hT, hx]
  refine ⟨(h.r.set_other (a := ⟨w.heap.size + 1, 2 * T, none⟩) (by show w.heap.size ≠ w.heap.size + 1; omega) _).set_other (a := ⟨w.heap.size + 1, 2 * T + 1, none⟩) (by show w.heap.size ≠ w.heap.size + 1; omega) _, ?_, (h.g.set_other (a := ⟨w.heap.size + 1, 2 * T, none⟩) (by show b ≠ w.heap.size + 1; omega) _).set_other (a := ⟨w.heap.size + 1, 2 * T + 1, none⟩) (by show b ≠ w.heap.size + 1; omega) _, (h.below.setCell (p := ⟨w.heap.size + 1, 2 * T, none⟩) (by show w.heap.size ≤ w.heap.size + 1; omega) _).setCell (p := ⟨w.heap.size + 1, 2 * T + 1, none⟩) (by show w.heap.size ≤ w.heap.size + 1; omega) _⟩
  rw [e]
  exact (h.a.set _ _).set _ _
theorem results_row {P : Program} {fn : Func} {p : Tmp} {ty : TypeId} (h : fn.results = #[.cell p ty]) (tmps : Array Value) (w : World) (g1 : Nat) (t1 : TypeId) (cs : Array Value) (f1 : Nat × Nat) (d1 : TypeDesc)
    (hp : tmps.getD p undef = .pointer (some ⟨g1, 0, none⟩)) (hg1 : w.heap[g1]? = some (.cells cs t1 f1))
    (hu1 : P.underlying ty = some d1) (hd1 : (match d1 with | .struct _ | .array _ _ => true | _ => false) = true) (hi1 : (P.info? ty).map (·.size) = some cs.size) :
    (results fn tmps).run P w = .ok (.agg cs) w := by
  have hp' : tmps[p]?.getD undef = .pointer (some ⟨g1, 0, none⟩) := by simpa using hp
  simp [results, h, hp', asAddr, run_loadVar_row w g1 t1 ty cs f1 d1 hg1 hu1 hd1 hi1]

end Go.Proofs.YthkoionigdnhgabGreatDoor
