/-
  One call of one of three hashes answers what the document says.
-/
import Derived.Test.YtlkflikhbkhpeaaDoorSm
import Derived.Test.YtlkflikhbkhpeaaDoorNth
import Derived.Test.YtlkflikhbkhpeaaDoorRMac
namespace Go.Proofs.YtlkflikhbkhpeaaDoor
open Go.RowKit

/-- append at one operation, whatever is appended. -/
theorem wp_append_any {o : Oper} {a : Act} {w : World} {K : Act → World → Prop} {Q : Exit → Act → World → Prop} (s x : Operand)
    (ho : o.op = .call { callee := .builtin .append, args := #[s, x], argTypes := #[22, 22] }) (base : Nat) (v : Value) (n : Nat) (xs : List UInt8) (hs : a.eval s = v) (hown : w.ownsRow base 5 1 v n (cellsB xs))
    (sp : Option Addr) (l : List UInt8) (m c : Nat) (hx : a.eval x = .slice sp m c) (hm : l.length = m) (hb : Bts sp l w) (hnc : sp = none → c = 0) (hbytes : n + m ≤ 140737488355328) (hbase : base ≤ w.heap.size) (d : Option Tmp) (hd : o.dst = d)
    (h : ∀ v' w', w'.ownsRow base 5 1 v' (n + m) (cellsB (xs ++ l)) → (∀ B w0, Below B w0 w → B ≤ base → Below B w0 w') → K (a.put d v') w') : o.wp Tryd.prog a w K Q := by
  cases sp with
  | some ad => exact wp_append_bts s x ho base v n xs hs hown ad l m c hx hm hb hbytes hbase d hd h
  | none =>
    obtain ⟨i0, hi, hz0, hz1, hz2⟩ := info_parts info5
    obtain rfl := bts_none hb
    obtain rfl := hnc rfl
    subst hm hd
    have hrun := run_append_owned_none (P := Tryd.prog) (w := w) base 22 o.type 5 i0 1 Tryd.underlying22 hi v n _ hown
    unfold Oper.wp
    simp only [List.length_nil] at hx
    simp [execOp, ho, resolve, invoke, builtin, hs, hx, hrun, Result.andThen]
    exact h v w (by simpa using hown) (fun _ _ hb _ => hb)
theorem Sm.same {w0 w w' : World} {hb ab z : Nat} {g : Nat → Nat} {th tb : Nat → List UInt8} {b : Nat → Value} (h : Sm w0 w hb ab z g th tb b) (e : w'.heap = w.heap) (e1 : w'.os = w.os) (e2 : w'.tape = w.tape) (e3 : w'.output = w.output) : Sm w0 w' hb ab z g th tb b :=
  h.below ⟨e1, e2, e3, by rw [e]; exact Nat.le_refl _, fun k _ => by rw [e]⟩

/-- A condition on a world, kept from being rewritten. -/
def At (S : World → Prop) (w : World) : Prop := S w

theorem and_held {p q : Prop} (hp : p) (h : q) : p ∧ q := ⟨hp, h⟩
/-- What is asked of a call, and what is told of it. -/
def DoesSaid (w0 : World) (hb ab z : Nat) (S : Nat) (e : Ending) (w' : World) : Prop :=
  e = .returned (.bool true) ∧ ∃ g' T' b', Sm w0 w' hb ab z g' T' T' b' ∧ ∀ j, j < 3 → (T' j).length ≤ S

set_option maxHeartbeats 4000000 in
set_option maxRecDepth 100000 in
theorem does_any (w0 w : World) (hb ab z : Nat) (g : Nat → Nat) (T : Nat → List UInt8) (b : Nat → Value) (cs : Array Value) (kd to : Int) (i : Nat) (a : Option Addr) (l : List UInt8) (n c S : Nat) (hs : Sm w0 w hb ab z g T T b) (hi : i < 3)
    (h0 : cs[0]? = some (.int .i64 kd)) (h1 : cs[1]? = some (.int .i64 (i : Int))) (h2 : cs[2]? = some (.int .i64 to)) (h3 : cs[3]? = some (.slice a n c)) (hn : n = l.length) (hbt : Bts a l w0) (hnc : a = none → c = 0) (ht : Tabs w0)
    (hS : ∀ j, j < 3 → (T j).length ≤ S) (hSl : S + l.length ≤ 1073741824) :
    Calls Tryd.prog 20 #[.pointer (some ⟨hb, 0, none⟩), .pointer (some ⟨ab, 0, none⟩), .agg cs] w (DoesSaid w0 hb ab z (S + l.length)) := by
  have HBT : Hid (Bts a l w0) := hbt
  have HNC : Hid (a = none → c = 0) := hnc
  have HT : Hid (Tabs w0) := ht
  have HS : Hid (∀ j, j < 3 → (T j).length ≤ S) := hS
  have HSL : Hid (S + l.length ≤ 1073741824) := hSl
  have HN : Hid (n = l.length) := hn
  have HE : Hid (w.heap.size ≤ (w.alloc (.cells cs 46)).heap.size) := by show _ ≤ _; simp
  have HL1 : Hid (Lies (w.alloc (.cells cs 46)) w.heap.size cs 46) := Lies.new w _ _
  have HSM1 : Hid (Sm w0 (w.alloc (.cells cs 46)) hb ab z g T T b) := hs.below ((Below.refl _ _).alloc (Nat.le_refl _) _)
  have HB1 : Hid (Bts a l (w.alloc (.cells cs 46))) := hbt.below HSM1.out.bel
  have hgl : ∀ j, j < 3 → g j < w.heap.size := fun j hj => (hs.hash j hj).lt
  have HGL : Hid (∀ j, j < 3 → g j < w.heap.size) := hgl
  have hnb : n ≤ 1073741824 := by omega
  obtain ⟨a1, c1, hbi, hbt1, hlen1, hn1, hc1, hlt1⟩ := own_bts (hs.own i hi)
  have HBI : Hid (b i = .slice a1 (T i).length c1) := hbi
  have HN1 : Hid (a1 = none → c1 = 0) := hn1
  obtain ⟨gi, hgi⟩ : ∃ gi, gi = g i := ⟨_, rfl⟩
  have HGI : Hid (gi = g i) := hgi
  obtain ⟨N1, hN1⟩ : ∃ N1, N1 = (T i).length := ⟨_, rfl⟩
  have HN1L : Hid (N1 = (T i).length) := hN1
  have hN1b : N1 ≤ 1073741824 := by have := hS i hi; omega
  have hsz0 : 2 ≤ w0.heap.size := ht.size
  clear hbt hnc ht hS hSl hn hs hgl hbi hbt1 hlen1 hn1 hc1 hlt1 hgi hN1
  go_enter Tryd.func20, Tryd.ntmps20
  go_wp2_with fail
  generalize w.alloc (.cells cs 46) = w1 at HE HL1 HSM1 HB1 ⊢
  have cE : w1.cell? ⟨w.heap.size, 1, none⟩ = some (.int .i64 (i : Int)) := (HL1.out.cell 1).trans h1
  have cH : w1.cell? ⟨hb, i, none⟩ = some (.pointer (some ⟨gi, 0, none⟩)) := by rw [HGI.out]; exact (HSM1.out.here.cell i).trans (hereA_at g i hi)
  have cA : w1.cell? ⟨ab, i, none⟩ = some (.slice a1 N1 c1) := by rw [HN1L.out, ← HBI.out]; exact (HSM1.out.all.cell i).trans (allA_at b i hi)
  have iI : (i : Int) < 3 := by omega
  refine wp_region_late (fun w' => w'.cell? ⟨w.heap.size, 1, none⟩ = some (.int .i64 (i : Int)) ∧ w'.cell? ⟨hb, i, none⟩ = some (.pointer (some ⟨gi, 0, none⟩))) 6 (by kernel_rfl) ⟨cE, cH⟩ (fun hHeld => ?_)
  refine wpAnyE_take (i := 0) (d := some 10) (v := ?_) rfl (by kernel_rfl) (by kernel_rfl) (by kernel_rfl) (by kernel_rfl) (fun _ _ _ h => h) rfl rfl ?hy (by assumption) ?_
  case hy => (intro w' hSw; (try dsimp only at hSw); go_simp <;> (try with_reducible rfl))
  simp only [Act.put, List.setIfInBounds_toArray, List.set_cons_zero, List.set_cons_succ]
  refine wpAnyE_take (i := 1) (d := some 11) (v := ?_) rfl (by kernel_rfl) (by kernel_rfl) (by kernel_rfl) (by kernel_rfl) (fun _ _ _ h => h) rfl rfl ?hy (by assumption) ?_
  case hy => (intro w' hSw; (try dsimp only at hSw); go_simp <;> (try with_reducible rfl))
  simp only [Act.put, List.setIfInBounds_toArray, List.set_cons_zero, List.set_cons_succ]
  refine wpAnyE_take (i := 2) (d := some 12) (v := ?_) rfl (by kernel_rfl) (by kernel_rfl) (by kernel_rfl) (by kernel_rfl) (fun _ _ _ h => h) rfl rfl ?hy (by assumption) ?_
  case hy => (intro w' hSw; (try dsimp only at hSw); go_simp <;> (try with_reducible rfl))
  simp only [Act.put, List.setIfInBounds_toArray, List.set_cons_zero, List.set_cons_succ]
  refine wpAnyE_take (i := 3) (d := some 13) (v := ?_) rfl (by kernel_rfl) (by kernel_rfl) (by kernel_rfl) (by kernel_rfl) (fun _ _ _ h => h) rfl rfl ?hy (by assumption) ?_
  case hy => (intro w' hSw; (try dsimp only at hSw); go_simp <;> (try with_reducible rfl))
  simp only [Act.put, List.setIfInBounds_toArray, List.set_cons_zero, List.set_cons_succ]
  refine wpAnyE_take (i := 4) (d := some 14) (v := ?_) rfl (by kernel_rfl) (by kernel_rfl) (by kernel_rfl) (by kernel_rfl) (fun _ _ _ h => h) rfl rfl ?hy (by assumption) ?_
  case hy => (intro w' hSw; (try dsimp only at hSw); go_simp <;> (try with_reducible rfl))
  simp only [Act.put, List.setIfInBounds_toArray, List.set_cons_zero, List.set_cons_succ]
  refine wpAnyE_take (i := 5) (d := some 15) (v := ?_) rfl (by kernel_rfl) (by kernel_rfl) (by kernel_rfl) (by kernel_rfl) (fun _ _ _ h => h) rfl rfl ?hy (by assumption) ?_
  case hy => (intro w' hSw; (try dsimp only at hSw); go_simp <;> (try with_reducible rfl))
  simp only [Act.put, List.setIfInBounds_toArray, List.set_cons_zero, List.set_cons_succ]
  refine wpAnyE_one (i := 6) (by kernel_rfl) rfl rfl ?_
  go_simp
  refine wpAnyE_done (by kernel_rfl) ?_ _
  clear hHeld
  go_wp2_with fail
  refine wp_region_late (fun w' => w'.cell? ⟨w.heap.size, 1, none⟩ = some (.int .i64 (i : Int)) ∧ w'.cell? ⟨ab, i, none⟩ = some (.slice a1 N1 c1)) 6 (by kernel_rfl) ⟨cE, cA⟩ (fun hHeld => ?_)
  refine wpAnyE_take (i := 0) (d := some 16) (v := ?_) rfl (by kernel_rfl) (by kernel_rfl) (by kernel_rfl) (by kernel_rfl) (fun _ _ _ h => h) rfl rfl ?hy (by assumption) ?_
  case hy => (intro w' hSw; (try dsimp only at hSw); go_simp <;> (try with_reducible rfl))
  simp only [Act.put, List.setIfInBounds_toArray, List.set_cons_zero, List.set_cons_succ]
  refine wpAnyE_take (i := 1) (d := some 17) (v := ?_) rfl (by kernel_rfl) (by kernel_rfl) (by kernel_rfl) (by kernel_rfl) (fun _ _ _ h => h) rfl rfl ?hy (by assumption) ?_
  case hy => (intro w' hSw; (try dsimp only at hSw); go_simp <;> (try with_reducible rfl))
  simp only [Act.put, List.setIfInBounds_toArray, List.set_cons_zero, List.set_cons_succ]
  refine wpAnyE_take (i := 2) (d := some 18) (v := ?_) rfl (by kernel_rfl) (by kernel_rfl) (by kernel_rfl) (by kernel_rfl) (fun _ _ _ h => h) rfl rfl ?hy (by assumption) ?_
  case hy => (intro w' hSw; (try dsimp only at hSw); go_simp <;> (try with_reducible rfl))
  simp only [Act.put, List.setIfInBounds_toArray, List.set_cons_zero, List.set_cons_succ]
  refine wpAnyE_take (i := 3) (d := some 19) (v := ?_) rfl (by kernel_rfl) (by kernel_rfl) (by kernel_rfl) (by kernel_rfl) (fun _ _ _ h => h) rfl rfl ?hy (by assumption) ?_
  case hy => (intro w' hSw; (try dsimp only at hSw); go_simp <;> (try with_reducible rfl))
  simp only [Act.put, List.setIfInBounds_toArray, List.set_cons_zero, List.set_cons_succ]
  refine wpAnyE_take (i := 4) (d := some 20) (v := ?_) rfl (by kernel_rfl) (by kernel_rfl) (by kernel_rfl) (by kernel_rfl) (fun _ _ _ h => h) rfl rfl ?hy (by assumption) ?_
  case hy => (intro w' hSw; (try dsimp only at hSw); go_simp <;> (try with_reducible rfl))
  simp only [Act.put, List.setIfInBounds_toArray, List.set_cons_zero, List.set_cons_succ]
  refine wpAnyE_take (i := 5) (d := some 21) (v := ?_) rfl (by kernel_rfl) (by kernel_rfl) (by kernel_rfl) (by kernel_rfl) (fun _ _ _ h => h) rfl rfl ?hy (by assumption) ?_
  case hy => (intro w' hSw; (try dsimp only at hSw); go_simp <;> (try with_reducible rfl))
  simp only [Act.put, List.setIfInBounds_toArray, List.set_cons_zero, List.set_cons_succ]
  refine wpAnyE_one (i := 6) (by kernel_rfl) rfl rfl ?_
  go_simp
  refine wpAnyE_done (by kernel_rfl) ?_ _
  clear hHeld cE cH cA
  have HSM : Hid (Sm w0 w1.drew.drew hb ab z g T T b) := HSM1.out.same rfl rfl rfl rfl
  have HL : Hid (Lies w1.drew.drew w.heap.size cs 46) := HL1.out
  have HB : Hid (Bts a l w1.drew.drew) := HB1.out
  have HSZ : Hid (w.heap.size < w1.drew.drew.heap.size) := HL1.out.lt
  clear HSM1 HL1 HB1 HE
  generalize w1.drew.drew = v at HSM HL HB HSZ ⊢
  have HTv : Hid (Tabs v) := HT.out.below HSM.out.bel
  have c0 : v.cell? ⟨w.heap.size, 0, none⟩ = some (.int .i64 kd) := (HL.out.cell 0).trans h0
  have HOW : Hid (v.ownsRow w0.heap.size 5 1 (.slice a1 N1 c1) N1 (cellsB (T i))) := by
    have h := HSM.out.own i hi
    rw [HBI.out, ← HN1L.out] at h
    exact h
  have HTK : Hid (Bts a1 (T i) v) := by
    obtain ⟨a', c', e, hb', _⟩ := own_bts HOW.out
    injection e with e1
    rw [e1]
    exact hb'
  by_cases k0 : kd = 0
  · rw [k0] at c0
    clear k0
    have c3 : v.cell? ⟨w.heap.size, 3, none⟩ = some (.slice a n c) := (HL.out.cell 3).trans h3
    go_wp2_with fail
    have hcop := copied_any a l c v HB.out (by rw [← HN.out]; omega)
    rw [← HN.out] at hcop
    refine hcop.mono ?_
    clear hcop
    rintro e v2 ⟨u2, rfl, hown2, hb2⟩
    obtain ⟨a2, c2, rfl, hbt2, hlen2, hn2, hc2, hlt2⟩ := own_bts hown2
    have HS2 : Hid (Sm w0 v2 hb ab z g T T b) := HSM.out.below hb2
    have hgi2 : gi < v.heap.size := by have h1 := HGL.out i hi; have h2 := HSZ.out; rw [HGI.out]; omega
    have hwr := write_any gi (T i) l a2 c2 v2 (by rw [HGI.out]; exact HS2.out.hash i hi) hbt2 (fun ad e => by have h1 := (hlt2 ad e).1; omega) (by rw [hlen2]; exact hc2) (by rw [HGI.out]; exact Nat.le_trans hsz0 (HSM.out.hg i hi)) (HT.out.below HS2.out.bel) (by have h1 := HSL.out; have h2 := HS.out i hi; omega)
    rw [hlen2] at hwr
    have HWR : Hid _ := hwr
    have HL2 : Hid (Lies v2 w.heap.size cs 46) := HL.out.below hb2 HL.out.lt
    have HNE : Hid (w.heap.size ≠ gi) := by show _ ≠ _; have h1 := HGL.out i hi; rw [HGI.out]; omega
    clear hown2 hb2 hbt2 hlen2 hn2 hc2 hlt2 hwr c0 c3
    go_wp2_with fail
    refine Calls.mono HWR.out ?_
    clear HWR
    rintro e v3 ⟨rfl, hh3, hb3⟩
    have HS3 : Hid (Sm w0 v3 hb ab z g (upd T i (T i ++ l)) T b) := by
      rw [HGI.out] at hh3 hb3
      exact HS2.out.took hi hb3 hh3
    have HL3 : Hid (Lies v3 w.heap.size cs 46) := hb3.lies HL2.out HNE.out
    have HB3 : Hid (Bts a l v3) := HBT.out.below HS3.out.bel
    have HTK3 : Hid (Bts a1 (T i) v3) := by
      have h := HS3.out.own i hi
      rw [HBI.out] at h
      obtain ⟨a', c', e, hb', _⟩ := own_bts h
      injection e with e1
      rw [e1]
      exact hb'
    clear hh3 hb3 HS2 HL2
    go_wp2_with fail
    have HSS : Hid (∀ w', Lies w' w.heap.size cs 46 → At (fun w' => w'.cell? ⟨w.heap.size, 1, none⟩ = some (.int .i64 (i : Int)) ∧ w'.cell? ⟨w.heap.size, 3, none⟩ = some (.slice a n c)) w') := fun w' hl => ⟨(hl.cell 1).trans h1, (hl.cell 3).trans h3⟩
    refine wp_region_late (At fun w' => w'.cell? ⟨w.heap.size, 1, none⟩ = some (.int .i64 (i : Int)) ∧ w'.cell? ⟨w.heap.size, 3, none⟩ = some (.slice a n c)) 9 (by kernel_rfl) (HSS.out _ HL3.out) (fun hHeld => ?_)
    refine wpAnyE_take (i := 0) (d := some 32) (v := ?_) rfl (by kernel_rfl) (by kernel_rfl) (by kernel_rfl) (by kernel_rfl) (fun _ _ _ h => h) rfl rfl ?hy (by assumption) ?_
    case hy => (intro w' hSw; unfold At at hSw; (try dsimp only at hSw); go_simp <;> (try with_reducible rfl))
    simp only [Act.put, List.setIfInBounds_toArray, List.set_cons_zero, List.set_cons_succ]
    refine wpAnyE_take (i := 1) (d := some 33) (v := ?_) rfl (by kernel_rfl) (by kernel_rfl) (by kernel_rfl) (by kernel_rfl) (fun _ _ _ h => h) rfl rfl ?hy (by assumption) ?_
    case hy => (intro w' hSw; unfold At at hSw; (try dsimp only at hSw); go_simp <;> (try with_reducible rfl))
    simp only [Act.put, List.setIfInBounds_toArray, List.set_cons_zero, List.set_cons_succ]
    refine wpAnyE_take (i := 2) (d := some 34) (v := ?_) rfl (by kernel_rfl) (by kernel_rfl) (by kernel_rfl) (by kernel_rfl) (fun _ _ _ h => h) rfl rfl ?hy (by assumption) ?_
    case hy => (intro w' hSw; unfold At at hSw; (try dsimp only at hSw); go_simp <;> (try with_reducible rfl))
    simp only [Act.put, List.setIfInBounds_toArray, List.set_cons_zero, List.set_cons_succ]
    refine wpAnyE_take (i := 3) (d := some 35) (v := ?_) rfl (by kernel_rfl) (by kernel_rfl) (by kernel_rfl) (by kernel_rfl) (fun _ _ _ h => h) rfl rfl ?hy (by assumption) ?_
    case hy => (intro w' hSw; unfold At at hSw; (try dsimp only at hSw); go_simp <;> (try with_reducible rfl))
    simp only [Act.put, List.setIfInBounds_toArray, List.set_cons_zero, List.set_cons_succ]
    refine wpAnyE_take (i := 5) (d := some 37) (v := ?_) rfl (by kernel_rfl) (by kernel_rfl) (by kernel_rfl) (by kernel_rfl) (fun _ _ _ h => h) rfl rfl ?hy (by assumption) ?_
    case hy => (intro w' hSw; unfold At at hSw; (try dsimp only at hSw); go_simp <;> (try with_reducible rfl))
    simp only [Act.put, List.setIfInBounds_toArray, List.set_cons_zero, List.set_cons_succ]
    refine wpAnyE_take (i := 6) (d := some 38) (v := ?_) rfl (by kernel_rfl) (by kernel_rfl) (by kernel_rfl) (by kernel_rfl) (fun _ _ _ h => h) rfl rfl ?hy (by assumption) ?_
    case hy => (intro w' hSw; unfold At at hSw; (try dsimp only at hSw); go_simp <;> (try with_reducible rfl))
    simp only [Act.put, List.setIfInBounds_toArray, List.set_cons_zero, List.set_cons_succ]
    refine wpAnyE_take (i := 8) (d := some 40) (v := ?_) rfl (by kernel_rfl) (by kernel_rfl) (by kernel_rfl) (by kernel_rfl) (fun _ _ _ h => h) rfl rfl ?hy (by assumption) ?_
    case hy => (intro w' hSw; unfold At at hSw; (try dsimp only at hSw); go_simp <;> (try with_reducible rfl))
    simp only [Act.put, List.setIfInBounds_toArray, List.set_cons_zero, List.set_cons_succ]
    refine wpAnyE_one (i := 4) (by kernel_rfl) rfl rfl ?_
    go_simp
    have hcop := copied_any a1 (T i) c1 v3.drew (HTK3.out.below (Below.refl _ v3).drew) (by rw [← HN1L.out]; omega)
    rw [← HN1L.out] at hcop
    refine hcop.mono ?_
    clear hcop
    rintro e v4 ⟨u4, rfl, hown4, hb0⟩
    have hb4 : Below v3.heap.size v3 v4 := ⟨hb0.os, hb0.tape, hb0.output, hb0.size, hb0.block⟩
    clear hb0 hHeld
    refine ⟨HSS.out _ (HL3.out.below hb4 HL3.out.lt), ?_⟩
    refine wpAnyE_one (i := 7) (by kernel_rfl) rfl rfl ?_
    refine wp_append_any _ _ rfl v3.heap.size u4 N1 (T i) rfl hown4 a l n c rfl HN.out.symm (HB3.out.below hb4) HNC.out (by omega) hb4.size _ rfl ?_
    intro u5 v5 hown5 hbel5
    have hb5 : Below v3.heap.size v3 v5 := hbel5 _ _ hb4 (Nat.le_refl _)
    have HO5 : Hid (v5.ownsRow w0.heap.size 5 1 u5 (T i ++ l).length (cellsB (T i ++ l))) := by
      rw [List.length_append, ← HN1L.out, ← HN.out]
      exact own_mono hown5 HS3.out.bel.size
    have HS5 : Hid (Sm w0 v5 hb ab z g (upd T i (T i ++ l)) T b) := HS3.out.below hb5
    clear hown4 hown5 hbel5 hb4
    obtain ⟨M5, hM5⟩ : ∃ M5, M5 = (T i ++ l).length := ⟨_, rfl⟩
    obtain ⟨a5, c5, e5, -, -, -, -, -⟩ := own_bts HO5.out
    rw [← hM5] at e5
    have HM5 : Hid (M5 = (T i ++ l).length) := hM5
    subst e5
    clear hM5
    have hH5 := HSS.out _ (HL3.out.below hb5 HL3.out.lt)
    have hH6 := HSS.out (v5.setCell ⟨ab, i, none⟩ (.slice a5 M5 c5)) ((HL3.out.below hb5 HL3.out.lt).set_other (fun e => by have h := HL3.out.below hb5 HL3.out.lt; rw [e] at h; exact absurd (lies_kind h HS5.out.all) (by decide)) _)
    refine ⟨.inr hH5, ?_⟩
    have cA5 : v5.cell? ⟨ab, i, none⟩ = some (.slice a1 (T i).length c1) := by rw [← HBI.out]; exact (HS5.out.all.cell i).trans (allA_at b i hi)
    have fA5 := HS5.out.all.frozen i
    refine wpAnyE_one (i := 9) (by kernel_rfl) rfl rfl ?_
    go_simp
    refine wpAnyE_one (i := 10) (by kernel_rfl) rfl rfl ?_
    go_simp
    first | (refine And.intro hH6 ?_) | skip
    refine wpAnyE_done (by kernel_rfl) ?_ _
    clear cA5 fA5 hH5 hH6 hb5 HSS
    go_wp2
    go_ret
    refine ⟨rfl, g, upd T i (T i ++ l), upd b i _, HS5.out.held hi _ (T i ++ l) HO5.out, fun j hj => ?_⟩
    by_cases e : j = i
    · subst e
      rw [upd_same, List.length_append]
      exact Nat.add_le_add_right (HS.out j hj) _
    · rw [upd_other _ _ _ _ e]
      exact Nat.le_trans (HS.out j hj) (Nat.le_add_right _ _)
  by_cases k1 : kd = 1
  · rw [k1] at c0
    clear k1
    go_wp2_with fail
    have hsum := sum_any gi (T i) v (by rw [HGI.out]; exact HSM.out.hash i hi) HTv.out (by rw [← HN1L.out]; omega)
    refine hsum.mono ?_
    clear hsum
    rintro e v2 ⟨rfl, hb2⟩
    have HB2 : Hid (Below v.heap.size v v2) := hb2
    clear hb2
    go_wp2_with fail
    have hmd := rmd5_any a1 (T i) c1 v2 (HTK.out.below HB2.out) HN1.out (by rw [← HN1L.out]; omega)
    rw [← HN1L.out] at hmd
    refine hmd.mono ?_
    clear hmd
    rintro e v3 ⟨rfl, hb3⟩
    have HB3 : Hid (Below v.heap.size v v3) := HB2.out.trans (hb3.mono HB2.out.size)
    clear hb3
    have heq := eql_row (md5 (T i)) (md5_length _)
    go_wp2
    go_ret
    exact ⟨rfl, g, T, b, HSM.out.below HB3.out, fun j hj => Nat.le_trans (HS.out j hj) (Nat.le_add_right _ _)⟩
  by_cases k2 : kd = 2
  · rw [k2] at c0
    clear k2
    go_wp2_with fail
    have hlen := len_any gi (T i) v (by rw [HGI.out]; exact HSM.out.hash i hi)
    rw [← HN1L.out] at hlen
    refine hlen.mono ?_
    clear hlen
    rintro e v2 ⟨rfl, hw⟩
    rw [hw]
    clear hw
    go_wp2
    go_ret
    exact ⟨rfl, g, T, b, HSM.out, fun j hj => Nat.le_trans (HS.out j hj) (Nat.le_add_right _ _)⟩
  by_cases k3 : kd = 3
  · rw [k3] at c0
    clear k3
    have c2v : v.cell? ⟨w.heap.size, 2, none⟩ = some (.int .i64 to) := (HL.out.cell 2).trans h2
    go_wp2_with fail
    have hcp := copy_any gi (T i) v (by rw [HGI.out]; exact HSM.out.hash i hi)
    refine hcp.mono ?_
    clear hcp
    rintro e v2 ⟨rfl, hh2, hb2⟩
    have HS2 : Hid (Sm w0 v2 hb ab z g T T b) := HSM.out.below hb2
    have HH2 : Hid (HashAt v2 v.heap.size (T i)) := hh2
    have HL2 : Hid (Lies v2 w.heap.size cs 46) := HL.out.below hb2 HL.out.lt
    have HTK2 : Hid (Bts a1 (T i) v2) := HTK.out.below hb2
    have c22 : v2.cell? ⟨w.heap.size, 2, none⟩ = some (.int .i64 to) := (HL2.out.cell 2).trans h2
    clear hh2 hb2 c2v c0
    by_cases hr : 0 ≤ to ∧ to < 3
    · obtain ⟨q, hq⟩ : ∃ q : Nat, to = (q : Int) := ⟨to.toNat, by omega⟩
      subst hq
      have hq3 : q < 3 := by omega
      have qI : (q : Int) < 3 := by omega
      clear hr
      go_wp2_with fail
      have cH2 : v2.cell? ⟨hb, q, none⟩ = some (ptr (g q)) := (HS2.out.here.cell q).trans (hereA_at g q hq3)
      have fH2 := HS2.out.here.frozen q
      have HSS : Hid (∀ w', Lies w' w.heap.size cs 46 → At (fun w' => w'.cell? ⟨w.heap.size, 2, none⟩ = some (.int .i64 (q : Int))) w') := fun w' hl => (hl.cell 2).trans h2
      have hH6 := HSS.out (v2.drew.setCell ⟨hb, q, none⟩ (.pointer (some ⟨v.heap.size, 0, none⟩))) ((show Lies v2.drew w.heap.size cs 46 from HL2.out).set_other (fun e => by have h := HL2.out; rw [e] at h; exact absurd (lies_kind h HS2.out.here) (by decide)) _)
      refine wp_region_late (At fun w' => w'.cell? ⟨w.heap.size, 2, none⟩ = some (.int .i64 (q : Int))) 5 (by kernel_rfl) (HSS.out _ HL2.out) (fun hHeld => ?_)
      refine wpAnyE_take (i := 0) (d := some 70) (v := ?_) rfl (by kernel_rfl) (by kernel_rfl) (by kernel_rfl) (by kernel_rfl) (fun _ _ _ h => h) rfl rfl ?hy (by assumption) ?_
      case hy => (intro w' hSw; unfold At at hSw; (try dsimp only at hSw); go_simp <;> (try with_reducible rfl))
      simp only [Act.put, List.setIfInBounds_toArray, List.set_cons_zero, List.set_cons_succ]
      refine wpAnyE_take (i := 1) (d := some 71) (v := ?_) rfl (by kernel_rfl) (by kernel_rfl) (by kernel_rfl) (by kernel_rfl) (fun _ _ _ h => h) rfl rfl ?hy (by assumption) ?_
      case hy => (intro w' hSw; unfold At at hSw; (try dsimp only at hSw); go_simp <;> (try with_reducible rfl))
      simp only [Act.put, List.setIfInBounds_toArray, List.set_cons_zero, List.set_cons_succ]
      refine wpAnyE_take (i := 2) (d := some 72) (v := ?_) rfl (by kernel_rfl) (by kernel_rfl) (by kernel_rfl) (by kernel_rfl) (fun _ _ _ h => h) rfl rfl ?hy (by assumption) ?_
      case hy => (intro w' hSw; unfold At at hSw; (try dsimp only at hSw); go_simp <;> (try with_reducible rfl))
      simp only [Act.put, List.setIfInBounds_toArray, List.set_cons_zero, List.set_cons_succ]
      refine wpAnyE_take (i := 3) (d := some 73) (v := ?_) rfl (by kernel_rfl) (by kernel_rfl) (by kernel_rfl) (by kernel_rfl) (fun _ _ _ h => h) rfl rfl ?hy (by assumption) ?_
      case hy => (intro w' hSw; unfold At at hSw; (try dsimp only at hSw); go_simp <;> (try with_reducible rfl))
      simp only [Act.put, List.setIfInBounds_toArray, List.set_cons_zero, List.set_cons_succ]
      refine wpAnyE_take (i := 4) (d := some 74) (v := ?_) rfl (by kernel_rfl) (by kernel_rfl) (by kernel_rfl) (by kernel_rfl) (fun _ _ _ h => h) rfl rfl ?hy (by assumption) ?_
      case hy => (intro w' hSw; unfold At at hSw; (try dsimp only at hSw); go_simp <;> (try with_reducible rfl))
      simp only [Act.put, List.setIfInBounds_toArray, List.set_cons_zero, List.set_cons_succ]
      refine wpAnyE_one (i := 5) (by kernel_rfl) rfl rfl ?_
      go_simp
      refine wpAnyE_one (i := 6) (by kernel_rfl) rfl rfl ?_
      go_simp
      first | (refine And.intro hH6 ?_) | (refine And.intro hH7 ?_) | skip
      refine wpAnyE_done (by kernel_rfl) ?_ _
      have HS3 : Hid (Sm w0 (v2.setCell ⟨hb, q, none⟩ (ptr v.heap.size)) hb ab z (upd g q v.heap.size) (upd T q (T i)) T b) := HS2.out.put hq3 v.heap.size (T i) HH2.out (fun j hj => by have h1 := HGL.out j hj; have h2 := HSZ.out; omega) HSM.out.bel.size
      have HL3 : Hid (Lies (v2.setCell ⟨hb, q, none⟩ (ptr v.heap.size)) w.heap.size cs 46) := HL2.out.set_other (fun e => by have h := HL2.out; rw [e] at h; exact absurd (lies_kind h HS2.out.here) (by decide)) _
      have hgx : (v2.setCell ⟨hb, q, none⟩ (.pointer (some ⟨v.heap.size, 0, none⟩))) = v2.setCell ⟨hb, q, none⟩ (ptr v.heap.size) := rfl
      rw [hgx]
      have HTK3 : Hid (Bts a1 (T i) (v2.setCell ⟨hb, q, none⟩ (ptr v.heap.size))) := by
        have h := HS3.out.own i hi
        rw [HBI.out] at h
        obtain ⟨a', c', e, hb', _⟩ := own_bts h
        injection e with e1
        rw [e1]
        exact hb'
      clear cH2 fH2 hH6 hHeld HH2 HS2 HL2 hgx c22 HTK2
      generalize v2.setCell ⟨hb, q, none⟩ (ptr v.heap.size) = v3 at HS3 HL3 HTK3 ⊢
      go_wp2_with fail
      refine wp_region_late (At fun w' => w'.cell? ⟨w.heap.size, 2, none⟩ = some (.int .i64 (q : Int))) 6 (by kernel_rfl) (HSS.out _ HL3.out) (fun hHeld => ?_)
      refine wpAnyE_take (i := 0) (d := some 76) (v := ?_) rfl (by kernel_rfl) (by kernel_rfl) (by kernel_rfl) (by kernel_rfl) (fun _ _ _ h => h) rfl rfl ?hy (by assumption) ?_
      case hy => (intro w' hSw; unfold At at hSw; (try dsimp only at hSw); go_simp <;> (try with_reducible rfl))
      simp only [Act.put, List.setIfInBounds_toArray, List.set_cons_zero, List.set_cons_succ]
      refine wpAnyE_take (i := 1) (d := some 77) (v := ?_) rfl (by kernel_rfl) (by kernel_rfl) (by kernel_rfl) (by kernel_rfl) (fun _ _ _ h => h) rfl rfl ?hy (by assumption) ?_
      case hy => (intro w' hSw; unfold At at hSw; (try dsimp only at hSw); go_simp <;> (try with_reducible rfl))
      simp only [Act.put, List.setIfInBounds_toArray, List.set_cons_zero, List.set_cons_succ]
      refine wpAnyE_take (i := 2) (d := some 78) (v := ?_) rfl (by kernel_rfl) (by kernel_rfl) (by kernel_rfl) (by kernel_rfl) (fun _ _ _ h => h) rfl rfl ?hy (by assumption) ?_
      case hy => (intro w' hSw; unfold At at hSw; (try dsimp only at hSw); go_simp <;> (try with_reducible rfl))
      simp only [Act.put, List.setIfInBounds_toArray, List.set_cons_zero, List.set_cons_succ]
      refine wpAnyE_take (i := 3) (d := some 79) (v := ?_) rfl (by kernel_rfl) (by kernel_rfl) (by kernel_rfl) (by kernel_rfl) (fun _ _ _ h => h) rfl rfl ?hy (by assumption) ?_
      case hy => (intro w' hSw; unfold At at hSw; (try dsimp only at hSw); go_simp <;> (try with_reducible rfl))
      simp only [Act.put, List.setIfInBounds_toArray, List.set_cons_zero, List.set_cons_succ]
      refine wpAnyE_take (i := 5) (d := some 81) (v := ?_) rfl (by kernel_rfl) (by kernel_rfl) (by kernel_rfl) (by kernel_rfl) (fun _ _ _ h => h) rfl rfl ?hy (by assumption) ?_
      case hy => (intro w' hSw; unfold At at hSw; (try dsimp only at hSw); go_simp <;> (try with_reducible rfl))
      simp only [Act.put, List.setIfInBounds_toArray, List.set_cons_zero, List.set_cons_succ]
      refine wpAnyE_one (i := 4) (by kernel_rfl) rfl rfl ?_
      go_simp
      have hcop := fun vv (hvv : Below v3.heap.size v3 vv) => copied_any a1 (T i) c1 vv (HTK3.out.below hvv) (by rw [← HN1L.out]; omega)
      rw [← HN1L.out] at hcop
      refine (hcop v3.drew.drew ⟨rfl, rfl, rfl, Nat.le_refl _, fun _ _ => rfl⟩).mono ?_
      clear hcop
      rintro e v4 ⟨u4, rfl, hown4, hb0⟩
      have hb4 : Below v3.heap.size v3 v4 := ⟨hb0.os, hb0.tape, hb0.output, hb0.size, hb0.block⟩
      have HO4 : Hid (v4.ownsRow w0.heap.size 5 1 u4 (T i).length (cellsB (T i))) := by
        rw [← HN1L.out]
        exact own_mono hown4 HS3.out.bel.size
      have HS4 : Hid (Sm w0 v4 hb ab z (upd g q v.heap.size) (upd T q (T i)) T b) := HS3.out.below hb4
      clear hown4 hb0 hHeld
      obtain ⟨a4, c4, e4, -, -, -, -, -⟩ := own_bts HO4.out
      rw [← HN1L.out] at e4
      subst e4
      have hL4 := HL3.out.below hb4 HL3.out.lt
      have hH4 := HSS.out _ hL4
      have hH7 := HSS.out (v4.setCell ⟨ab, q, none⟩ (.slice a4 N1 c4)) (hL4.set_other (fun e => by have h := hL4; rw [e] at h; exact absurd (lies_kind h HS4.out.all) (by decide)) _)
      refine ⟨hH4, ?_⟩
      have cA4 : v4.cell? ⟨ab, q, none⟩ = some (b q) := (HS4.out.all.cell q).trans (allA_at b q hq3)
      have fA4 := HS4.out.all.frozen q
      refine wpAnyE_one (i := 6) (by kernel_rfl) rfl rfl ?_
      go_simp
      refine wpAnyE_one (i := 7) (by kernel_rfl) rfl rfl ?_
      go_simp
      first | (refine And.intro hH6 ?_) | (refine And.intro hH7 ?_) | skip
      refine wpAnyE_done (by kernel_rfl) ?_ _
      clear cA4 fA4 hH4 hH7 hL4 hb4 HSS
      go_wp2
      go_ret
      refine ⟨rfl, upd g q v.heap.size, upd T q (T i), upd b q _, (HS4.out.held hq3 _ (T i) HO4.out).same rfl rfl rfl rfl, fun j hj => ?_⟩
      by_cases e : j = q
      · subst e
        rw [upd_same]
        exact Nat.le_trans (HS.out i hi) (Nat.le_add_right _ _)
      · rw [upd_other _ _ _ _ e]
        exact Nat.le_trans (HS.out j hj) (Nat.le_add_right _ _)
    · go_wp2
      all_goals go_ret
      all_goals exact ⟨rfl, g, T, b, HS2.out, fun j hj => Nat.le_trans (HS.out j hj) (Nat.le_add_right _ _)⟩
  by_cases k4 : kd = 4
  · rw [k4] at c0
    clear k4
    go_wp2_with fail
    have HSS : Hid (∀ w', Lies w' w.heap.size cs 46 → At (fun w' => w'.cell? ⟨w.heap.size, 1, none⟩ = some (.int .i64 (i : Int))) w') := fun w' hl => (hl.cell 1).trans h1
    refine wp_region_late (At fun w' => w'.cell? ⟨w.heap.size, 1, none⟩ = some (.int .i64 (i : Int))) 5 (by kernel_rfl) (HSS.out _ HL.out) (fun hHeld => ?_)
    refine wpAnyE_take (i := 0) (d := some 85) (v := ?_) rfl (by kernel_rfl) (by kernel_rfl) (by kernel_rfl) (by kernel_rfl) (fun _ _ _ h => h) rfl rfl ?hy (by assumption) ?_
    case hy => (intro w' hSw; unfold At at hSw; (try dsimp only at hSw); go_simp <;> (try with_reducible rfl))
    simp only [Act.put, List.setIfInBounds_toArray, List.set_cons_zero, List.set_cons_succ]
    refine wpAnyE_take (i := 1) (d := some 86) (v := ?_) rfl (by kernel_rfl) (by kernel_rfl) (by kernel_rfl) (by kernel_rfl) (fun _ _ _ h => h) rfl rfl ?hy (by assumption) ?_
    case hy => (intro w' hSw; unfold At at hSw; (try dsimp only at hSw); go_simp <;> (try with_reducible rfl))
    simp only [Act.put, List.setIfInBounds_toArray, List.set_cons_zero, List.set_cons_succ]
    refine wpAnyE_take (i := 2) (d := some 87) (v := ?_) rfl (by kernel_rfl) (by kernel_rfl) (by kernel_rfl) (by kernel_rfl) (fun _ _ _ h => h) rfl rfl ?hy (by assumption) ?_
    case hy => (intro w' hSw; unfold At at hSw; (try dsimp only at hSw); go_simp <;> (try with_reducible rfl))
    simp only [Act.put, List.setIfInBounds_toArray, List.set_cons_zero, List.set_cons_succ]
    refine wpAnyE_take (i := 4) (d := some 89) (v := ?_) rfl (by kernel_rfl) (by kernel_rfl) (by kernel_rfl) (by kernel_rfl) (fun _ _ _ h => h) rfl rfl ?hy (by assumption) ?_
    case hy => (intro w' hSw; unfold At at hSw; (try dsimp only at hSw); go_simp <;> (try with_reducible rfl))
    simp only [Act.put, List.setIfInBounds_toArray, List.set_cons_zero, List.set_cons_succ]
    refine wpAnyE_one (i := 3) (by kernel_rfl) rfl rfl ?_
    go_simp
    refine (new_any v.drew).mono ?_
    rintro e v2 ⟨g2, rfl, hg2, hh2, hb0⟩
    have hb2 : Below v.heap.size v v2 := ⟨hb0.os, hb0.tape, hb0.output, hb0.size, hb0.block⟩
    have hg2' : v.heap.size ≤ g2 := hg2
    clear hb0 hHeld hg2
    have hH2 := HSS.out _ (HL.out.below hb2 HL.out.lt)
    refine ⟨hH2, ?_⟩
    have HS2 : Hid (Sm w0 v2 hb ab z g T T b) := HSM.out.below hb2
    have HH2 : Hid (HashAt v2 g2 []) := hh2
    have HL2 : Hid (Lies v2 w.heap.size cs 46) := HL.out.below hb2 HL.out.lt
    have cH2 : v2.cell? ⟨hb, i, none⟩ = some (ptr (g i)) := (HS2.out.here.cell i).trans (hereA_at g i hi)
    have fH2 := HS2.out.here.frozen i
    have hH6 := HSS.out (v2.setCell ⟨hb, i, none⟩ (.pointer (some ⟨g2, 0, none⟩))) (HL2.out.set_other (fun e => by have h := HL2.out; rw [e] at h; exact absurd (lies_kind h HS2.out.here) (by decide)) _)
    clear hh2
    refine wpAnyE_one (i := 5) (by kernel_rfl) rfl rfl ?_
    go_simp
    refine wpAnyE_one (i := 6) (by kernel_rfl) rfl rfl ?_
    go_simp
    first | (refine And.intro hH6 ?_) | (refine And.intro hH7 ?_) | skip
    refine wpAnyE_done (by kernel_rfl) ?_ _
    have HS3 : Hid (Sm w0 (v2.setCell ⟨hb, i, none⟩ (ptr g2)) hb ab z (upd g i g2) (upd T i []) T b) := HS2.out.put hi g2 [] HH2.out (fun j hj => by have h1 := HGL.out j hj; have h2 := HSZ.out; omega) (Nat.le_trans HSM.out.bel.size hg2')
    have HL3 : Hid (Lies (v2.setCell ⟨hb, i, none⟩ (ptr g2)) w.heap.size cs 46) := HL2.out.set_other (fun e => by have h := HL2.out; rw [e] at h; exact absurd (lies_kind h HS2.out.here) (by decide)) _
    have hgx : (v2.setCell ⟨hb, i, none⟩ (.pointer (some ⟨g2, 0, none⟩))) = v2.setCell ⟨hb, i, none⟩ (ptr g2) := rfl
    rw [hgx]
    clear cH2 fH2 hH2 hH6 hb2 HS2 HH2 HL2 hgx c0
    generalize v2.setCell ⟨hb, i, none⟩ (ptr g2) = v3 at HS3 HL3 ⊢
    go_wp2_with fail
    have c13 : v3.cell? ⟨w.heap.size, 1, none⟩ = some (.int .i64 (i : Int)) := (HL3.out.cell 1).trans h1
    have cA3 : v3.cell? ⟨ab, i, none⟩ = some (b i) := (HS3.out.all.cell i).trans (allA_at b i hi)
    have fA3 := HS3.out.all.frozen i
    have hH6 := HSS.out (v3.drew.setCell ⟨ab, i, none⟩ (.slice none 0 0)) ((show Lies v3.drew w.heap.size cs 46 from HL3.out).set_other (fun e => by have h := HL3.out; rw [e] at h; exact absurd (lies_kind h HS3.out.all) (by decide)) _)
    refine wp_region_late (At fun w' => w'.cell? ⟨w.heap.size, 1, none⟩ = some (.int .i64 (i : Int))) 4 (by kernel_rfl) (HSS.out _ HL3.out) (fun hHeld => ?_)
    refine wpAnyE_take (i := 0) (d := some 91) (v := ?_) rfl (by kernel_rfl) (by kernel_rfl) (by kernel_rfl) (by kernel_rfl) (fun _ _ _ h => h) rfl rfl ?hy (by assumption) ?_
    case hy => (intro w' hSw; unfold At at hSw; (try dsimp only at hSw); go_simp <;> (try with_reducible rfl))
    simp only [Act.put, List.setIfInBounds_toArray, List.set_cons_zero, List.set_cons_succ]
    refine wpAnyE_take (i := 1) (d := some 92) (v := ?_) rfl (by kernel_rfl) (by kernel_rfl) (by kernel_rfl) (by kernel_rfl) (fun _ _ _ h => h) rfl rfl ?hy (by assumption) ?_
    case hy => (intro w' hSw; unfold At at hSw; (try dsimp only at hSw); go_simp <;> (try with_reducible rfl))
    simp only [Act.put, List.setIfInBounds_toArray, List.set_cons_zero, List.set_cons_succ]
    refine wpAnyE_take (i := 2) (d := some 93) (v := ?_) rfl (by kernel_rfl) (by kernel_rfl) (by kernel_rfl) (by kernel_rfl) (fun _ _ _ h => h) rfl rfl ?hy (by assumption) ?_
    case hy => (intro w' hSw; unfold At at hSw; (try dsimp only at hSw); go_simp <;> (try with_reducible rfl))
    simp only [Act.put, List.setIfInBounds_toArray, List.set_cons_zero, List.set_cons_succ]
    refine wpAnyE_take (i := 3) (d := some 94) (v := ?_) rfl (by kernel_rfl) (by kernel_rfl) (by kernel_rfl) (by kernel_rfl) (fun _ _ _ h => h) rfl rfl ?hy (by assumption) ?_
    case hy => (intro w' hSw; unfold At at hSw; (try dsimp only at hSw); go_simp <;> (try with_reducible rfl))
    simp only [Act.put, List.setIfInBounds_toArray, List.set_cons_zero, List.set_cons_succ]
    refine wpAnyE_one (i := 4) (by kernel_rfl) rfl rfl ?_
    go_simp
    refine wpAnyE_one (i := 5) (by kernel_rfl) rfl rfl ?_
    go_simp
    first | (refine And.intro hH6 ?_) | (refine And.intro hH7 ?_) | skip
    refine wpAnyE_done (by kernel_rfl) ?_ _
    have HS4 : Hid (Sm w0 (v3.setCell ⟨ab, i, none⟩ (.slice none 0 0)) hb ab z (upd g i g2) (upd T i []) (upd T i []) (upd b i (.slice none 0 0))) := HS3.out.held hi (.slice none 0 0) [] (World.ownsRow_nil _ _ _ _)
    have HL4 : Hid (Lies (v3.setCell ⟨ab, i, none⟩ (.slice none 0 0)) w.heap.size cs 46) := HL3.out.set_other (fun e => by have h := HL3.out; rw [e] at h; exact absurd (lies_kind h HS3.out.all) (by decide)) _
    clear c13 cA3 fA3 hHeld HS3 HL3
    generalize v3.setCell ⟨ab, i, none⟩ (.slice none 0 0) = v4 at HS4 HL4 ⊢
    go_wp2_with fail
    have c14 : v4.cell? ⟨w.heap.size, 1, none⟩ = some (.int .i64 (i : Int)) := (HL4.out.cell 1).trans h1
    have cH4 : v4.cell? ⟨hb, i, none⟩ = some (.pointer (some ⟨g2, 0, none⟩)) := by
      have h := (HS4.out.here.cell i).trans (hereA_at (upd g i g2) i hi)
      rw [upd_same] at h
      exact h
    refine wp_region_late (fun w' => w'.cell? ⟨w.heap.size, 1, none⟩ = some (.int .i64 (i : Int)) ∧ w'.cell? ⟨hb, i, none⟩ = some (.pointer (some ⟨g2, 0, none⟩))) 7 (by kernel_rfl) ⟨c14, cH4⟩ (fun hHeld => ?_)
    refine wpAnyE_take (i := 0) (d := some 96) (v := ?_) rfl (by kernel_rfl) (by kernel_rfl) (by kernel_rfl) (by kernel_rfl) (fun _ _ _ h => h) rfl rfl ?hy (by assumption) ?_
    case hy => (intro w' hSw; (try dsimp only at hSw); go_simp <;> (try with_reducible rfl))
    simp only [Act.put, List.setIfInBounds_toArray, List.set_cons_zero, List.set_cons_succ]
    refine wpAnyE_take (i := 1) (d := some 97) (v := ?_) rfl (by kernel_rfl) (by kernel_rfl) (by kernel_rfl) (by kernel_rfl) (fun _ _ _ h => h) rfl rfl ?hy (by assumption) ?_
    case hy => (intro w' hSw; (try dsimp only at hSw); go_simp <;> (try with_reducible rfl))
    simp only [Act.put, List.setIfInBounds_toArray, List.set_cons_zero, List.set_cons_succ]
    refine wpAnyE_take (i := 2) (d := some 98) (v := ?_) rfl (by kernel_rfl) (by kernel_rfl) (by kernel_rfl) (by kernel_rfl) (fun _ _ _ h => h) rfl rfl ?hy (by assumption) ?_
    case hy => (intro w' hSw; (try dsimp only at hSw); go_simp <;> (try with_reducible rfl))
    simp only [Act.put, List.setIfInBounds_toArray, List.set_cons_zero, List.set_cons_succ]
    refine wpAnyE_take (i := 3) (d := some 99) (v := ?_) rfl (by kernel_rfl) (by kernel_rfl) (by kernel_rfl) (by kernel_rfl) (fun _ _ _ h => h) rfl rfl ?hy (by assumption) ?_
    case hy => (intro w' hSw; (try dsimp only at hSw); go_simp <;> (try with_reducible rfl))
    simp only [Act.put, List.setIfInBounds_toArray, List.set_cons_zero, List.set_cons_succ]
    refine wpAnyE_take (i := 4) (d := some 100) (v := ?_) rfl (by kernel_rfl) (by kernel_rfl) (by kernel_rfl) (by kernel_rfl) (fun _ _ _ h => h) rfl rfl ?hy (by assumption) ?_
    case hy => (intro w' hSw; (try dsimp only at hSw); go_simp <;> (try with_reducible rfl))
    simp only [Act.put, List.setIfInBounds_toArray, List.set_cons_zero, List.set_cons_succ]
    refine wpAnyE_take (i := 5) (d := some 101) (v := ?_) rfl (by kernel_rfl) (by kernel_rfl) (by kernel_rfl) (by kernel_rfl) (fun _ _ _ h => h) rfl rfl ?hy (by assumption) ?_
    case hy => (intro w' hSw; (try dsimp only at hSw); go_simp <;> (try with_reducible rfl))
    simp only [Act.put, List.setIfInBounds_toArray, List.set_cons_zero, List.set_cons_succ]
    refine wpAnyE_take (i := 6) (d := some 102) (v := ?_) rfl (by kernel_rfl) (by kernel_rfl) (by kernel_rfl) (by kernel_rfl) (fun _ _ _ h => h) rfl rfl ?hy (by assumption) ?_
    case hy => (intro w' hSw; (try dsimp only at hSw); go_simp <;> (try with_reducible rfl))
    simp only [Act.put, List.setIfInBounds_toArray, List.set_cons_zero, List.set_cons_succ]
    refine wpAnyE_one (i := 7) (by kernel_rfl) rfl rfl ?_
    go_simp
    refine wpAnyE_done (by kernel_rfl) ?_ _
    clear c14 cH4 hHeld
    go_wp2
    go_ret
    refine ⟨rfl, upd g i g2, upd T i [], upd b i (.slice none 0 0), HS4.out.same rfl rfl rfl rfl, fun j hj => ?_⟩
    by_cases e : j = i
    · subst e
      rw [upd_same]
      exact Nat.zero_le _
    · rw [upd_other _ _ _ _ e]
      exact Nat.le_trans (HS.out j hj) (Nat.le_add_right _ _)
  · go_wp2
    go_ret
    exact ⟨rfl, g, T, b, HSM.out, fun j hj => Nat.le_trans (HS.out j hj) (Nat.le_add_right _ _)⟩
end Go.Proofs.YtlkflikhbkhpeaaDoor
