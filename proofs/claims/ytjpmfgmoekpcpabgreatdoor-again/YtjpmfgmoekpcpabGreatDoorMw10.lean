/-
  The program's Mail where wakes asks it.
-/
import Derived.Test.YtjpmfgmoekpcpabGreatDoorMo10
namespace Go.Proofs.YtjpmfgmoekpcpabGreatDoor
open Go.RowKit

theorem res_cv {P : Program} {fn : Func} {p r : Tmp} {ty : TypeId} (h : fn.results = #[.cell r ty, .tmp p]) (tmps : Array Value) (w : World) (g : Nat) (cs : Array Value) (d : TypeDesc) (v1 : Value) (hp : tmps.getD p undef = v1) (hr : tmps.getD r undef = .pointer (some ⟨g, 0, none⟩)) (hg : Lies w g cs ty)
    (hu : P.underlying ty = some d) (ha : (match d with | .struct _ | .array _ _ => true | _ => false) = true) (hz : (P.info? ty).map (·.size) = some cs.size) : (results fn tmps).run P w = .ok (.tuple #[.agg cs, v1]) w := by
  have hp' : tmps[p]?.getD undef = v1 := by simpa using hp
  have hr' : tmps[r]?.getD undef = .pointer (some ⟨g, 0, none⟩) := by simpa using hr
  simp [results, h, hp', hr', asAddr, run_loadVar_row w g ty ty cs (0, 0) d hg hu ha hz]
theorem lies_newAt {w : World} {cs : Array Value} {t : TypeId} (n : Nat) (h : w.heap.size = n) : Lies (w.alloc (.cells cs t)) n cs t := h ▸ Lies.new w cs t
set_option maxHeartbeats 4000000 in
set_option maxRecDepth 100000 in
/-- The function that Mail hands on says what sayMail says. -/
theorem mclo_of (n v : ByteArray) (h : Bool) (o : Nat) (b : Bool) (R : World → World → Prop) (w : World) (hR : ∀ a c o, R (a.alloc o) c → R a c)
    (hs : ∀ o', Calls Tryz.prog 70 #[.pointer (some ⟨o, 0, none⟩), .agg #[.string n, .string v, .bool h]] (w.alloc o') fun e w' => e = .returned (.bool b) ∧ R (w.alloc o') w') :
    Calls Tryz.prog 69 #[.agg #[.string n, .string v, .bool h], .pointer (some ⟨o, 0, none⟩)] w fun e w' => e = .returned (.bool b) ∧ R w w' := by
  have HS : Hid (∀ o', Calls Tryz.prog 70 #[.pointer (some ⟨o, 0, none⟩), .agg #[.string n, .string v, .bool h]] (w.alloc o') fun e w' => e = .returned (.bool b) ∧ R (w.alloc o') w') := hs
  clear hs
  go_enter Tryz.func69, Tryz.ntmps69
  go_wp2_with fail
  refine (HS.out _).mono ?_
  rintro e w2 ⟨rfl, hr⟩
  go_wp2_with fail
  go_ret
  exact ⟨rfl, hR _ _ _ hr⟩
def wkL : List Pm := [⟨[83, 73, 90, 69], [55], true⟩, ⟨[83, 77, 84, 80, 85, 84, 70, 56], [], false⟩]
def wkS (m : Mo) (p : Pm) : Bool × Mo := (true, if p.has then { m with hasSize := true, size := 7 } else { m with wide := true })
def wkM : Mo := ⟨true, 7, 0, true, 0, false, [], false, []⟩
set_option maxHeartbeats 8000000 in
set_option maxRecDepth 100000 in
theorem mail_wk (a : Option Addr) (cap : Nat) (w : World) (ha : Pms a wkL w) (ht : Table w) :
    Calls Tryz.prog 24 #[.slice a 2 cap] w fun e w' => e = .returned (.tuple #[.agg (moC wkM), .int .i64 0]) ∧ Below w.heap.size w w' := by
  have HA : Hid (Pms a wkL w) := ha
  have HT : Hid (Table w) := ht
  clear ha ht
  go_enter Tryz.func24, Tryz.ntmps24
  go_wp2_with fail
  have HKB : Hid (Below w.heap.size w ((w.alloc (.cells (moC mo0) 42)).alloc (.cells (moC mo0) 42))) := ((Below.refl _ _).alloc (Nat.le_refl _) _).alloc (by simp) _
  have HL1 : Hid (Lies ((w.alloc (.cells (moC mo0) 42)).alloc (.cells (moC mo0) 42)) w.heap.size (moC mo0) 42) := (Lies.new w _ _).alloc _
  have HL2 : Hid (Lies ((w.alloc (.cells (moC mo0) 42)).alloc (.cells (moC mo0) 42)) (w.heap.size + 1) (moC mo0) 42) := lies_newAt _ (by simp)
  have HTX : Hid (∀ wx, ((w.alloc (.cells (moC mo0) 42)).alloc (.cells (moC mo0) 42)).grownBy wx (some (w.heap.size + 1)) → Below w.heap.size w wx) := fun wx hx => HKB.out.grown hx HKB.out.size (fun k hk => by injection hk with hk; omega)
  have HMN := mean_any (fun _ => true) wkS moC (w.heap.size + 1) 42 68 69 (fun _ _ => rfl) (fun _ _ => rfl) a cap wkL ((w.alloc (.cells (moC mo0) 42)).alloc (.cells (moC mo0) 42)) mo0 (HA.out.below HKB.out) (by decide) (by decide) HL2.out (fun p hp e => by
      rcases HA.out with h | ⟨g, f, h, hg, _⟩
      · cases h
      · rw [h] at hp; injection hp with hp; subst hp; change g = w.heap.size + 1 at e; omega) (fun p hp wx => by
      rcases List.mem_cons.1 hp with rfl | hp
      · exact ism_size wx
      · obtain rfl := List.mem_singleton.1 hp
        exact ism_wide wx) (fun m p hp wx hl hg => by
      rcases List.mem_cons.1 hp with rfl | hp
      · exact mclo_of _ _ _ _ true (fun a c => Lies c (w.heap.size + 1) (moC { m with hasSize := true, size := 7 }) 42 ∧ a.grownBy c (some (w.heap.size + 1))) wx (fun a c o h => ⟨h.1, grown_two (World.grownBy_alloc a o _) h.2 (fun _ h => .inl h.symm)⟩) (fun o' => saym_size m _ _ (hl.alloc _) (fun wy hy => HT.out.keep (HTX.out wy (grown_two (grown_box hg _) hy (fun _ h => .inl h.symm)))))
      · obtain rfl := List.mem_singleton.1 hp
        exact mclo_of _ _ _ _ true (fun a c => Lies c (w.heap.size + 1) (moC { m with wide := true }) 42 ∧ a.grownBy c (some (w.heap.size + 1))) wx (fun a c o h => ⟨h.1, grown_two (World.grownBy_alloc a o _) h.2 (fun _ h => .inl h.symm)⟩) (fun o' => saym_wide m _ _ (hl.alloc _)))
  have hme : meanL (fun _ => true) wkS mo0 wkL = (0, wkM) := rfl
  rw [hme] at HMN
  refine HMN.mono ?_
  rintro e w2 ⟨rfl, hl2, hg2⟩
  have HB2 : Hid (Below w.heap.size w w2) := HTX.out w2 hg2
  have HR2 : Hid (Lies w2 w.heap.size (moC mo0) 42) := (hg2.block _ HL1.out.lt (by simp)).trans HL1.out
  have HO2 : Hid (Lies w2 (w.heap.size + 1) (moC wkM) 42) := hl2
  clear HMN hme hl2 hg2 HTX HL1 HL2 HKB HA HT
  have d0 : w2.cell? ⟨w.heap.size + 1, 0, none⟩ = some (.bool true) := HO2.out.cell 0
  have d1 : w2.cell? ⟨w.heap.size + 1, 1, none⟩ = some (.int .i64 7) := HO2.out.cell 1
  have d2 : w2.cell? ⟨w.heap.size + 1, 2, none⟩ = some (.int .i64 0) := HO2.out.cell 2
  have d3 : w2.cell? ⟨w.heap.size + 1, 3, none⟩ = some (.bool true) := HO2.out.cell 3
  have d4 : w2.cell? ⟨w.heap.size + 1, 4, none⟩ = some (.int .i64 0) := HO2.out.cell 4
  have d5 : w2.cell? ⟨w.heap.size + 1, 5, none⟩ = some (.bool false) := HO2.out.cell 5
  have d6 : w2.cell? ⟨w.heap.size + 1, 6, none⟩ = some (.string ⟨#[]⟩) := HO2.out.cell 6
  have d7 : w2.cell? ⟨w.heap.size + 1, 7, none⟩ = some (.bool false) := HO2.out.cell 7
  have d8 : w2.cell? ⟨w.heap.size + 1, 8, none⟩ = some (.string ⟨#[]⟩) := HO2.out.cell 8
  go_wp2_with (refine wpList_store_row rfl 42 _ _ rfl w.heap.size rfl _ (moC wkM) rfl 42 HR2.out infoMo rfl (by simp [moC, Value.oneCell']) rfl ?_)
  refine bodyPost_ret (res_cv (r := 2) (p := 3) (by kernel_rfl) _ _ w.heap.size (moC wkM) _ (.int .i64 0) rfl rfl (HR2.out.row _) Tryz.underlying42 rfl infoMo) rfl ⟨rfl, below_row HB2.out (Nat.le_refl _) _⟩
end Go.Proofs.YtjpmfgmoekpcpabGreatDoor
