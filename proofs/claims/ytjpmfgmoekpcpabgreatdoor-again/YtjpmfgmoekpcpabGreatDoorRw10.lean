/-
  The program's Rcpt where wakes asks it.
-/
import Derived.Test.YtjpmfgmoekpcpabGreatDoorNp10
namespace Go.Proofs.YtjpmfgmoekpcpabGreatDoor
open Go.RowKit

/-- What RCPT says. -/
structure Ro where
  notify : Int
  hasOrig : Bool
  orig : List UInt8
def roC (m : Ro) : Array Value := #[.int .i64 m.notify, .bool m.hasOrig, .string (tx m.orig)]
def ro0 : Ro := ⟨0, false, []⟩
theorem infoRo : (Tryz.prog.info? 44).map (·.size) = some 3 := by kernel_rfl
set_option maxHeartbeats 4000000 in
set_option maxRecDepth 100000 in
theorem isr_not (w : World) : Calls Tryz.prog 71 #[.string ⟨#[78, 79, 84, 73, 70, 89]⟩] w fun e w' => e = .returned (.bool true) ∧ w' = w := by
  go_enter Tryz.func71, Tryz.ntmps71
  go_wp2_with fail
  go_ret
  exact ⟨rfl, rfl⟩
set_option maxHeartbeats 4000000 in
set_option maxRecDepth 100000 in
theorem sayr_delay (m : Ro) (o : Nat) (w : World) (h : Lies w o (roC m) 44) (ht : ∀ wx, w.grownBy wx (some o) → ∃ m, wx.cell? ⟨1, 0, none⟩ = some (.int .i64 m)) :
    Calls Tryz.prog 73 #[.pointer (some ⟨o, 0, none⟩), .agg #[.string ⟨#[78, 79, 84, 73, 70, 89]⟩, .string ⟨#[68, 69, 76, 65, 89]⟩, .bool true]] w fun e w' => e = .returned (.bool true) ∧ Lies w' o (roC { m with notify := 8 }) 44 ∧ w.grownBy w' (some o) := by
  have HL : Hid (Lies w o (roC m) 44) := h
  have HS : Hid (∀ wx, w.grownBy wx (some o) → Calls Tryz.prog 107 #[.string ⟨#[68, 69, 76, 65, 89]⟩] wx fun e w' => e = .returned (.tuple #[.int .i64 8, .bool true]) ∧ Below wx.heap.size wx w') := fun wx hx => notify_delay wx (ht wx hx)
  have hlt := h.lt
  clear h ht
  go_enter Tryz.func73, Tryz.ntmps73
  go_wp2_with fail
  refine (HS.out _ (grown_box (World.grownBy.refl _ _) _)).mono ?_
  rintro e w3 ⟨rfl, hb3⟩
  have l3 : Lies w3 o (roC m) 44 := (HL.out.alloc _).below hb3 (HL.out.alloc _).lt
  have q3 : Lies w3 w.heap.size #[.string ⟨#[78, 79, 84, 73, 70, 89]⟩, .string ⟨#[68, 69, 76, 65, 89]⟩, .bool true] 54 := (Lies.new w _ _).below hb3 (Lies.new w _ _).lt
  have HG3 : Hid (w.grownBy w3 (some o)) := grown_below (grown_box (World.grownBy.refl _ _) _) hb3
  have HL3 : Hid (Lies w3 o (roC m) 44) := l3
  have c0 : w3.cell? ⟨o, 0, none⟩ = some (.int .i64 m.notify) := l3.cell 0
  have z0 := l3.frozen 0
  have d2 : w3.cell? ⟨w.heap.size, 2, none⟩ = some (.bool true) := q3.cell 2
  have hne : ¬ w.heap.size = o := by omega
  have d3 : (w3.setCell ⟨o, 0, none⟩ (.int .i64 8)).cell? ⟨w.heap.size, 2, none⟩ = some (.bool true) := (q3.set_other (a := ⟨o, 0, none⟩) hne _).cell 2
  clear l3 q3 hb3
  go_wp2_with fail
  go_ret
  exact ⟨rfl, HL3.out.set 0 _, grown_set HG3.out _⟩
set_option maxHeartbeats 4000000 in
set_option maxRecDepth 100000 in
theorem rclo_of (n v : ByteArray) (h : Bool) (o : Nat) (b : Bool) (R : World → World → Prop) (w : World) (hR : ∀ a c o, R (a.alloc o) c → R a c)
    (hs : ∀ o', Calls Tryz.prog 73 #[.pointer (some ⟨o, 0, none⟩), .agg #[.string n, .string v, .bool h]] (w.alloc o') fun e w' => e = .returned (.bool b) ∧ R (w.alloc o') w') :
    Calls Tryz.prog 72 #[.agg #[.string n, .string v, .bool h], .pointer (some ⟨o, 0, none⟩)] w fun e w' => e = .returned (.bool b) ∧ R w w' := by
  have HS : Hid (∀ o', Calls Tryz.prog 73 #[.pointer (some ⟨o, 0, none⟩), .agg #[.string n, .string v, .bool h]] (w.alloc o') fun e w' => e = .returned (.bool b) ∧ R (w.alloc o') w') := hs
  clear hs
  go_enter Tryz.func72, Tryz.ntmps72
  go_wp2_with fail
  refine (HS.out _).mono ?_
  rintro e w2 ⟨rfl, hr⟩
  go_wp2_with fail
  go_ret
  exact ⟨rfl, hR _ _ _ hr⟩
def wkR : List Pm := [⟨[78, 79, 84, 73, 70, 89], [68, 69, 76, 65, 89], true⟩]
def wkT (m : Ro) (_ : Pm) : Bool × Ro := (true, { m with notify := 8 })
def wkO : Ro := ⟨8, false, []⟩
set_option maxHeartbeats 8000000 in
set_option maxRecDepth 100000 in
theorem rcpt_wk (a : Option Addr) (cap : Nat) (w : World) (ha : Pms a wkR w) (hml : ∃ m, w.cell? ⟨1, 0, none⟩ = some (.int .i64 m)) :
    Calls Tryz.prog 25 #[.slice a 1 cap] w fun e w' => e = .returned (.tuple #[.agg (roC wkO), .int .i64 0]) ∧ Below w.heap.size w w' := by
  have HA : Hid (Pms a wkR w) := ha
  have HML : Hid (∀ wx, Below w.heap.size w wx → ∃ m, wx.cell? ⟨1, 0, none⟩ = some (.int .i64 m)) := fun wx hx => by
    obtain ⟨m, hm⟩ := hml
    exact ⟨m, (hx.cell (p := ⟨1, 0, none⟩) (World.block_lt_of_cell? w _ hm)).trans hm⟩
  clear ha hml
  go_enter Tryz.func25, Tryz.ntmps25
  go_wp2_with fail
  have HKB : Hid (Below w.heap.size w ((w.alloc (.cells (roC ro0) 44)).alloc (.cells (roC ro0) 44))) := ((Below.refl _ _).alloc (Nat.le_refl _) _).alloc (by simp) _
  have HL1 : Hid (Lies ((w.alloc (.cells (roC ro0) 44)).alloc (.cells (roC ro0) 44)) w.heap.size (roC ro0) 44) := (Lies.new w _ _).alloc _
  have HL2 : Hid (Lies ((w.alloc (.cells (roC ro0) 44)).alloc (.cells (roC ro0) 44)) (w.heap.size + 1) (roC ro0) 44) := lies_newAt _ (by simp)
  have HTX : Hid (∀ wx, ((w.alloc (.cells (roC ro0) 44)).alloc (.cells (roC ro0) 44)).grownBy wx (some (w.heap.size + 1)) → Below w.heap.size w wx) := fun wx hx => HKB.out.grown hx HKB.out.size (fun k hk => by injection hk with hk; omega)
  have HMN := mean_any (fun _ => true) wkT roC (w.heap.size + 1) 44 71 72 (fun _ _ => rfl) (fun _ _ => rfl) a cap wkR ((w.alloc (.cells (roC ro0) 44)).alloc (.cells (roC ro0) 44)) ro0 (HA.out.below HKB.out) (by decide) (by decide) HL2.out (fun p hp e => by
      rcases HA.out with h | ⟨g, f, h, hg, _⟩
      · cases h
      · rw [h] at hp; injection hp with hp; subst hp; change g = w.heap.size + 1 at e; omega) (fun p hp wx => by
      obtain rfl := List.mem_singleton.1 hp
      exact isr_not wx) (fun m p hp wx hl hg => by
      obtain rfl := List.mem_singleton.1 hp
      exact rclo_of _ _ _ _ true (fun a c => Lies c (w.heap.size + 1) (roC { m with notify := 8 }) 44 ∧ a.grownBy c (some (w.heap.size + 1))) wx (fun a c o h => ⟨h.1, grown_two (World.grownBy_alloc a o _) h.2 (fun _ h => .inl h.symm)⟩) (fun o' => sayr_delay m _ _ (hl.alloc _) (fun wy hy => HML.out wy (HTX.out wy (grown_two (grown_box hg _) hy (fun _ h => .inl h.symm))))))
  have hme : meanL (fun _ => true) wkT ro0 wkR = (0, wkO) := rfl
  rw [hme] at HMN
  refine HMN.mono ?_
  rintro e w2 ⟨rfl, hl2, hg2⟩
  have HB2 : Hid (Below w.heap.size w w2) := HTX.out w2 hg2
  have HR2 : Hid (Lies w2 w.heap.size (roC ro0) 44) := (hg2.block _ HL1.out.lt (by simp)).trans HL1.out
  have HO2 : Hid (Lies w2 (w.heap.size + 1) (roC wkO) 44) := hl2
  clear HMN hme hl2 hg2 HTX HL1 HL2 HKB HA HML
  have d0 : w2.cell? ⟨w.heap.size + 1, 0, none⟩ = some (.int .i64 8) := HO2.out.cell 0
  have d1 : w2.cell? ⟨w.heap.size + 1, 1, none⟩ = some (.bool false) := HO2.out.cell 1
  have d2 : w2.cell? ⟨w.heap.size + 1, 2, none⟩ = some (.string ⟨#[]⟩) := HO2.out.cell 2
  go_wp2_with (refine wpList_store_row rfl 44 _ _ rfl w.heap.size rfl _ (roC wkO) rfl 44 HR2.out infoRo rfl (by simp [roC, Value.oneCell']) rfl ?_)
  refine bodyPost_ret (res_cv (r := 2) (p := 3) (by kernel_rfl) _ _ w.heap.size (roC wkO) _ (.int .i64 0) rfl rfl (HR2.out.row _) Tryz.underlying44 rfl infoRo) rfl ⟨rfl, below_row HB2.out (Nat.le_refl _) _⟩
end Go.Proofs.YtjpmfgmoekpcpabGreatDoor
