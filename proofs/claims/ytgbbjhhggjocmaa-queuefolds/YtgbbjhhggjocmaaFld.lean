/-
  What Fold is handed; Fold.
-/
import Derived.Test.YtgbbjhhggjocmaaEvS
import Derived.Test.YtgbbjhhggjocmaaRf7
import Derived.Laws.IdiomStrings
import Derived.Laws.Concat
namespace Go.Proofs.Ytgbbjhhggjocmaa
open Go.RowKit Go.Shelf

attribute [local go_sem] Oper.semAt_some

def chrI (v : Int) : Int := 97 + Int.tmod (Int.tmod v 26 + 26) 26
theorem chrI_range (v : Int) : 97 ≤ chrI v ∧ chrI v ≤ 122 := by
  unfold chrI
  have h1 : -26 < Int.tmod v 26 := by have := Int.lt_tmod_of_pos v (show (0 : Int) < 26 by decide); omega
  have h2 : Int.tmod v 26 < 26 := Int.tmod_lt_of_pos v (by decide)
  have h3 : Int.tmod (Int.tmod v 26 + 26) 26 < 26 := Int.tmod_lt_of_pos _ (by decide)
  have h4 : 0 ≤ Int.tmod (Int.tmod v 26 + 26) 26 := Int.tmod_nonneg _ (by omega)
  omega
def chrS (v : Int) : ByteArray := ⟨#[UInt8.ofNat (chrI v).toNat]⟩
set_option maxRecDepth 20000 in
theorem add_any (s : ByteArray) (v : Int) (w : World) (hs : s.size ≤ 4194304) : Calls Try.prog 37 #[.string s, .int .i64 v] w fun e w' => e = .returned (.string (s ++ chrS v)) ∧ Below w.heap.size w w' := by
  have hr := chrI_range v
  have t1 : -26 < Int.tmod v 26 := by have := Int.lt_tmod_of_pos v (show (0 : Int) < 26 by decide); omega
  have t2 : Int.tmod v 26 < 26 := Int.tmod_lt_of_pos v (by decide)
  have h1 : wrap64 (v.tmod 26 + 26) = v.tmod 26 + 26 := by unfold wrap64; omega
  have h2 : wrap64 (97 + (v.tmod 26 + 26).tmod 26) % 256 = chrI v := by
    have e : (97 + (v.tmod 26 + 26).tmod 26) = chrI v := rfl
    rw [e]; unfold wrap64; omega
  have h2b : wrap64 (97 + (wrap64 (v.tmod 26 + 26)).tmod 26) % 256 = chrI v := by rw [h1]; exact h2
  have hcv : ∀ w : World, (convert 92 9 (.slice (some ⟨w.heap.size, 0, none⟩) 1 1)).run Try.prog (w.alloc (.cells #[.int .u8 (chrI v)] 5)) = .ok (.string (chrS v)) (w.alloc (.cells #[.int .u8 (chrI v)] 5)) := fun w =>
    run_convert_bytes_back (P := Try.prog) (w.alloc (.cells #[.int .u8 (chrI v)] 5)) 92 9 5 ⟨w.heap.size, 0, none⟩ 1 [UInt8.ofNat (chrI v).toNat] Try.underlying92 Try.underlying5 Try.underlying9 (fun j hj => by
      obtain rfl : j = 0 := by simp at hj; omega
      have e : ((UInt8.ofNat (chrI v).toNat).toNat : Int) = chrI v := by
        rw [UInt8.toNat_ofNat']
        omega
      have := (Lies.new w #[.int .u8 (chrI v)] 5).cell 0
      rw [addr_add]
      simp only [List.getElem_cons_zero]
      rw [e]
      exact this)
  have hadd : ∀ w : World, (Op.stringOp .add s (chrS v)).run Try.prog w = .ok (.string (s ++ chrS v)) w := fun w => run_string_add_sum w s (chrS v) (by have : (chrS v).size = 1 := rfl; omega)
  have HB : Hid (Below w.heap.size w (w.alloc (.cells #[.int .u8 (chrI v)] 5))) := (Below.refl _ _).alloc (Nat.le_refl _) _
  clear hr t1 t2 hs h1 h2
  generalize chrS v = cs at *
  generalize chrI v = ci at *
  go_enter Try.func37, Try.ntmps37
  go_wp2
  go_ret
  exact ⟨rfl, HB.out⟩
/-- What the things come to. -/
def fldS (s : ByteArray) (l : List Int) : ByteArray := l.foldl (fun a v => a ++ chrS v) s
theorem fldS_size (s : ByteArray) (l : List Int) : (fldS s l).size = s.size + l.length := by
  induction l generalizing s with
  | nil => rfl
  | cons x r ih =>
    have : fldS s (x :: r) = fldS (s ++ chrS x) r := rfl
    rw [this, ih, ByteArray.size_append, List.length_cons]
    have : (chrS x).size = 1 := rfl
    omega
theorem fldS_snoc (s : ByteArray) (l : List Int) (x : Int) : fldS s (l ++ [x]) = fldS s l ++ chrS x := by unfold fldS; rw [List.foldl_append]; rfl
theorem map_range (l : List Int) : (List.range l.length).map (fun x => l.getD x 0) = l := by
  apply List.ext_getElem
  · simp
  · intro i h1 h2
    simp [h2]
theorem equalIn_fn (w : World) (d k : Nat) : (Op.equalIn (d + 1) 59 (.func (.func k) #[] #[]) .nilFunc).run Try.prog w = .ok false w := by
  simp [Op.equalIn, run_underlying Try.underlying59]
theorem eql_fn (w : World) (k : Nat) : (binOp .eql 59 (.func (.func k) #[] #[]) .nilFunc).run Try.prog w = .ok (.bool false) w := by
  simp only [binOp]
  simp [Op.equal, Op.maxDepth, equalIn_fn w 9999 k]
theorem equalIn_nil (w : World) (d : Nat) : (Op.equalIn (d + 1) 59 .nilFunc .nilFunc).run Try.prog w = .ok true w := by
  simp [Op.equalIn, run_underlying Try.underlying59]
theorem eql_nil (w : World) : (binOp .eql 59 .nilFunc .nilFunc).run Try.prog w = .ok (.bool true) w := by
  simp only [binOp]
  simp [Op.equal, Op.maxDepth, equalIn_nil w 9999]
set_option maxRecDepth 20000 in
theorem fold_nil (pv : Value) (s : ByteArray) (w : World) : Calls Try.prog 38 #[pv, .string s, .nilFunc] w fun e w' => e = .returned (.string s) ∧ Below w.heap.size w w' := by
  have hq := eql_nil
  have HB : Hid (Below w.heap.size w ((w.alloc (.cells #[.string s] 9)).alloc (.cells #[.nilFunc] 59))) := ((Below.refl _ _).alloc (Nat.le_refl _) _).alloc (by simp) _
  go_enter Try.func38, Try.ntmps38
  go_wp2
  go_ret
  exact ⟨rfl, HB.out⟩
set_option maxRecDepth 100000 in
set_option maxHeartbeats 4000000 in
theorem fold_any (p q : Option Nat) (most : Nat) (l : List Int) (s : ByteArray) (w : World) (h : RgI w p q most l) (hs : s.size ≤ 1048576) :
    Calls Try.prog 38 #[ptr p, .string s, .func (.func 37) #[] #[]] w fun e w' => e = .returned (.string (fldS s l)) ∧ Below w.heap.size w w' := by
  have hld := h.len
  have HEA : Hid (∀ wx, Calls Try.prog 40 #[ptr p] wx fun e w' => e = .returned (.func (.func 59) #[] #[.pointer (some ⟨wx.heap.size, 0, none⟩)]) ∧ w' = wx.alloc (.cells #[ptr p] 23)) := fun wx => eachI_any _ wx rfl
  have hq := eql_fn
  obtain ⟨W0, hW0⟩ : ∃ W0, W0 = (w.alloc (.cells #[.string s] 9)).alloc (.cells #[.func (.func 37) #[] #[]] 59) := ⟨_, rfl⟩
  have HB : Hid (Bx w (fun _ => False) W0 (fun _ => False) [(w.heap.size + 1, .func (.func 37) #[] #[], 59), (w.heap.size, .string s, 9)] []) := by
    rw [hW0]
    have := (((Bx.start w (fun _ => False) (fun _ h => h.elim)).box (.string s) 9).box (.func (.func 37) #[] #[]) 59)
    simp only [World.size_alloc] at this
    exact this
  have HW0 : Hid ((w.alloc (.cells #[.string s] 9)).alloc (.cells #[.func (.func 37) #[] #[]] 59) = W0) := hW0.symm
  have HRG : Hid (RgI w p q most l) := h
  have HSZ : Hid (s.size ≤ 1048576 ∧ l.length ≤ 1048576) := ⟨hs, by omega⟩
  clear hW0 h hs hld
  obtain ⟨pv, hpv⟩ : ∃ pv, pv = ptr p := ⟨_, rfl⟩
  have HPV : Hid (pv = ptr p) := hpv
  rw [← hpv] at HEA
  rw [← hpv]
  clear hpv
  refine (callsIn_wide (n := 9)).1 ?_
  refine callsIn_of_wp_marks Try.func38 rfl trivial ?_ rfl
  simp only [Try.ntmps38, List.size_toArray, List.length_cons, List.length_nil, Nat.reduceAdd, Nat.reduceSub, Array.replicate_succ, Array.replicate_zero, List.push_toArray, List.append_toArray, List.nil_append, List.cons_append]
  refine wpIn_wide.2 ?_
  go_wp2_with (go_at_call 40; rw [HW0.out]; refine (HEA.out _).mono ?_; clear HEA; rintro e w3 ⟨rfl, hw3⟩; have HB3 : Hid (Bx w (fun _ => False) w3 (fun _ => False) [(W0.heap.size, pv, 23), (w.heap.size + 1, .func (.func 37) #[] #[], 59), (w.heap.size, .string s, 9)] []) := (by rw [hw3]; exact HB.out.box _ _); clear hw3 HB HW0)
  obtain ⟨G, hG⟩ : ∃ G, G = W0.heap.size := ⟨_, rfl⟩
  rw [← hG] at HB3
  rw [← hG]
  clear hG hq
  have hz1 := HB3.out.chg.size
  have l0 := (HB3.out.at 2 rfl).lt
  obtain ⟨vl, hvl⟩ : ∃ vl : Nat → Int, vl = fun x => l.getD x 0 := ⟨_, rfl⟩
  have HVM : Hid ((List.range l.length).map vl = l) := by rw [hvl]; exact map_range l
  have HSQ : Hid (SeqStopsK Fence.wide 8 Try.prog 59 #[.pointer (some ⟨G, 0, none⟩)] (fun x : Nat => #[.int .i64 (x : Int), .int .i64 (vl x)]) (Kr w3.heap.size) (fun xs => xs = List.range l.length) (fun pre => ∃ k, k ≤ l.length ∧ pre = List.range k) l.length w3) := by rw [hvl]; exact eachI_seq p q most l G 8 (by decide) w3 (HRG.out.below (HB3.out.chg.to_below (Nat.le_refl _) (fun _ h => h.elim))) (by rw [← HPV.out]; exact HB3.out.cell 0 rfl)
  clear hvl
  refine (wpIn_wide (n := 9)).1 ?_
  refine' rf_out (by decide) (gf := 59) (lb := #[.pointer (some ⟨G, 0, none⟩)]) rfl (Go.Proofs.enters_of Try.func59 (by kernel_rfl) rfl) HSQ.out (fun _ => rfl)
    (fun pre W => Hid (Bx w (fun _ => False) W (fun _ => False) [(G, pv, 23), (w.heap.size + 1, .func (.func 37) #[] #[], 59), (w.heap.size, .string (fldS s (pre.map vl)), 9)] []))
    (fun _ _ _ => False) ?hI ?hIx ?h0 _ ?assign ?body ?done ?stop
  case hI => exact fun s W W' row hs hg hr => (hs.out.turn hz1 (fun D hD => by cases hD) hg hr).1
  case hIx => exact fun c s W W' row hs _ _ => hs
  case h0 => exact HB3.out
  case stop => exact fun D c pre W _ _ h => h.elim
  case assign =>
    intro lp x W K hK
    gi_wp2
    exact hK
  case body =>
    intro lp pre x W hlp hrec hi hlt
    have c5 := hi.out.cell 1 rfl
    have c4 := hi.out.cell 2 rfl
    have hsz : (fldS s (pre.map vl)).size ≤ 4194304 := by rw [fldS_size, List.length_map]; have := HSZ.out; omega
    have HAD : Hid (∀ wx, Calls Try.prog 37 #[.string (fldS s (pre.map vl)), .int .i64 (vl x)] wx fun e w' => e = .returned (.string (fldS s ((pre ++ [x]).map vl))) ∧ Below wx.heap.size wx w') := fun wx => by rw [List.map_append, List.map_singleton, fldS_snoc]; exact add_any _ _ wx hsz
    have HI : Hid _ := hi.out
    clear hsz hi
    obtain ⟨s2, hs2⟩ : ∃ s2, s2 = fldS s ((pre ++ [x]).map vl) := ⟨_, rfl⟩
    rw [← hs2] at HAD
    have HS2 : Hid (s2 = fldS s ((pre ++ [x]).map vl)) := hs2
    clear hs2
    gi_wp2_with (refine ⟨trivial, ?_⟩; gi_at_call 37; refine (CallsIn.inRound lp (callsIn_wide.2 (HAD.out _))).mono ?_; clear HAD; rintro e w4 ⟨rfl, hb4⟩; have hB4 := HI.out.later hb4; have k4 := hB4.cell 2 rfl; have z4 := hB4.frozen 2 rfl; have HB4 : Hid _ := hB4; have HBL : Hid (Below W.heap.size W w4) := hb4; clear hB4 hb4)
    have hc := (Chg.of_below (F := (· < w3.heap.size)) HBL.out).set (p := ⟨w.heap.size, 0, none⟩) (.inl l0) (.string s2)
    refine ⟨keeps_of_chg hc (fun _ h => h), Kr.of_chg hc (fun _ h => h), ?_⟩
    show Bx w (fun _ => False) _ (fun _ => False) [(G, pv, 23), (w.heap.size + 1, .func (.func 37) #[] #[], 59), (w.heap.size, .string (fldS s ((pre ++ [x]).map vl)), 9)] []
    rw [← HS2.out]
    exact HB4.out.set 2 rfl _
  case done =>
    rintro D xs W hD rfl hi hk
    have hB := hi.out
    rw [HVM.out] at hB
    have HF : Hid (Bx w (fun _ => False) W (fun _ => False) [(G, pv, 23), (w.heap.size + 1, .func (.func 37) #[] #[], 59), (w.heap.size, .string (fldS s l), 9)] [D]) := hB.mark D (by omega) hk (fun h => by cases h)
    have c4 := hB.cell 2 rfl
    clear hB hi hk
    go_wp2
    obtain ⟨k1, hB1⟩ := HF.out.take
    refine ⟨by simp, .inl ⟨_, _, rfl, run_takeDeferred k1, ?_⟩⟩
    refine ⟨.string (fldS s l), ?_, rfl, hB1.chg.to_below (Nat.le_refl _) (fun _ hk => hk.elim)⟩
    simp [results, Try.results38, go_sem]
end Go.Proofs.Ytgbbjhhggjocmaa
