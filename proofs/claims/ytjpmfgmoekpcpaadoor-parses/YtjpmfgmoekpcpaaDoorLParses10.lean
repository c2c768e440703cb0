/-
  For every text and every width the statement ParamParses returns true.
-/
import Derived.Test.YtjpmfgmoekpcpaaDoorYp10
import Derived.Test.YtjpmfgmoekpcpaaDoorSp10
import Derived.Test.YtjpmfgmoekpcpaaDoorCardP10
import Derived.ProofKit
import Derived.ChangeMaps5
import Derived.OpenShut
import Derived.ShutString
import Derived.ChangeOld
import Derived.SizedLaws
namespace Go.Proofs.YtjpmfgmoekpcpaaDoor.paramParses
open Go.ChangeShapes Go.WideShapes Go.ChangeAt Go.RowKit
open Go.ChangeMaps (open_string shut_string)

/-- What is told, as parts. -/
def psE : Except (Nat × Nat) (List Pm) → Int
  | .error (e, _) => e
  | .ok _ => 0
def psP : Except (Nat × Nat) (List Pm) → Int
  | .error (_, p) => p
  | .ok _ => 0
def psL : Except (Nat × Nat) (List Pm) → List Pm
  | .error _ => []
  | .ok l => l
theorem psA_form {B : Nat} {x : Except (Nat × Nat) (List Pm)} {v : Value} {w' : World} (h : PsA B x v w') : ∃ sl, v = .tuple #[sl, .agg #[.int .i64 (psE x), .int .i64 (psP x)]] ∧ w'.ownsRow B 31 3 sl (psL x).length (cellsP (psL x)) := by
  rcases x with ⟨e, p⟩ | l
  · exact ⟨.slice none 0 0, h, ⟨rfl, .inl ⟨rfl, rfl⟩⟩⟩
  · exact h
theorem prs_len {wide : Bool} : ∀ (j : Nat) (l : List UInt8) (ps : List Pm), prs wide j l = .ok ps → ps.length ≤ j
  | j, [], ps, h => by rw [prs_end] at h; injection h with h; subst h; exact Nat.zero_le _
  | 0, c :: r, ps, h => by rw [prs] at h; split at h <;> cases h
  | j + 1, c :: r, ps, h => by
    rw [prs] at h
    split at h
    · rcases hp : pm1 wide r with ⟨e, p⟩ | ⟨p, n⟩
      · rw [hp] at h; cases h
      · rw [hp] at h
        rcases hq : prs wide j (r.drop n) with ⟨e, q⟩ | q
        · simp only [hq, Pq.on] at h
          cases h
        · simp only [hq, Pq.on] at h
          injection h with h
          have := prs_len j (r.drop n) q hq
          subst h
          simp
          omega
    · cases h
theorem psL_len (wide : Bool) (l : List UInt8) : (psL (prs wide 16 l)).length ≤ 16 := by
  rcases h : prs wide 16 l with ⟨e, p⟩ | ps
  · exact Nat.zero_le _
  · exact prs_len 16 l ps h
theorem own_capP {w : World} {base n cap : Nat} {a : Option Addr} {xs : List Value} (h : w.ownsRow base 31 3 (.slice a n cap) n xs) : cap ≤ 9223372036854775807 := by
  obtain ⟨_, ⟨h1, _⟩ | ⟨g, c, cur, hv, _, _, _, h3, _⟩⟩ := h
  · injection h1 with _ _ e
    omega
  · injection hv with _ _ e
    unfold maxLen at h3
    omega
theorem own_pmsS {w : World} {B cap : Nat} {a : Option Addr} {l : List Pm} (h : w.ownsRow B 31 3 (.slice a l.length cap) l.length (cellsP l)) : Pms a l w := by
  obtain ⟨a', c', e, hp⟩ := own_pms h
  injection e with e _ _
  subst e
  exact hp
set_option maxHeartbeats 16000000 in
set_option maxRecDepth 100000 in
theorem walkW (s : ByteArray) (wide : Bool) (er p : Int) (L : List Pm) (hL : L.length ≤ 16) (w : World)
    (HR : Hid (∀ wx, Below w.heap.size w wx → Calls Tryd.prog 7 #[.string s, .bool wide] wx fun e w' => ∃ sl, e = .returned (.tuple #[sl, .agg #[.int .i64 er, .int .i64 p]]) ∧ w'.ownsRow wx.heap.size 31 3 sl L.length (cellsP L) ∧ Below wx.heap.size wx w'))
    (HP : Hid (∀ wx, Below w.heap.size w wx → Calls Tryd.prog 8 #[.string s, .bool wide] wx fun e w' => ∃ sl, e = .returned (.tuple #[sl, .agg #[.int .i64 er, .int .i64 p]]) ∧ w'.ownsRow wx.heap.size 31 3 sl L.length (cellsP L) ∧ Below wx.heap.size wx w'))
    (H1 : Hid (∀ wx, Below w.heap.size w wx → Calls Tryd.prog 8 #[.string ⟨#[32, 97, 61, 49]⟩, .bool false] wx fun e w' => ∃ sl, e = .returned (.tuple #[sl, .agg #[.int .i64 0, .int .i64 0]]) ∧ w'.ownsRow wx.heap.size 31 3 sl [(⟨[65], [49], true⟩ : Pm)].length (cellsP [(⟨[65], [49], true⟩ : Pm)]) ∧ Below wx.heap.size wx w')) :
    Calls Tryd.prog 3 #[.string s, .bool wide] w fun e w' => e = .returned (.bool true) ∧ Below w.heap.size w w' := by
  have hLL : L.length ≤ 1125899906842624 := by omega
  have HL : Hid (L.length ≤ 1125899906842624) := hLL
  have HLM : Hid (L.length ≤ 1000000) := by show _ ≤ _; omega
  clear hLL
  go_enter Tryd.func3, Tryd.ntmps3
  go_upto_region 2 with (first | (go_at_call 7; refine (HR.out _ (Below.refl _ _)).mono ?_; rintro e w1 ⟨sl, rfl, ho, hb⟩))
  obtain ⟨a1, c1, hsl⟩ := ownP_len ho
  subst hsl
  have W1 : Hid (Lies (w1.alloc (.cells #[.int .i64 er, .int .i64 p] 25)) w1.heap.size #[.int .i64 er, .int .i64 p] 25) := Lies.new w1 _ _
  have O1 : Hid ((w1.alloc (.cells #[.int .i64 er, .int .i64 p] 25)).ownsRow w.heap.size 31 3 (.slice a1 L.length c1) L.length (cellsP L)) := ho.alloc _
  have K1 : Hid (Below w.heap.size w (w1.alloc (.cells #[.int .i64 er, .int .i64 p] 25))) := hb.alloc hb.size _
  have B1 : Hid (∀ k, (Value.slice a1 L.length c1).ownBlock = some k → k < (w1.alloc (.cells #[.int .i64 er, .int .i64 p] 25)).heap.size) := fun k hk => (O1.out.lt k hk).2
  clear ho hb
  generalize w1.alloc (.cells #[.int .i64 er, .int .i64 p] 25) = v1 at W1 O1 K1 B1 ⊢
  generalize w1.heap.size = b1 at W1 ⊢
  go_upto_region 3 with (first | (go_at_call 8; refine (HP.out _ K1.out).mono ?_; rintro e w2 ⟨sl, rfl, ho, hb⟩))
  obtain ⟨a2, c2, hsl⟩ := ownP_len ho
  subst hsl
  have W2 : Hid (Lies (w2.alloc (.cells #[.int .i64 er, .int .i64 p] 25)) w2.heap.size #[.int .i64 er, .int .i64 p] 25) := Lies.new w2 _ _
  have O2 : Hid ((w2.alloc (.cells #[.int .i64 er, .int .i64 p] 25)).ownsRow v1.heap.size 31 3 (.slice a2 L.length c2) L.length (cellsP L)) := ho.alloc _
  have W12 : Hid (Lies (w2.alloc (.cells #[.int .i64 er, .int .i64 p] 25)) b1 #[.int .i64 er, .int .i64 p] 25) := (W1.out.below hb W1.out.lt).alloc _
  have O12 : Hid ((w2.alloc (.cells #[.int .i64 er, .int .i64 p] 25)).ownsRow w.heap.size 31 3 (.slice a1 L.length c1) L.length (cellsP L)) := (ownP_below O1.out hb).alloc _
  have K2 : Hid (Below w.heap.size w (w2.alloc (.cells #[.int .i64 er, .int .i64 p] 25))) := (K1.out.trans (hb.mono K1.out.size)).alloc (Nat.le_trans K1.out.size hb.size) _
  have B2 : Hid (∀ k, (Value.slice a2 L.length c2).ownBlock = some k → v1.heap.size ≤ k ∧ k < (w2.alloc (.cells #[.int .i64 er, .int .i64 p] 25)).heap.size) := fun k hk => O2.out.lt k hk
  have HZ : Hid (v1.heap.size ≤ (w2.alloc (.cells #[.int .i64 er, .int .i64 p] 25)).heap.size) := by show _ ≤ _; have := hb.size; simp; omega
  clear ho hb W1 O1
  generalize w2.alloc (.cells #[.int .i64 er, .int .i64 p] 25) = v2 at W2 O2 W12 O12 K2 B2 HZ ⊢
  generalize w2.heap.size = b2 at W2 ⊢
  go_upto_region 4 with (first | (go_at_call 8; refine (HP.out _ K2.out).mono ?_; rintro e w3 ⟨sl, rfl, ho, hb⟩))
  obtain ⟨a3, c3, hsl⟩ := ownP_len ho
  subst hsl
  have W3 : Hid (Lies (w3.alloc (.cells #[.int .i64 er, .int .i64 p] 25)) w3.heap.size #[.int .i64 er, .int .i64 p] 25) := Lies.new w3 _ _
  have O3 : Hid ((w3.alloc (.cells #[.int .i64 er, .int .i64 p] 25)).ownsRow v2.heap.size 31 3 (.slice a3 L.length c3) L.length (cellsP L)) := ho.alloc _
  have W13 : Hid (Lies (w3.alloc (.cells #[.int .i64 er, .int .i64 p] 25)) b1 #[.int .i64 er, .int .i64 p] 25) := (W12.out.below hb W12.out.lt).alloc _
  have W23 : Hid (Lies (w3.alloc (.cells #[.int .i64 er, .int .i64 p] 25)) b2 #[.int .i64 er, .int .i64 p] 25) := (W2.out.below hb W2.out.lt).alloc _
  have O13 : Hid ((w3.alloc (.cells #[.int .i64 er, .int .i64 p] 25)).ownsRow w.heap.size 31 3 (.slice a1 L.length c1) L.length (cellsP L)) := (ownP_below O12.out hb).alloc _
  have O23 : Hid ((w3.alloc (.cells #[.int .i64 er, .int .i64 p] 25)).ownsRow v1.heap.size 31 3 (.slice a2 L.length c2) L.length (cellsP L)) := (ownP_below O2.out hb).alloc _
  have K3 : Hid (Below w.heap.size w (w3.alloc (.cells #[.int .i64 er, .int .i64 p] 25))) := (K2.out.trans (hb.mono K2.out.size)).alloc (Nat.le_trans K2.out.size hb.size) _
  have B3 : Hid (∀ k, (Value.slice a3 L.length c3).ownBlock = some k → v2.heap.size ≤ k) := fun k hk => (O3.out.lt k hk).1
  clear ho hb W12 W2 O12 O2
  generalize w3.alloc (.cells #[.int .i64 er, .int .i64 p] 25) = v3 at W3 O3 W13 W23 O13 O23 K3 B3 ⊢
  generalize w3.heap.size = b3 at W3 ⊢
  have g10 : v3.cell? ⟨b1, 0, none⟩ = some (.int .i64 er) := W13.out.cell 0
  have g11 : v3.cell? ⟨b1, 1, none⟩ = some (.int .i64 p) := W13.out.cell 1
  have g20 : v3.cell? ⟨b2, 0, none⟩ = some (.int .i64 er) := W23.out.cell 0
  have g21 : v3.cell? ⟨b2, 1, none⟩ = some (.int .i64 p) := W23.out.cell 1
  have g30 : v3.cell? ⟨b3, 0, none⟩ = some (.int .i64 er) := W3.out.cell 0
  have g31 : v3.cell? ⟨b3, 1, none⟩ = some (.int .i64 p) := W3.out.cell 1
  have S1 : Hid (Calls Tryd.prog 9 #[.slice a2 L.length c2, .slice a1 L.length c1] v3 fun e w' => e = .returned (.bool true) ∧ Below v3.heap.size v3 w') := ysame_eq a2 a1 c2 c1 L v3 (own_pmsS O23.out) (own_pmsS O13.out) HL.out
  have S2 : Hid (∀ wx, Below v3.heap.size v3 wx → Calls Tryd.prog 9 #[.slice a3 L.length c3, .slice a1 L.length c1] wx fun e w' => e = .returned (.bool true) ∧ Below v3.heap.size v3 w') := fun wx hx => by
    refine (ysame_eq a3 a1 c3 c1 L wx (own_pmsS (ownP_below O3.out hx)) (own_pmsS (ownP_below O13.out hx)) HL.out).mono ?_
    rintro e w' ⟨rfl, hb⟩
    exact ⟨rfl, hx.trans (hb.mono hx.size)⟩
  go_wp2_with fail
  refine S1.out.mono ?_
  rintro e w4 ⟨rfl, hb4⟩
  go_wp2_with fail
  refine (S2.out _ hb4).mono ?_
  rintro e w5 ⟨rfl, hb5⟩
  go_upto_region 6 with fail
  have P1 : Hid (w5.ownsRow w.heap.size 31 3 (.slice a1 L.length c1) L.length (cellsP L)) := ownP_below O13.out hb5
  have P2 : Hid (w5.ownsRow v1.heap.size 31 3 (.slice a2 L.length c2) L.length (cellsP L)) := ownP_below O23.out hb5
  have P3 : Hid (w5.ownsRow v2.heap.size 31 3 (.slice a3 L.length c3) L.length (cellsP L)) := ownP_below O3.out hb5
  have PK : Hid (Below w.heap.size w w5) := K3.out.trans (hb5.mono K3.out.size)
  clear g10 g11 g20 g21 g30 g31 S1 S2 hb4 hb5 O13 O23 O3 W13 W23 W3 K3
  have SA : Hid (Calls Tryd.prog 10 #[.slice a2 L.length c2] w5 fun e w' => e = .returned (.tuple #[]) ∧ w'.ownsRow w.heap.size 31 3 (.slice a1 L.length c1) L.length (cellsP L) ∧ w'.ownsRow v2.heap.size 31 3 (.slice a3 L.length c3) L.length (cellsP L) ∧ Below w.heap.size w w') := by
    show Calls _ _ _ _ _
    refine (spoilP_any v1.heap.size a2 L.length c2 (cellsP L) w5 P2.out HLM.out (own_capP P2.out)).mono ?_
    rintro e w' ⟨rfl, hg⟩
    refine ⟨rfl, owns_otherP P1.out hg (fun k hk e => ?_), owns_otherP P3.out hg (fun k hk e => ?_), PK.out.grown hg PK.out.size (fun q hq => Nat.le_trans K1.out.size (B2.out q hq).1)⟩
    · have h1 := B1.out k e
      have h2 := (B2.out k hk).1
      omega
    · have h1 := B3.out k e
      have h2 := (B2.out k hk).2
      omega
  go_wp2_with fail
  refine SA.out.mono ?_
  rintro e w6 ⟨rfl, q1, q3, qk⟩
  have Q1 : Hid (w6.ownsRow w.heap.size 31 3 (.slice a1 L.length c1) L.length (cellsP L)) := q1
  have Q3 : Hid (w6.ownsRow v2.heap.size 31 3 (.slice a3 L.length c3) L.length (cellsP L)) := q3
  have QK : Hid (Below w.heap.size w w6) := qk
  clear q1 q3 qk SA P1 P2 P3 PK
  have S3 : Hid (Calls Tryd.prog 9 #[.slice a3 L.length c3, .slice a1 L.length c1] w6 fun e w' => e = .returned (.bool true) ∧ Below w6.heap.size w6 w') := ysame_eq a3 a1 c3 c1 L w6 (own_pmsS Q3.out) (own_pmsS Q1.out) HL.out
  go_wp2_with fail
  refine S3.out.mono ?_
  rintro e w7 ⟨rfl, hb7⟩
  have R1 : Hid (w7.ownsRow w.heap.size 31 3 (.slice a1 L.length c1) L.length (cellsP L)) := ownP_below Q1.out hb7
  have R3 : Hid (w7.ownsRow v2.heap.size 31 3 (.slice a3 L.length c3) L.length (cellsP L)) := ownP_below Q3.out hb7
  have RK : Hid (Below w.heap.size w w7) := QK.out.trans (hb7.mono QK.out.size)
  clear hb7 S3 Q1 Q3 QK
  have SB : Hid (Calls Tryd.prog 10 #[.slice a3 L.length c3] w7 fun e w' => e = .returned (.tuple #[]) ∧ w'.ownsRow w.heap.size 31 3 (.slice a1 L.length c1) L.length (cellsP L) ∧ Below w.heap.size w w') := by
    show Calls _ _ _ _ _
    refine (spoilP_any v2.heap.size a3 L.length c3 (cellsP L) w7 R3.out HLM.out (own_capP R3.out)).mono ?_
    rintro e w' ⟨rfl, hg⟩
    refine ⟨rfl, owns_otherP R1.out hg (fun k hk e => ?_), RK.out.grown hg RK.out.size (fun q hq => Nat.le_trans K2.out.size (B3.out q hq))⟩
    have h1 := B1.out k e
    have h2 := B3.out k hk
    have h3 : v1.heap.size ≤ v2.heap.size := HZ.out
    omega
  go_wp2_with fail
  refine SB.out.mono ?_
  rintro e w8 ⟨rfl, t1, tk⟩
  have T1 : Hid (w8.ownsRow w.heap.size 31 3 (.slice a1 L.length c1) L.length (cellsP L)) := t1
  have TK : Hid (Below w.heap.size w w8) := tk
  clear t1 tk SB R1 R3 RK B1 B2 B3 K1 K2
  go_upto_region 11 with (first | (go_at_call 8; refine (HP.out _ TK.out).mono ?_; rintro e w9 ⟨sl, rfl, ho, hb⟩))
  obtain ⟨a4, c4, hsl⟩ := ownP_len ho
  subst hsl
  have U1 : Hid ((w9.alloc (.cells #[.int .i64 er, .int .i64 p] 25)).ownsRow w.heap.size 31 3 (.slice a1 L.length c1) L.length (cellsP L)) := (ownP_below T1.out hb).alloc _
  have U4 : Hid ((w9.alloc (.cells #[.int .i64 er, .int .i64 p] 25)).ownsRow w8.heap.size 31 3 (.slice a4 L.length c4) L.length (cellsP L)) := ho.alloc _
  have UK : Hid (Below w.heap.size w (w9.alloc (.cells #[.int .i64 er, .int .i64 p] 25))) := (TK.out.trans (hb.mono TK.out.size)).alloc (Nat.le_trans TK.out.size hb.size) _
  clear ho hb T1 TK
  generalize w9.alloc (.cells #[.int .i64 er, .int .i64 p] 25) = v9 at U1 U4 UK ⊢
  go_upto_region 12 with (first | (go_at_call 8; refine (H1.out _ UK.out).mono ?_; rintro e w10 ⟨sl, rfl, ho, hb⟩))
  obtain ⟨a5, c5, hsl⟩ := ownP_len ho
  subst hsl
  have X1 : Hid ((w10.alloc (.cells #[.int .i64 0, .int .i64 0] 25)).ownsRow w.heap.size 31 3 (.slice a1 L.length c1) L.length (cellsP L)) := (ownP_below U1.out hb).alloc _
  have X4 : Hid ((w10.alloc (.cells #[.int .i64 0, .int .i64 0] 25)).ownsRow w8.heap.size 31 3 (.slice a4 L.length c4) L.length (cellsP L)) := (ownP_below U4.out hb).alloc _
  have X5 : Hid ((w10.alloc (.cells #[.int .i64 0, .int .i64 0] 25)).ownsRow v9.heap.size 31 3 (.slice a5 [(⟨[65], [49], true⟩ : Pm)].length c5) [(⟨[65], [49], true⟩ : Pm)].length (cellsP [(⟨[65], [49], true⟩ : Pm)])) := ho.alloc _
  have XS : Hid (Lies (w10.alloc (.cells #[.int .i64 0, .int .i64 0] 25)) w10.heap.size #[.int .i64 0, .int .i64 0] 25) := Lies.new w10 _ _
  have XK : Hid (Below w.heap.size w (w10.alloc (.cells #[.int .i64 0, .int .i64 0] 25))) := (UK.out.trans (hb.mono UK.out.size)).alloc (Nat.le_trans UK.out.size hb.size) _
  clear ho hb U1 U4 UK
  generalize w10.alloc (.cells #[.int .i64 0, .int .i64 0] 25) = v10 at X1 X4 X5 XS XK ⊢
  generalize w10.heap.size = b10 at XS ⊢
  obtain ⟨g, o, hga, d0, d1, d2⟩ := (own_pmsS X5.out).at 0 (Nat.zero_lt_one)
  subst hga
  have hg : g < v10.heap.size := World.block_lt_of_cell? v10 _ d0
  have S5 : Hid (Calls Tryd.prog 9 #[.slice a4 L.length c4, .slice a1 L.length c1] v10 fun e w' => e = .returned (.bool true) ∧ Below w.heap.size w w' ∧ w'.cell? ⟨b10, 0, none⟩ = some (.int .i64 0) ∧ w'.cell? ⟨g, o + 0 * 3, none⟩ = some (.string ⟨#[65]⟩) ∧ w'.cell? ⟨g, o + 0 * 3 + 1, none⟩ = some (.string ⟨#[49]⟩) ∧ w'.cell? ⟨g, o + 0 * 3 + 2, none⟩ = some (.bool true)) := by
    show Calls _ _ _ _ _
    refine (ysame_eq a4 a1 c4 c1 L v10 (own_pmsS X4.out) (own_pmsS X1.out) HL.out).mono ?_
    rintro e w' ⟨rfl, hb⟩
    refine ⟨rfl, XK.out.trans (hb.mono XK.out.size), (hb.cell (p := ⟨b10, 0, none⟩) XS.out.lt).trans (XS.out.cell 0), (hb.cell (p := ⟨g, o + 0 * 3, none⟩) hg).trans d0, (hb.cell (p := ⟨g, o + 0 * 3 + 1, none⟩) hg).trans d1, (hb.cell (p := ⟨g, o + 0 * 3 + 2, none⟩) hg).trans d2⟩
  clear d0 d1 d2 X1 X4 X5 XS XK
  go_wp2_with fail
  refine S5.out.mono ?_
  rintro e w11 ⟨rfl, kb, m0, m1, m2, m3⟩
  rw [Nat.zero_mul, Nat.add_zero] at m1 m2 m3
  go_wp2
  go_ret
  exact ⟨rfl, kb⟩

theorem one_a : prs false 16 [32, 97, 61, 49] = .ok [⟨[65], [49], true⟩] := by kernel_rfl
theorem walk (s : ByteArray) (ss : s.size ≤ 140737488351232) (wide : Bool) (w : World) (ht : Tp w) :
    Calls Tryd.prog 3 #[.string s, .bool wide] w fun e w' => e = .returned (.bool true) ∧ Below w.heap.size w w' := by
  refine walkW s wide (psE (prs wide 16 s.data.toList)) (psP (prs wide 16 s.data.toList)) (psL (prs wide 16 s.data.toList)) (psL_len wide _) w (fun wx hx => ?_) (fun wx hx => ?_) (fun wx hx => ?_)
  · refine (yparse_any s wide ss wx).mono ?_
    rintro e w' ⟨v, rfl, hp, hb⟩
    obtain ⟨sl, rfl, ho⟩ := psA_form hp
    exact ⟨sl, rfl, ho, hb⟩
  · refine (pparse_any s wide (by omega) wx (ht.below hx).tab (ht.below hx).fst).mono ?_
    rintro e w' ⟨v, rfl, hp, hb⟩
    obtain ⟨sl, rfl, ho⟩ := psA_form hp
    exact ⟨sl, rfl, ho, hb⟩
  · refine (pparse_any ⟨#[32, 97, 61, 49]⟩ false (by show 4 ≤ _; omega) wx (ht.below hx).tab (ht.below hx).fst).mono ?_
    rintro e w' ⟨v, rfl, hp, hb⟩
    rw [show (⟨#[32, 97, 61, 49]⟩ : ByteArray).data.toList = [32, 97, 61, 49] from rfl, one_a] at hp
    obtain ⟨sl, rfl, ho⟩ := hp
    exact ⟨sl, rfl, ho, hb⟩

set_option maxRecDepth 100000 in
theorem contract (H : Type) (enc : TypeId × Value → H) (W : World) (base : Nat) (args : Array Value) (ds gs : List (DataW H)) (before : List MemPlace)
    (hval : ∀ (j : Nat) t v, Tryd.f3.params[j]? = some t → args[j]? = some v → Value.okWide Tryd.prog W .any base t v)
    (hW : DataW.Whole enc Tryd.prog Tryd.f3.params.toList Rows.paramParsesSpec.vars false W args.toList ds gs before)
    (hsz : (DataW.weightsEach Tryd.prog (Tryd.f3.params.toList ++ (OpenSpec.ofChange Rows.paramParsesSpec).bare.plain.varTypes Tryd.prog) (ds ++ gs)).all (· ≤ reachBytes) = true)
    (hL : laidMetH Tryd.prog Rows.paramParsesRow.laid W) (hsh : W.ShapedOpen Tryd.prog) :
    Calls Tryd.prog 3 args W fun e W' => ∃ v, e = .returned v ∧ Rows.paramParsesSpec.post enc Tryd.prog Tryd.f3 false true false false W args v W' := by
  have hW' := hW
  obtain ⟨p, q, hA0, hV, rfl, hfz, hnd⟩ := hW
  have hA : DataW.TrodAll enc Tryd.prog W 0 (fun _ => true) true Tryd.f3.params.toList args.toList ds p := hA0
  rw [Tryd.params3] at hA hval hsz
  obtain ⟨v0, vs0, d0, ds0, p0, q0, hargs, rfl, rfl, h0, r0⟩ := trodAll_cons hA
  obtain ⟨v1, vs1, d1, ds1, p1, q1, rfl, rfl, rfl, h1, r1⟩ := trodAll_cons r0
  obtain ⟨rfl, rfl, rfl⟩ := trodAll_nil r1
  obtain rfl : args = #[v0, v1] := by cases args; simp_all
  obtain ⟨rfl, rfl⟩ := trodVars_none hV
  obtain ⟨a0, rfl, rfl, rfl, w0⟩ := open_string Tryd.underlying9 (hval 0 9 v0 rfl rfl) h0
  obtain ⟨a1, rfl, rfl, rfl⟩ := open_bool Tryd.underlying4 (hval 1 4 v1 rfl rfl) h1
  clear hA0
  have s0 := sized_string hsz (j := 0) (t := 9) rfl rfl
  simp only [reachBytes, Array.length_toList] at s0
  simp only [List.append_nil] at hW'
  refine (walk a0 s0 a1 W (tabsP_of hL hsh)).mono fun e W' ⟨he, bel⟩ => ?_
  subst he
  exact ⟨_, rfl, _, _, _, [], [], [], hW', trodAll_mk1 (shut_bool Tryd.underlying4 _), trodAll_cons_mk (shut_string Tryd.underlying9 w0) (trodAll_cons_mk (shut_bool Tryd.underlying4 _) trodAll_mk0), rfl, bel.frame _, fun h => by cases h⟩

set_option maxRecDepth 100000 in
theorem laid_met (os : Os) : laidMet Tryd.prog Rows.paramParsesRow.laid ((laidWorldP os).forCall (fun _ _ => 0) ⟨#[], #[.string ByteArray.empty, .bool false], []⟩).memory :=
  laidMet_of_run' 8 (by kernel_rfl) (by kernel_rfl)
set_option maxRecDepth 100000 in
theorem reads (os : Os) {H : Type} (enc : TypeId × Value → H) : ∃ places, DataW.whole enc Tryd.prog ((laidWorldP os).forCall (fun _ _ => 0) ⟨#[], #[.string ByteArray.empty, .bool false], []⟩).memory Tryd.f3.params.toList Rows.paramParsesSpec.vars false #[Value.string ByteArray.empty, Value.bool false].toList 8 = some ([.lit (.string []), .lit (.bool false)], [], places) :=
  ⟨[], by kernel_rfl⟩

set_option maxRecDepth 100000 in
theorem lifted (os : Os) (started : os.Started) (H : Type) (enc : TypeId × Value → H) (F : Stop.Interp) :
    ReturnsInHanded {} Tryd.checked os 3 .any ((OpenSpec.ofChange Rows.paramParsesSpec).preRow enc Tryd.prog Tryd.f3 Rows.paramParsesRow.domain false Rows.paramParsesRow.laid) (((OpenSpec.ofChange Rows.paramParsesSpec).at F).post enc Tryd.prog Tryd.f3 false true false false) := by
  obtain ⟨places, hx⟩ := reads os enc
  refine returnsInHanded_of_row (C := Tryd.checked) (s := OpenSpec.ofChange Rows.paramParsesSpec) own started (by kernel_rfl) Tryd.func3
    (witness_row_at (enc := enc) (C := Tryd.checked) false (laidWorldP os) #[.string ByteArray.empty, .bool false] rfl (by kernel_rfl) (by kernel_rfl) (by kernel_rfl)
      (OpenSpec.preRow_of_cond 8 hx (by kernel_rfl) (fun k hk => by cases hk) (by kernel_rfl) (laid_met os))) ?_
  intro W base args ds gs before hval hW _ _ hsz hL hsh _
  exact contract H enc W base args ds gs before hval hW hsz hL hsh

theorem said : Rows.ParamParsesSaid :=
  OpenClaim.holds_of_cond 3 Tryd.f3 rfl rfl rfl rfl rfl rfl rfl ⟨rfl, rfl, rfl, rfl, rfl⟩ rfl rfl rfl rfl rfl (by kernel_rfl) Tryd.func3 (by kernel_rfl)
    (of_decide_eq_true (by kernel_rfl)) (by unfold Func.isWrapper; first | (rw [if_pos (by decide +kernel)]; kernel_rfl) | (rw [if_neg (by decide +kernel)]; exact ⟨rfl, rfl⟩))
    (fun os started H enc _ F => by rw [OpenClaim.pre_eq_preRow]; exact lifted os started H enc F)

/-- No parameter wants a stand-in; the program's own looks are off. -/
theorem plain (f : FuncId) (fn : Func) (hf : Tryd.pinned.checked.prog.funcNamed "posthorn/posthornlaw10.ParamParses" = some f) (hfn : Tryd.pinned.checked.prog.funcs[f]? = some fn) :
    false = Tryd.pinned.checked.prog.looks [] ∧ ∀ (j : Nat) t, fn.params[j]? = some t → Tryd.pinned.checked.prog.wantsStandIn t = false := by
  obtain rfl : f = 3 := Option.some.inj ((show Tryd.prog.funcNamed "posthorn/posthornlaw10.ParamParses" = some 3 by kernel_rfl).symm.trans hf) |>.symm
  obtain rfl : fn = Tryd.f3 := (Option.some.inj (Tryd.func3.symm.trans hfn)).symm
  refine ⟨by kernel_rfl, fun j t ht => ?_⟩
  rw [Tryd.params3] at ht
  have hm : t ∈ [9, 4] := by simpa using Array.mem_of_getElem? ht
  have hall : ([9, 4].all fun u => !Tryd.prog.wantsStandIn u) = true := by kernel_rfl
  exact (show Tryd.prog.wantsStandIn t = false by simpa using List.all_eq_true.1 hall t hm)

/-- The card. -/
theorem card : Rows.ParamParsesCardSaid :=
  Claim7.holds_tied_plain_at .later [] _ _ _ _ said (fun _ h => by cases h) (by kernel_rfl) (fun _ h => by cases h) paramParses_row_tie rfl ⟨rfl, rfl⟩ (by kernel_rfl) rfl plain (by kernel_rfl)
end Go.Proofs.YtjpmfgmoekpcpaaDoor.paramParses
namespace Go.Proofs.YtjpmfgmoekpcpaaDoor
theorem paramParses_card : Rows.ParamParsesCardSaid := paramParses.card
#print axioms paramParses_card
end Go.Proofs.YtjpmfgmoekpcpaaDoor
