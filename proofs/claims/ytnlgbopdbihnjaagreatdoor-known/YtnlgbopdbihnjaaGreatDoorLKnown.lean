/-
  The statement DomainKnown returns true.
-/
import Derived.Test.YtnlgbopdbihnjaaGreatDoorRg8
import Derived.ProofKit
import Derived.ChangeMaps5
import Derived.OpenShut
import Derived.ShutString
import Derived.ChangeOld
import Derived.SizedLaws
namespace Go.Proofs.YtnlgbopdbihnjaaGreatDoor.domainKnown
open Go.ChangeShapes Go.WideShapes Go.ChangeAt Go.RowKit

def wideH : Ho := ⟨1, [66, 195, 188, 99, 104, 101, 114, 46, 68, 69], z16⟩
def punyH : Ho := ⟨1, [120, 110, 45, 45, 98, 99, 104, 101, 114, 45, 107, 118, 97, 46, 100, 101], z16⟩
def aH : Ho := fourH [10, 1, 2, 3]
def nH : Ho := fourH [10, 0, 0, 0]
theorem wideH_ok : wideH.Ok := ⟨rfl, by decide⟩
theorem punyH_ok : punyH.Ok := ⟨rfl, by decide⟩
theorem aH_ok : aH.Ok := ⟨rfl, by decide⟩
theorem nH_ok : nH.Ok := ⟨rfl, by decide⟩
theorem kn1 : ascii asciiL wideH = (punyH, 0) := by decide +kernel
theorem kn2 : same asciiL wideH punyH = true := by decide +kernel
theorem kn3 : v6 [49, 58, 50, 58, 51, 58, 52, 58, 53, 58, 54, 58, 55, 58, 58] = .error 14 := by rfl
theorem kn4 : v6 [49, 58, 58, 50, 58, 51, 58, 52, 58, 53, 58, 54, 58, 55] = .error 12 := by rfl
theorem kn5 : v6 [58, 58, 50, 53, 54, 46, 49, 46, 49, 46, 49] = .error 5 := by rfl
theorem kn6 : within aH nH 8 = true ∧ within aH nH 9 = true ∧ within aH nH 16 = false ∧ within aH aH 33 = false := by decide +kernel
theorem kn7 : print6 (List.replicate 16 0) = [58, 58] := by decide +kernel
def cellsK : Array Value := #[.string ⟨#[]⟩, .bool false, .int .i64 80, .int .i64 0, .string ⟨#[97, 46]⟩, .bool false, .int .i64 80, .int .i64 2, .string ⟨#[97, 46, 46, 98]⟩, .bool false, .int .i64 80, .int .i64 2, .string ⟨#[45, 97]⟩, .bool false, .int .i64 80, .int .i64 0, .string ⟨#[97, 45, 46, 98]⟩, .bool false, .int .i64 80, .int .i64 2, .string ⟨#[97, 95, 98]⟩, .bool false, .int .i64 80, .int .i64 1, .string ⟨#[195, 188, 46, 100, 101]⟩, .bool false, .int .i64 80, .int .i64 0, .string ⟨#[195, 188, 46, 100, 101]⟩, .bool true, .int .i64 0, .int .i64 0, .string ⟨#[195, 46, 100, 101]⟩, .bool true, .int .i64 80, .int .i64 0, .string ⟨#[91, 49, 46, 50, 46, 51, 46, 50, 53, 54, 93]⟩, .bool false, .int .i64 82, .int .i64 9, .string ⟨#[91, 48, 49, 46, 50, 46, 51, 46, 52, 93]⟩, .bool false, .int .i64 82, .int .i64 2, .string ⟨#[91, 49, 46, 50, 46, 51, 93]⟩, .bool false, .int .i64 82, .int .i64 6, .string ⟨#[91, 49, 46, 50, 46, 51, 46, 52]⟩, .bool false, .int .i64 82, .int .i64 8, .string ⟨#[91, 105, 112, 118, 54, 58, 58, 58, 49, 93]⟩, .bool false, .int .i64 0, .int .i64 0, .string ⟨#[91, 73, 80, 118, 54, 58, 49, 58, 50, 93]⟩, .bool false, .int .i64 82, .int .i64 9, .string ⟨#[91, 120, 45, 121, 58, 122, 93]⟩, .bool false, .int .i64 0, .int .i64 0, .string ⟨#[91, 120, 45, 58, 122, 93]⟩, .bool false, .int .i64 83, .int .i64 3, .string ⟨#[91, 58, 122, 93]⟩, .bool false, .int .i64 83, .int .i64 1, .string ⟨#[91, 120, 58, 93]⟩, .bool false, .int .i64 83, .int .i64 3]
theorem rowK (k : Nat) (hk : k < 19) : ∃ (s : ByteArray) (b : Bool) (er p : Nat) (q : Ho), cellsK[k * 4]? = some (.string s) ∧ cellsK[k * 4 + 1]? = some (.bool b) ∧ cellsK[k * 4 + 2]? = some (.int .i64 (er : Nat)) ∧ cellsK[k * 4 + 3]? = some (.int .i64 (p : Nat)) ∧ parse s.data.toList b = (q, (er, p)) ∧ decide (q = ho0) = !decide (er = 0) ∧ q.a.length = 16 ∧ s.size ≤ 255 :=
  match k, hk with
  | 0, _ => ⟨⟨#[]⟩, false, 80, 0, (parse [] false).1, rfl, rfl, rfl, rfl, by decide +kernel, by decide +kernel, by decide +kernel, by decide⟩
  | 1, _ => ⟨⟨#[97, 46]⟩, false, 80, 2, (parse [97, 46] false).1, rfl, rfl, rfl, rfl, by decide +kernel, by decide +kernel, by decide +kernel, by decide⟩
  | 2, _ => ⟨⟨#[97, 46, 46, 98]⟩, false, 80, 2, (parse [97, 46, 46, 98] false).1, rfl, rfl, rfl, rfl, by decide +kernel, by decide +kernel, by decide +kernel, by decide⟩
  | 3, _ => ⟨⟨#[45, 97]⟩, false, 80, 0, (parse [45, 97] false).1, rfl, rfl, rfl, rfl, by decide +kernel, by decide +kernel, by decide +kernel, by decide⟩
  | 4, _ => ⟨⟨#[97, 45, 46, 98]⟩, false, 80, 2, (parse [97, 45, 46, 98] false).1, rfl, rfl, rfl, rfl, by decide +kernel, by decide +kernel, by decide +kernel, by decide⟩
  | 5, _ => ⟨⟨#[97, 95, 98]⟩, false, 80, 1, (parse [97, 95, 98] false).1, rfl, rfl, rfl, rfl, by decide +kernel, by decide +kernel, by decide +kernel, by decide⟩
  | 6, _ => ⟨⟨#[195, 188, 46, 100, 101]⟩, false, 80, 0, (parse [195, 188, 46, 100, 101] false).1, rfl, rfl, rfl, rfl, by decide +kernel, by decide +kernel, by decide +kernel, by decide⟩
  | 7, _ => ⟨⟨#[195, 188, 46, 100, 101]⟩, true, 0, 0, (parse [195, 188, 46, 100, 101] true).1, rfl, rfl, rfl, rfl, by decide +kernel, by decide +kernel, by decide +kernel, by decide⟩
  | 8, _ => ⟨⟨#[195, 46, 100, 101]⟩, true, 80, 0, (parse [195, 46, 100, 101] true).1, rfl, rfl, rfl, rfl, by decide +kernel, by decide +kernel, by decide +kernel, by decide⟩
  | 9, _ => ⟨⟨#[91, 49, 46, 50, 46, 51, 46, 50, 53, 54, 93]⟩, false, 82, 9, (parse [91, 49, 46, 50, 46, 51, 46, 50, 53, 54, 93] false).1, rfl, rfl, rfl, rfl, by decide +kernel, by decide +kernel, by decide +kernel, by decide⟩
  | 10, _ => ⟨⟨#[91, 48, 49, 46, 50, 46, 51, 46, 52, 93]⟩, false, 82, 2, (parse [91, 48, 49, 46, 50, 46, 51, 46, 52, 93] false).1, rfl, rfl, rfl, rfl, by decide +kernel, by decide +kernel, by decide +kernel, by decide⟩
  | 11, _ => ⟨⟨#[91, 49, 46, 50, 46, 51, 93]⟩, false, 82, 6, (parse [91, 49, 46, 50, 46, 51, 93] false).1, rfl, rfl, rfl, rfl, by decide +kernel, by decide +kernel, by decide +kernel, by decide⟩
  | 12, _ => ⟨⟨#[91, 49, 46, 50, 46, 51, 46, 52]⟩, false, 82, 8, (parse [91, 49, 46, 50, 46, 51, 46, 52] false).1, rfl, rfl, rfl, rfl, by decide +kernel, by decide +kernel, by decide +kernel, by decide⟩
  | 13, _ => ⟨⟨#[91, 105, 112, 118, 54, 58, 58, 58, 49, 93]⟩, false, 0, 0, (parse [91, 105, 112, 118, 54, 58, 58, 58, 49, 93] false).1, rfl, rfl, rfl, rfl, by decide +kernel, by decide +kernel, by decide +kernel, by decide⟩
  | 14, _ => ⟨⟨#[91, 73, 80, 118, 54, 58, 49, 58, 50, 93]⟩, false, 82, 9, (parse [91, 73, 80, 118, 54, 58, 49, 58, 50, 93] false).1, rfl, rfl, rfl, rfl, by decide +kernel, by decide +kernel, by decide +kernel, by decide⟩
  | 15, _ => ⟨⟨#[91, 120, 45, 121, 58, 122, 93]⟩, false, 0, 0, (parse [91, 120, 45, 121, 58, 122, 93] false).1, rfl, rfl, rfl, rfl, by decide +kernel, by decide +kernel, by decide +kernel, by decide⟩
  | 16, _ => ⟨⟨#[91, 120, 45, 58, 122, 93]⟩, false, 83, 3, (parse [91, 120, 45, 58, 122, 93] false).1, rfl, rfl, rfl, rfl, by decide +kernel, by decide +kernel, by decide +kernel, by decide⟩
  | 17, _ => ⟨⟨#[91, 58, 122, 93]⟩, false, 83, 1, (parse [91, 58, 122, 93] false).1, rfl, rfl, rfl, rfl, by decide +kernel, by decide +kernel, by decide +kernel, by decide⟩
  | 18, _ => ⟨⟨#[91, 120, 58, 93]⟩, false, 83, 3, (parse [91, 120, 58, 93] false).1, rfl, rfl, rfl, rfl, by decide +kernel, by decide +kernel, by decide +kernel, by decide⟩
  | k + 19, h => by omega

set_option maxHeartbeats 16000000 in
set_option maxRecDepth 100000 in
theorem walk (w : World) (ht : Tc w) : Calls Tryz.prog 3 #[] w fun e w' => e = .returned (.bool true) ∧ Below w.heap.size w w' := by
  have HT : Hid (∀ wx, Below w.heap.size w wx → Tc wx) := fun wx hb => ht.below hb
  have HWK := wakes_any w ht
  have HPA : Hid (∀ (t : ByteArray) (b : Bool) (wx : World), t.size ≤ 255 → Below w.heap.size w wx → Calls Tryz.prog 10 #[.string t, .bool b] wx fun e w' => e = .returned (.tuple #[hostV (parse t.data.toList b).1, .agg (spotV (parse t.data.toList b).2)]) ∧ Below wx.heap.size wx w') := fun t b wx st hx => parse_any t b wx (HT.out wx hx).tb (by omega)
  have HAS : Hid (∀ wx, Below w.heap.size w wx → Calls Tryz.prog 11 #[.agg (hostC wideH)] wx fun e w' => e = .returned (.tuple #[.agg (hostC punyH), .int .i64 0]) ∧ Below wx.heap.size wx w') := fun wx hx => by
    have := asc_any wideH wideH_ok wx (HT.out wx hx) (by decide)
    rw [kn1] at this
    exact this
  have HSM : Hid (∀ wx, Below w.heap.size w wx → Calls Tryz.prog 13 #[.agg (hostC wideH), .agg (hostC punyH)] wx fun e w' => e = .returned (.bool true) ∧ Below wx.heap.size wx w') := fun wx hx => by
    have := sme_any wideH punyH wideH_ok punyH_ok wx (HT.out wx hx) (by decide) (by decide)
    rw [kn2] at this
    exact this
  obtain ⟨ZV, hZV⟩ : ∃ ZV : Array Value, ZV = #[.int .u8 0, .int .u8 0, .int .u8 0, .int .u8 0, .int .u8 0, .int .u8 0, .int .u8 0, .int .u8 0, .int .u8 0, .int .u8 0, .int .u8 0, .int .u8 0, .int .u8 0, .int .u8 0, .int .u8 0, .int .u8 0] := ⟨_, rfl⟩
  have HV : ∀ (t : ByteArray) (p : Nat), t.size ≤ 255 → v6 t.data.toList = .error p → Hid (∀ wx, Below w.heap.size w wx → Calls Tryz.prog 12 #[.string t] wx fun e w' => e = .returned (.tuple #[.agg ZV, .agg #[.int .i64 82, .int .i64 (p : Nat)]]) ∧ Below wx.heap.size wx w') := fun t p st hv wx hx => by
    rw [hZV]
    obtain ⟨te, pe, he⟩ := (HT.out wx hx).tb.es
    have := v6_any t te pe wx (HT.out wx hx).tb.cls (HT.out wx hx).tb.gcl he (by omega)
    rw [hv] at this
    exact this
  have HV1 := HV ⟨#[49, 58, 50, 58, 51, 58, 52, 58, 53, 58, 54, 58, 55, 58, 58]⟩ 14 (by decide) kn3
  have HV2 := HV ⟨#[49, 58, 58, 50, 58, 51, 58, 52, 58, 53, 58, 54, 58, 55]⟩ 12 (by decide) kn4
  have HV3 := HV ⟨#[58, 58, 50, 53, 54, 46, 49, 46, 49, 46, 49]⟩ 5 (by decide) kn5
  have o16 : Hid (ZV.all (·.oneCell') = true ∧ (#[.int .u8 0, .int .u8 0, .int .u8 0, .int .u8 0, .int .u8 0, .int .u8 0, .int .u8 0, .int .u8 0, .int .u8 0, .int .u8 0, .int .u8 0, .int .u8 0, .int .u8 0, .int .u8 0, .int .u8 0, .int .u8 0] : Array Value).size = ZV.size) := by rw [hZV]; exact ⟨by simp [Value.oneCell'], rfl⟩
  have i16 : Hid ((Tryz.prog.info? 26).map (·.size) = some ZV.size) := by rw [hZV]; exact info16
  clear HV hZV
  have HWI : ∀ (n : Int) (x y : Ho) (r : Bool) (_ : x.Ok) (_ : y.Ok) (_ : 0 ≤ n) (_ : n ≤ 100) (_ : within x y n = r) (_ : x.n.length ≤ 100) (_ : y.n.length ≤ 100), Hid (∀ wx, Below w.heap.size w wx → Calls Tryz.prog 15 #[.agg (hostC x), .agg (hostC y), .int .i64 n] wx fun e w' => e = .returned (.bool r) ∧ Below wx.heap.size wx w') := fun n x y r okx oky h0 h1 hr lx ly wx hx => by
    have := wth_any x y okx oky n (by omega) (by omega) wx (HT.out wx hx) (by omega) (by omega)
    rw [hr] at this
    exact this
  have HI8 := HWI 8 aH nH true aH_ok nH_ok (by decide) (by decide) kn6.1 (by decide) (by decide)
  have HI9 := HWI 9 aH nH true aH_ok nH_ok (by decide) (by decide) kn6.2.1 (by decide) (by decide)
  have HI16 := HWI 16 aH nH false aH_ok nH_ok (by decide) (by decide) kn6.2.2.1 (by decide) (by decide)
  have HI33 := HWI 33 aH aH false aH_ok aH_ok (by decide) (by decide) kn6.2.2.2 (by decide) (by decide)
  clear HWI
  have HP6 : Hid (∀ wx, Below w.heap.size w wx → Calls Tryz.prog 16 #[.agg #[.int .u8 0, .int .u8 0, .int .u8 0, .int .u8 0, .int .u8 0, .int .u8 0, .int .u8 0, .int .u8 0, .int .u8 0, .int .u8 0, .int .u8 0, .int .u8 0, .int .u8 0, .int .u8 0, .int .u8 0, .int .u8 0]] wx fun e w' => e = .returned (.string ⟨#[58, 58]⟩) ∧ Below wx.heap.size wx w') := fun wx hx => by
    have := printv6_any (List.replicate 16 0) rfl (by decide) wx (HT.out wx hx).tb.t64
    rw [kn7] at this
    exact this
  have HLA : Hid (∀ wx, Below w.heap.size w wx → Calls Tryz.prog 14 #[.int .u8 10, .int .u8 1, .int .u8 2, .int .u8 3] wx fun e w' => e = .returned (.agg (hostC aH)) ∧ Below wx.heap.size wx w') := fun wx _ => lv4_any 10 1 2 3 wx
  have HLN : Hid (∀ wx, Below w.heap.size w wx → Calls Tryz.prog 14 #[.int .u8 10, .int .u8 0, .int .u8 0, .int .u8 0] wx fun e w' => e = .returned (.agg (hostC nH)) ∧ Below wx.heap.size wx w') := fun wx _ => lv4_any 10 0 0 0 wx
  clear ht HT
  go_enter Tryz.func3, Tryz.ntmps3
  go_wp2_with fail
  refine HWK.mono ?_
  rintro e w1 ⟨rfl, b1⟩
  have HB1 : Hid (Below w.heap.size w (w1.alloc (.cells #[.string ⟨#[]⟩, .bool false, .int .i64 80, .int .i64 0, .string ⟨#[97, 46]⟩, .bool false, .int .i64 80, .int .i64 2, .string ⟨#[97, 46, 46, 98]⟩, .bool false, .int .i64 80, .int .i64 2, .string ⟨#[45, 97]⟩, .bool false, .int .i64 80, .int .i64 0, .string ⟨#[97, 45, 46, 98]⟩, .bool false, .int .i64 80, .int .i64 2, .string ⟨#[97, 95, 98]⟩, .bool false, .int .i64 80, .int .i64 1, .string ⟨#[195, 188, 46, 100, 101]⟩, .bool false, .int .i64 80, .int .i64 0, .string ⟨#[195, 188, 46, 100, 101]⟩, .bool true, .int .i64 0, .int .i64 0, .string ⟨#[195, 46, 100, 101]⟩, .bool true, .int .i64 80, .int .i64 0, .string ⟨#[91, 49, 46, 50, 46, 51, 46, 50, 53, 54, 93]⟩, .bool false, .int .i64 82, .int .i64 9, .string ⟨#[91, 48, 49, 46, 50, 46, 51, 46, 52, 93]⟩, .bool false, .int .i64 82, .int .i64 2, .string ⟨#[91, 49, 46, 50, 46, 51, 93]⟩, .bool false, .int .i64 82, .int .i64 6, .string ⟨#[91, 49, 46, 50, 46, 51, 46, 52]⟩, .bool false, .int .i64 82, .int .i64 8, .string ⟨#[91, 105, 112, 118, 54, 58, 58, 58, 49, 93]⟩, .bool false, .int .i64 0, .int .i64 0, .string ⟨#[91, 73, 80, 118, 54, 58, 49, 58, 50, 93]⟩, .bool false, .int .i64 82, .int .i64 9, .string ⟨#[91, 120, 45, 121, 58, 122, 93]⟩, .bool false, .int .i64 0, .int .i64 0, .string ⟨#[91, 120, 45, 58, 122, 93]⟩, .bool false, .int .i64 83, .int .i64 3, .string ⟨#[91, 58, 122, 93]⟩, .bool false, .int .i64 83, .int .i64 1, .string ⟨#[91, 120, 58, 93]⟩, .bool false, .int .i64 83, .int .i64 3] 24))) := b1.alloc b1.size _
  have HL1 : Hid (Lies (w1.alloc (.cells #[.string ⟨#[]⟩, .bool false, .int .i64 80, .int .i64 0, .string ⟨#[97, 46]⟩, .bool false, .int .i64 80, .int .i64 2, .string ⟨#[97, 46, 46, 98]⟩, .bool false, .int .i64 80, .int .i64 2, .string ⟨#[45, 97]⟩, .bool false, .int .i64 80, .int .i64 0, .string ⟨#[97, 45, 46, 98]⟩, .bool false, .int .i64 80, .int .i64 2, .string ⟨#[97, 95, 98]⟩, .bool false, .int .i64 80, .int .i64 1, .string ⟨#[195, 188, 46, 100, 101]⟩, .bool false, .int .i64 80, .int .i64 0, .string ⟨#[195, 188, 46, 100, 101]⟩, .bool true, .int .i64 0, .int .i64 0, .string ⟨#[195, 46, 100, 101]⟩, .bool true, .int .i64 80, .int .i64 0, .string ⟨#[91, 49, 46, 50, 46, 51, 46, 50, 53, 54, 93]⟩, .bool false, .int .i64 82, .int .i64 9, .string ⟨#[91, 48, 49, 46, 50, 46, 51, 46, 52, 93]⟩, .bool false, .int .i64 82, .int .i64 2, .string ⟨#[91, 49, 46, 50, 46, 51, 93]⟩, .bool false, .int .i64 82, .int .i64 6, .string ⟨#[91, 49, 46, 50, 46, 51, 46, 52]⟩, .bool false, .int .i64 82, .int .i64 8, .string ⟨#[91, 105, 112, 118, 54, 58, 58, 58, 49, 93]⟩, .bool false, .int .i64 0, .int .i64 0, .string ⟨#[91, 73, 80, 118, 54, 58, 49, 58, 50, 93]⟩, .bool false, .int .i64 82, .int .i64 9, .string ⟨#[91, 120, 45, 121, 58, 122, 93]⟩, .bool false, .int .i64 0, .int .i64 0, .string ⟨#[91, 120, 45, 58, 122, 93]⟩, .bool false, .int .i64 83, .int .i64 3, .string ⟨#[91, 58, 122, 93]⟩, .bool false, .int .i64 83, .int .i64 1, .string ⟨#[91, 120, 58, 93]⟩, .bool false, .int .i64 83, .int .i64 3] 24)) w1.heap.size cellsK 24) := Lies.new w1 _ _
  clear b1 HWK
  go_upto_region 3 with fail
  go_wp2_with fail
  generalize w1.alloc (.cells #[.string ⟨#[]⟩, .bool false, .int .i64 80, .int .i64 0, .string ⟨#[97, 46]⟩, .bool false, .int .i64 80, .int .i64 2, .string ⟨#[97, 46, 46, 98]⟩, .bool false, .int .i64 80, .int .i64 2, .string ⟨#[45, 97]⟩, .bool false, .int .i64 80, .int .i64 0, .string ⟨#[97, 45, 46, 98]⟩, .bool false, .int .i64 80, .int .i64 2, .string ⟨#[97, 95, 98]⟩, .bool false, .int .i64 80, .int .i64 1, .string ⟨#[195, 188, 46, 100, 101]⟩, .bool false, .int .i64 80, .int .i64 0, .string ⟨#[195, 188, 46, 100, 101]⟩, .bool true, .int .i64 0, .int .i64 0, .string ⟨#[195, 46, 100, 101]⟩, .bool true, .int .i64 80, .int .i64 0, .string ⟨#[91, 49, 46, 50, 46, 51, 46, 50, 53, 54, 93]⟩, .bool false, .int .i64 82, .int .i64 9, .string ⟨#[91, 48, 49, 46, 50, 46, 51, 46, 52, 93]⟩, .bool false, .int .i64 82, .int .i64 2, .string ⟨#[91, 49, 46, 50, 46, 51, 93]⟩, .bool false, .int .i64 82, .int .i64 6, .string ⟨#[91, 49, 46, 50, 46, 51, 46, 52]⟩, .bool false, .int .i64 82, .int .i64 8, .string ⟨#[91, 105, 112, 118, 54, 58, 58, 58, 49, 93]⟩, .bool false, .int .i64 0, .int .i64 0, .string ⟨#[91, 73, 80, 118, 54, 58, 49, 58, 50, 93]⟩, .bool false, .int .i64 82, .int .i64 9, .string ⟨#[91, 120, 45, 121, 58, 122, 93]⟩, .bool false, .int .i64 0, .int .i64 0, .string ⟨#[91, 120, 45, 58, 122, 93]⟩, .bool false, .int .i64 83, .int .i64 3, .string ⟨#[91, 58, 122, 93]⟩, .bool false, .int .i64 83, .int .i64 1, .string ⟨#[91, 120, 58, 93]⟩, .bool false, .int .i64 83, .int .i64 3] 24) = wL at HB1 HL1 ⊢
  generalize w1.heap.size = g1 at HL1 ⊢
  go_loopw [2, 3, 4, 41] (fun _ _ _ kv wr => ∃ k : Nat, kv = .int .i64 k ∧ k ≤ 19 ∧ Hid (Lies wr g1 cellsK 24) ∧ Hid (Below w.heap.size w wr)) (fun _ _ _ kv _ => 19 - (intOf kv).toNat)
  case atStart => exact ⟨0, rfl, by omega, HL1, HB1⟩
  case round =>
    clear HL1 HB1
    obtain ⟨k, rfl, hk, LT, KB⟩ := hrel
    by_cases hk19 : k < 19
    · obtain ⟨s, b, er, p, q, e1, e2, e3, e4, hq, hz, hql, hs⟩ := rowK k hk19
      have hg1 := LT.out.lt
      have c0 := LT.out.cell (k * 4)
      have c1 := LT.out.cell (k * 4 + 1)
      have c2 := LT.out.cell (k * 4 + 2)
      have c3 := LT.out.cell (k * 4 + 3)
      rw [e1] at c0
      rw [e2] at c1
      rw [e3] at c2
      rw [e4] at c3
      have hki : (k : Int) < 19 := by omega
      obtain ⟨VQ, hVQ⟩ : ∃ VQ, VQ = hostC q := ⟨_, rfl⟩
      have HP : Hid (∀ wx, Below w.heap.size w wx → Calls Tryz.prog 10 #[.string s, .bool b] wx fun e w' => e = .returned (.tuple #[.agg VQ, .agg #[.int .i64 (er : Nat), .int .i64 (p : Nat)]]) ∧ Below wx.heap.size wx w') := fun wx hx => by
        have := HPA.out s b wx hs hx
        rw [hq] at this
        rw [hVQ]
        exact this
      have EQ : Hid (VQ = hostC q) := hVQ
      have zq : VQ.size = 18 := by rw [hVQ]; exact hostC_size q hql
      have oq : Hid (VQ.all (·.oneCell') = true ∧ (#[.int .i64 0, .string ⟨#[]⟩, .int .u8 0, .int .u8 0, .int .u8 0, .int .u8 0, .int .u8 0, .int .u8 0, .int .u8 0, .int .u8 0, .int .u8 0, .int .u8 0, .int .u8 0, .int .u8 0, .int .u8 0, .int .u8 0, .int .u8 0, .int .u8 0] : Array Value).size = VQ.size) := ⟨by rw [hVQ]; exact hostC_one q, by rw [zq]; rfl⟩
      obtain ⟨z, hzz⟩ : ∃ z, z = decide (q = ho0) := ⟨_, rfl⟩
      have HZ : Hid (decide (q = ho0) = z) := hzz.symm
      have hez : ((er : Int) != 0) = z := by
        rw [hzz, hz, bne]
        congr 1
        rw [Bool.eq_iff_iff, beq_iff_eq, decide_eq_true_eq]
        omega
      have hzn : (z != z) = false := by cases z <;> rfl
      have L1 : Hid (Lies (wr.alloc (.cells #[.string s, .bool b, .int .i64 (er : Int), .int .i64 (p : Int)] 24)) wr.heap.size #[.string s, .bool b, .int .i64 (er : Int), .int .i64 (p : Int)] 24) := Lies.new wr _ _
      have KA : Hid (Below wr.heap.size wr (wr.alloc (.cells #[.string s, .bool b, .int .i64 (er : Int), .int .i64 (p : Int)] 24))) := (Below.refl _ _).alloc (Nat.le_refl _) _
      have LT2 : Hid (Lies (wr.alloc (.cells #[.string s, .bool b, .int .i64 (er : Int), .int .i64 (p : Int)] 24)) g1 cellsK 24) := LT.out.alloc _
      have KB2 : Hid (Below w.heap.size w (wr.alloc (.cells #[.string s, .bool b, .int .i64 (er : Int), .int .i64 (p : Int)] 24))) := KB.out.trans (KA.out.mono KB.out.size)
      clear hVQ e1 e2 e3 e4 hq hz hzz hs LT KB KA
      go_upto_region 6 with fail
      clear c0 c1 c2 c3 hg1
      generalize wr.alloc (.cells #[.string s, .bool b, .int .i64 (er : Int), .int .i64 (p : Int)] 24) = v0 at L1 LT2 KB2 ⊢
      generalize wr.heap.size = gc at L1 ⊢
      have c0 : v0.cell? ⟨gc, 0, none⟩ = some (.string s) := L1.out.cell 0
      have c1 : v0.cell? ⟨gc, 1, none⟩ = some (.bool b) := L1.out.cell 1
      go_wp2_with fail
      clear c0 c1
      refine Calls.mono (HP.out _ KB2.out) ?_
      rintro e y1 ⟨rfl, hc⟩
      have KB1 : Hid (Below w.heap.size w y1) := KB2.out.trans ((hc).mono KB2.out.size)
      have L1n : Hid (Lies y1 (gc) #[.string s, .bool b, .int .i64 (er : Int), .int .i64 (p : Int)] 24) := L1.out.below (hc) L1.out.lt
      clear L1
      have L1 := L1n
      clear L1n
      have LT2n : Hid (Lies y1 (g1) cellsK 24) := LT2.out.below (hc) LT2.out.lt
      clear LT2
      have LT2 := LT2n
      clear LT2n
      clear KB2
      clear hc
      have A : Hid (Lies ((y1.alloc (.cells #[.int .i64 0, .string ⟨#[]⟩, .int .u8 0, .int .u8 0, .int .u8 0, .int .u8 0, .int .u8 0, .int .u8 0, .int .u8 0, .int .u8 0, .int .u8 0, .int .u8 0, .int .u8 0, .int .u8 0, .int .u8 0, .int .u8 0, .int .u8 0, .int .u8 0] 28)).alloc (.cells #[.int .i64 0, .int .i64 0] 30)) y1.heap.size #[.int .i64 0, .string ⟨#[]⟩, .int .u8 0, .int .u8 0, .int .u8 0, .int .u8 0, .int .u8 0, .int .u8 0, .int .u8 0, .int .u8 0, .int .u8 0, .int .u8 0, .int .u8 0, .int .u8 0, .int .u8 0, .int .u8 0, .int .u8 0, .int .u8 0] 28) := (Lies.new y1 _ _).alloc _
      have B : Hid (Lies ((y1.alloc (.cells #[.int .i64 0, .string ⟨#[]⟩, .int .u8 0, .int .u8 0, .int .u8 0, .int .u8 0, .int .u8 0, .int .u8 0, .int .u8 0, .int .u8 0, .int .u8 0, .int .u8 0, .int .u8 0, .int .u8 0, .int .u8 0, .int .u8 0, .int .u8 0, .int .u8 0] 28)).alloc (.cells #[.int .i64 0, .int .i64 0] 30)) (y1.heap.size + 1) #[.int .i64 0, .int .i64 0] 30) := new_one y1 _ _ _
      have M1 : Hid (Lies ((((y1.alloc (.cells #[.int .i64 0, .string ⟨#[]⟩, .int .u8 0, .int .u8 0, .int .u8 0, .int .u8 0, .int .u8 0, .int .u8 0, .int .u8 0, .int .u8 0, .int .u8 0, .int .u8 0, .int .u8 0, .int .u8 0, .int .u8 0, .int .u8 0, .int .u8 0, .int .u8 0] 28)).alloc (.cells #[.int .i64 0, .int .i64 0] 30)).setRow y1.heap.size VQ).setRow (y1.heap.size + 1) #[.int .i64 (er : Int), .int .i64 (p : Int)]) y1.heap.size VQ 28) := (A.out.row _).row_other (by omega) _
      have N1 : Hid (Lies ((((y1.alloc (.cells #[.int .i64 0, .string ⟨#[]⟩, .int .u8 0, .int .u8 0, .int .u8 0, .int .u8 0, .int .u8 0, .int .u8 0, .int .u8 0, .int .u8 0, .int .u8 0, .int .u8 0, .int .u8 0, .int .u8 0, .int .u8 0, .int .u8 0, .int .u8 0, .int .u8 0] 28)).alloc (.cells #[.int .i64 0, .int .i64 0] 30)).setRow y1.heap.size VQ).setRow (y1.heap.size + 1) #[.int .i64 (er : Int), .int .i64 (p : Int)]) (y1.heap.size + 1) #[.int .i64 (er : Int), .int .i64 (p : Int)] 30) := (B.out.row_other (by omega) _).row _
      have BB : Hid (Below y1.heap.size y1 ((((y1.alloc (.cells #[.int .i64 0, .string ⟨#[]⟩, .int .u8 0, .int .u8 0, .int .u8 0, .int .u8 0, .int .u8 0, .int .u8 0, .int .u8 0, .int .u8 0, .int .u8 0, .int .u8 0, .int .u8 0, .int .u8 0, .int .u8 0, .int .u8 0, .int .u8 0, .int .u8 0] 28)).alloc (.cells #[.int .i64 0, .int .i64 0] 30)).setRow y1.heap.size VQ).setRow (y1.heap.size + 1) #[.int .i64 (er : Int), .int .i64 (p : Int)])) := below_row (below_row (((Below.refl _ _).alloc (Nat.le_refl _) _).alloc (by simp) _) (Nat.le_refl _) _) (by omega) _
      have KB2 : Hid (Below w.heap.size w ((((y1.alloc (.cells #[.int .i64 0, .string ⟨#[]⟩, .int .u8 0, .int .u8 0, .int .u8 0, .int .u8 0, .int .u8 0, .int .u8 0, .int .u8 0, .int .u8 0, .int .u8 0, .int .u8 0, .int .u8 0, .int .u8 0, .int .u8 0, .int .u8 0, .int .u8 0, .int .u8 0] 28)).alloc (.cells #[.int .i64 0, .int .i64 0] 30)).setRow y1.heap.size VQ).setRow (y1.heap.size + 1) #[.int .i64 (er : Int), .int .i64 (p : Int)])) := KB1.out.trans ((BB.out).mono KB1.out.size)
      have L1n : Hid (Lies ((((y1.alloc (.cells #[.int .i64 0, .string ⟨#[]⟩, .int .u8 0, .int .u8 0, .int .u8 0, .int .u8 0, .int .u8 0, .int .u8 0, .int .u8 0, .int .u8 0, .int .u8 0, .int .u8 0, .int .u8 0, .int .u8 0, .int .u8 0, .int .u8 0, .int .u8 0, .int .u8 0] 28)).alloc (.cells #[.int .i64 0, .int .i64 0] 30)).setRow y1.heap.size VQ).setRow (y1.heap.size + 1) #[.int .i64 (er : Int), .int .i64 (p : Int)]) (gc) #[.string s, .bool b, .int .i64 (er : Int), .int .i64 (p : Int)] 24) := L1.out.below (BB.out) L1.out.lt
      clear L1
      have L1 := L1n
      clear L1n
      have LT2n : Hid (Lies ((((y1.alloc (.cells #[.int .i64 0, .string ⟨#[]⟩, .int .u8 0, .int .u8 0, .int .u8 0, .int .u8 0, .int .u8 0, .int .u8 0, .int .u8 0, .int .u8 0, .int .u8 0, .int .u8 0, .int .u8 0, .int .u8 0, .int .u8 0, .int .u8 0, .int .u8 0, .int .u8 0] 28)).alloc (.cells #[.int .i64 0, .int .i64 0] 30)).setRow y1.heap.size VQ).setRow (y1.heap.size + 1) #[.int .i64 (er : Int), .int .i64 (p : Int)]) (g1) cellsK 24) := LT2.out.below (BB.out) LT2.out.lt
      clear LT2
      have LT2 := LT2n
      clear LT2n
      clear KB1
      go_upto_region 7 with (first | (refine wpList_store_row rfl 28 _ _ rfl y1.heap.size rfl _ VQ rfl 28 A.out (by rw [zq]; exact infoHo) oq.out.2 oq.out.1 rfl ?_) | (refine wpList_store_row rfl 30 _ _ rfl (y1.heap.size + 1) rfl _ #[.int .i64 (er : Int), .int .i64 (p : Int)] rfl 30 (B.out.row_other (by omega) _) infoSp rfl (by simp [Value.oneCell']) rfl ?_))
      generalize hv1 : (((y1.alloc (.cells #[.int .i64 0, .string ⟨#[]⟩, .int .u8 0, .int .u8 0, .int .u8 0, .int .u8 0, .int .u8 0, .int .u8 0, .int .u8 0, .int .u8 0, .int .u8 0, .int .u8 0, .int .u8 0, .int .u8 0, .int .u8 0, .int .u8 0, .int .u8 0, .int .u8 0] 28)).alloc (.cells #[.int .i64 0, .int .i64 0] 30)).setRow y1.heap.size VQ).setRow (y1.heap.size + 1) #[.int .i64 (er : Int), .int .i64 (p : Int)] = v1 at M1 N1 KB2 L1 LT2 ⊢
      clear hv1 A B BB
      refine wp_region_late (fun wx => Below v1.heap.size v1 wx) 16 (by kernel_rfl) (Below.refl _ v1).drew (fun hHeld => ?_)
      refine wpAnyE_tk (i := 0) (d := some 53) (v := .agg #[.int .i64 (er : Int), .int .i64 (p : Int)]) rfl (by kernel_rfl) (by kernel_rfl) (by kernel_rfl) rfl (fun _ _ _ h => h) rfl rfl ?hy (by assumption) ?_
      case hy => exact fun w' hSw => exec_load_row 30 _ rfl (y1.heap.size + 1) rfl #[.int .i64 (er : Int), .int .i64 (p : Int)] 30 _ (N1.out.below hSw N1.out.lt) Tryz.underlying30 rfl infoSp
      simp only [Act.put, List.setIfInBounds_toArray, List.set_cons_zero, List.set_cons_succ]
      refine wpAnyE_tk (i := 1) (d := some 54) (v := ?_) rfl (by kernel_rfl) (by kernel_rfl) (by kernel_rfl) rfl (fun _ _ _ h => h) rfl rfl ?hy (by assumption) ?_
      case hy => (intro w' hSw; (try dsimp only at hSw); go_simp <;> (first | with_reducible rfl | omega | skip))
      simp only [Act.put, List.setIfInBounds_toArray, List.set_cons_zero, List.set_cons_succ]
      refine wpAnyE_tk (i := 2) (d := some 55) (v := .int .i64 (er : Nat)) rfl (by kernel_rfl) (by kernel_rfl) (by kernel_rfl) rfl (fun _ _ _ h => h) rfl rfl ?hy (by assumption) ?_
      case hy => 
        intro w' hSw
        (try dsimp only at hSw)
        have cc : w'.cell? ⟨gc, 2, none⟩ = some (.int .i64 (er : Nat)) := by rw [(L1.out.below hSw L1.out.lt).cell 2]; rfl
        go_simp <;> (first | with_reducible rfl | omega | skip)
      simp only [Act.put, List.setIfInBounds_toArray, List.set_cons_zero, List.set_cons_succ]
      refine wpAnyE_tk (i := 3) (d := some 56) (v := ?_) rfl (by kernel_rfl) (by kernel_rfl) (by kernel_rfl) rfl (fun _ _ _ h => h) rfl rfl ?hy (by assumption) ?_
      case hy => (intro w' hSw; (try dsimp only at hSw); go_simp <;> (first | with_reducible rfl | omega | skip))
      simp only [Act.put, List.setIfInBounds_toArray, List.set_cons_zero, List.set_cons_succ]
      refine wpAnyE_tk (i := 4) (d := some 57) (v := .int .i64 (p : Nat)) rfl (by kernel_rfl) (by kernel_rfl) (by kernel_rfl) rfl (fun _ _ _ h => h) rfl rfl ?hy (by assumption) ?_
      case hy => 
        intro w' hSw
        (try dsimp only at hSw)
        have cc : w'.cell? ⟨gc, 3, none⟩ = some (.int .i64 (p : Nat)) := by rw [(L1.out.below hSw L1.out.lt).cell 3]; rfl
        go_simp <;> (first | with_reducible rfl | omega | skip)
      simp only [Act.put, List.setIfInBounds_toArray, List.set_cons_zero, List.set_cons_succ]
      refine wpAnyE_tk (i := 5) (d := some 58) (v := ?_) rfl (by kernel_rfl) (by kernel_rfl) (by kernel_rfl) rfl (fun _ _ _ h => h) rfl rfl ?hy (by assumption) ?_
      case hy => (intro w' hSw; (try dsimp only at hSw); go_simp <;> (first | with_reducible rfl | omega | skip))
      simp only [Act.put, List.setIfInBounds_toArray, List.set_cons_zero, List.set_cons_succ]
      refine wpAnyE_tk (i := 6) (d := some 59) (v := .bool false) rfl (by kernel_rfl) (by kernel_rfl) (by kernel_rfl) rfl (fun _ _ _ h => h) rfl rfl ?hy (by assumption) ?_
      case hy => (intro w' hSw; (try dsimp only at hSw); go_simp <;> (first | with_reducible rfl | omega | (simp; done) | skip))
      simp only [Act.put, List.setIfInBounds_toArray, List.set_cons_zero, List.set_cons_succ]
      refine wpAnyE_tk (i := 7) (d := some 60) (v := ?_) rfl (by kernel_rfl) (by kernel_rfl) (by kernel_rfl) rfl (fun _ _ _ h => h) rfl rfl ?hy (by assumption) ?_
      case hy => (intro w' hSw; (try dsimp only at hSw); go_simp <;> (first | with_reducible rfl | omega | skip))
      simp only [Act.put, List.setIfInBounds_toArray, List.set_cons_zero, List.set_cons_succ]
      refine wpAnyE_tk (i := 8) (d := some 61) (v := .agg VQ) rfl (by kernel_rfl) (by kernel_rfl) (by kernel_rfl) rfl (fun _ _ _ h => h) rfl rfl ?hy (by assumption) ?_
      case hy => exact fun w' hSw => exec_load_row 28 _ rfl (y1.heap.size) rfl VQ 28 _ (M1.out.below hSw M1.out.lt) Tryz.underlying28 rfl (by rw [zq]; exact infoHo)
      simp only [Act.put, List.setIfInBounds_toArray, List.set_cons_zero, List.set_cons_succ]
      refine wpAnyE_tk (i := 9) (d := some 62) (v := hostV ho0) rfl (by kernel_rfl) (by kernel_rfl) (by kernel_rfl) rfl (fun _ _ _ h => h) rfl rfl ?hy (by assumption) ?_
      case hy => (intro w' hSw; (try dsimp only at hSw); go_simp; rfl)
      simp only [Act.put, List.setIfInBounds_toArray, List.set_cons_zero, List.set_cons_succ]
      refine wpAnyE_tk (i := 10) (d := some 63) (v := .bool z) rfl (by kernel_rfl) (by kernel_rfl) (by kernel_rfl) rfl (fun _ _ _ h => h) rfl rfl ?hy (by assumption) ?_
      case hy => 
        intro w' hSw
        (try dsimp only at hSw)
        refine Eq.trans (exec_eql_host _ _ _ rfl q ho0 ?_ ?_ hql rfl) (by rw [HZ.out])
        · (show Value.agg VQ = _; rw [EQ.out]; rfl)
        · rfl
      simp only [Act.put, List.setIfInBounds_toArray, List.set_cons_zero, List.set_cons_succ]
      refine wpAnyE_tk (i := 11) (d := some 64) (v := ?_) rfl (by kernel_rfl) (by kernel_rfl) (by kernel_rfl) rfl (fun _ _ _ h => h) rfl rfl ?hy (by assumption) ?_
      case hy => (intro w' hSw; (try dsimp only at hSw); go_simp <;> (first | with_reducible rfl | omega | skip))
      simp only [Act.put, List.setIfInBounds_toArray, List.set_cons_zero, List.set_cons_succ]
      refine wpAnyE_tk (i := 12) (d := some 65) (v := .int .i64 (er : Nat)) rfl (by kernel_rfl) (by kernel_rfl) (by kernel_rfl) rfl (fun _ _ _ h => h) rfl rfl ?hy (by assumption) ?_
      case hy => 
        intro w' hSw
        (try dsimp only at hSw)
        have cc : w'.cell? ⟨gc, 2, none⟩ = some (.int .i64 (er : Nat)) := by rw [(L1.out.below hSw L1.out.lt).cell 2]; rfl
        go_simp <;> (first | with_reducible rfl | omega | skip)
      simp only [Act.put, List.setIfInBounds_toArray, List.set_cons_zero, List.set_cons_succ]
      refine wpAnyE_tk (i := 13) (d := some 66) (v := .bool z) rfl (by kernel_rfl) (by kernel_rfl) (by kernel_rfl) rfl (fun _ _ _ h => h) rfl rfl ?hy (by assumption) ?_
      case hy => (intro w' hSw; (try dsimp only at hSw); go_simp <;> (first | with_reducible rfl | omega | skip))
      simp only [Act.put, List.setIfInBounds_toArray, List.set_cons_zero, List.set_cons_succ]
      refine wpAnyE_tk (i := 14) (d := some 67) (v := .bool false) rfl (by kernel_rfl) (by kernel_rfl) (by kernel_rfl) rfl (fun _ _ _ h => h) rfl rfl ?hy (by assumption) ?_
      case hy => (intro w' hSw; (try dsimp only at hSw); go_simp <;> (first | with_reducible rfl | omega | skip))
      simp only [Act.put, List.setIfInBounds_toArray, List.set_cons_zero, List.set_cons_succ]
      refine wpAnyE_tk (i := 15) (d := some 68) (v := ?_) rfl (by kernel_rfl) (by kernel_rfl) (by kernel_rfl) rfl (fun _ _ _ h => h) rfl rfl ?hy (by assumption) ?_
      case hy => (intro w' hSw; (try dsimp only at hSw); go_simp <;> (first | with_reducible rfl | omega | skip))
      simp only [Act.put, List.setIfInBounds_toArray, List.set_cons_zero, List.set_cons_succ]
      refine wpAnyE_done (by kernel_rfl) ?_ _
      have KB101 : Hid (Below w.heap.size w v1.drew) := KB2.out.trans (((Below.refl _ v1).drew).mono KB2.out.size)
      have M1n : Hid (Lies v1.drew (y1.heap.size) VQ 28) := M1.out.below ((Below.refl _ v1).drew) M1.out.lt
      clear M1
      have M1 := M1n
      clear M1n
      have N1n : Hid (Lies v1.drew (y1.heap.size + 1) #[.int .i64 (er : Int), .int .i64 (p : Int)] 30) := N1.out.below ((Below.refl _ v1).drew) N1.out.lt
      clear N1
      have N1 := N1n
      clear N1n
      have L1n : Hid (Lies v1.drew (gc) #[.string s, .bool b, .int .i64 (er : Int), .int .i64 (p : Int)] 24) := L1.out.below ((Below.refl _ v1).drew) L1.out.lt
      clear L1
      have L1 := L1n
      clear L1n
      have LT2n : Hid (Lies v1.drew (g1) cellsK 24) := LT2.out.below ((Below.refl _ v1).drew) LT2.out.lt
      clear LT2
      have LT2 := LT2n
      clear LT2n
      have hb101 : Hid (Below v1.heap.size v1 v1.drew) := (Below.refl _ v1).drew
      clear hHeld  KB2
      generalize v1.drew = y101 at KB101 hb101 M1 N1 L1 LT2 ⊢
      go_wp2_with fail
      go_roundw
      case rel => exact ⟨k + 1, by go_num, by omega, LT2, KB101⟩
      case measure => simp [intOf]; omega
    · obtain rfl : k = 19 := by omega
      have hki : ¬ (19 : Int) < 19 := by omega
      have ow : Hid ((hostC wideH).all (·.oneCell') = true ∧ (#[.int .i64 0, .string ⟨#[]⟩, .int .u8 0, .int .u8 0, .int .u8 0, .int .u8 0, .int .u8 0, .int .u8 0, .int .u8 0, .int .u8 0, .int .u8 0, .int .u8 0, .int .u8 0, .int .u8 0, .int .u8 0, .int .u8 0, .int .u8 0, .int .u8 0] : Array Value).size = (hostC wideH).size) := ⟨hostC_one _, rfl⟩
      have op : Hid ((hostC punyH).all (·.oneCell') = true ∧ (#[.int .i64 0, .string ⟨#[]⟩, .int .u8 0, .int .u8 0, .int .u8 0, .int .u8 0, .int .u8 0, .int .u8 0, .int .u8 0, .int .u8 0, .int .u8 0, .int .u8 0, .int .u8 0, .int .u8 0, .int .u8 0, .int .u8 0, .int .u8 0, .int .u8 0] : Array Value).size = (hostC punyH).size) := ⟨hostC_one _, rfl⟩
      go_upto_region 10 with fail
      clear LT hk hki hk19
      have A : Hid (Lies (wr.alloc (.cells #[.int .i64 0, .string ⟨#[]⟩, .int .u8 0, .int .u8 0, .int .u8 0, .int .u8 0, .int .u8 0, .int .u8 0, .int .u8 0, .int .u8 0, .int .u8 0, .int .u8 0, .int .u8 0, .int .u8 0, .int .u8 0, .int .u8 0, .int .u8 0, .int .u8 0] 28)) wr.heap.size #[.int .i64 0, .string ⟨#[]⟩, .int .u8 0, .int .u8 0, .int .u8 0, .int .u8 0, .int .u8 0, .int .u8 0, .int .u8 0, .int .u8 0, .int .u8 0, .int .u8 0, .int .u8 0, .int .u8 0, .int .u8 0, .int .u8 0, .int .u8 0, .int .u8 0] 28) := Lies.new wr _ _
      have M1 : Hid (Lies ((wr.alloc (.cells #[.int .i64 0, .string ⟨#[]⟩, .int .u8 0, .int .u8 0, .int .u8 0, .int .u8 0, .int .u8 0, .int .u8 0, .int .u8 0, .int .u8 0, .int .u8 0, .int .u8 0, .int .u8 0, .int .u8 0, .int .u8 0, .int .u8 0, .int .u8 0, .int .u8 0] 28)).setRow wr.heap.size (hostC wideH)) wr.heap.size (hostC wideH) 28) := A.out.row _
      have BB : Hid (Below wr.heap.size wr ((wr.alloc (.cells #[.int .i64 0, .string ⟨#[]⟩, .int .u8 0, .int .u8 0, .int .u8 0, .int .u8 0, .int .u8 0, .int .u8 0, .int .u8 0, .int .u8 0, .int .u8 0, .int .u8 0, .int .u8 0, .int .u8 0, .int .u8 0, .int .u8 0, .int .u8 0, .int .u8 0] 28)).setRow wr.heap.size (hostC wideH))) := below_row ((Below.refl _ _).alloc (Nat.le_refl _) _) (Nat.le_refl _) _
      have KB1 : Hid (Below w.heap.size w ((wr.alloc (.cells #[.int .i64 0, .string ⟨#[]⟩, .int .u8 0, .int .u8 0, .int .u8 0, .int .u8 0, .int .u8 0, .int .u8 0, .int .u8 0, .int .u8 0, .int .u8 0, .int .u8 0, .int .u8 0, .int .u8 0, .int .u8 0, .int .u8 0, .int .u8 0, .int .u8 0] 28)).setRow wr.heap.size (hostC wideH))) := KB.out.trans ((BB.out).mono KB.out.size)
      clear KB
      go_upto_region 11 with (refine wpList_store_row rfl 28 _ _ rfl wr.heap.size rfl _ (hostC wideH) rfl 28 A.out infoHo ow.out.2 ow.out.1 rfl ?_)
      generalize hv1 : (wr.alloc (.cells #[.int .i64 0, .string ⟨#[]⟩, .int .u8 0, .int .u8 0, .int .u8 0, .int .u8 0, .int .u8 0, .int .u8 0, .int .u8 0, .int .u8 0, .int .u8 0, .int .u8 0, .int .u8 0, .int .u8 0, .int .u8 0, .int .u8 0, .int .u8 0, .int .u8 0] 28)).setRow wr.heap.size (hostC wideH) = v1 at M1 KB1  ⊢
      clear hv1 A BB
      go_wp2_with (first | (refine wpList_load_rowG (by rfl) 28 _ rfl (wr.heap.size) rfl (hostC wideH) 28 _ M1.out Tryz.underlying28 rfl infoHo ?_))
      refine Calls.mono (HAS.out _ KB1.out) ?_
      rintro e y1 ⟨rfl, hc⟩
      have KB2 : Hid (Below w.heap.size w y1) := KB1.out.trans ((hc).mono KB1.out.size)
      have M1n : Hid (Lies y1 (wr.heap.size) (hostC wideH) 28) := M1.out.below (hc) M1.out.lt
      clear M1
      have M1 := M1n
      clear M1n
      clear KB1
      clear hc
      have A : Hid (Lies (y1.alloc (.cells #[.int .i64 0, .string ⟨#[]⟩, .int .u8 0, .int .u8 0, .int .u8 0, .int .u8 0, .int .u8 0, .int .u8 0, .int .u8 0, .int .u8 0, .int .u8 0, .int .u8 0, .int .u8 0, .int .u8 0, .int .u8 0, .int .u8 0, .int .u8 0, .int .u8 0] 28)) y1.heap.size #[.int .i64 0, .string ⟨#[]⟩, .int .u8 0, .int .u8 0, .int .u8 0, .int .u8 0, .int .u8 0, .int .u8 0, .int .u8 0, .int .u8 0, .int .u8 0, .int .u8 0, .int .u8 0, .int .u8 0, .int .u8 0, .int .u8 0, .int .u8 0, .int .u8 0] 28) := Lies.new y1 _ _
      have M2 : Hid (Lies ((y1.alloc (.cells #[.int .i64 0, .string ⟨#[]⟩, .int .u8 0, .int .u8 0, .int .u8 0, .int .u8 0, .int .u8 0, .int .u8 0, .int .u8 0, .int .u8 0, .int .u8 0, .int .u8 0, .int .u8 0, .int .u8 0, .int .u8 0, .int .u8 0, .int .u8 0, .int .u8 0] 28)).setRow y1.heap.size (hostC punyH)) y1.heap.size (hostC punyH) 28) := A.out.row _
      have BB : Hid (Below y1.heap.size y1 ((y1.alloc (.cells #[.int .i64 0, .string ⟨#[]⟩, .int .u8 0, .int .u8 0, .int .u8 0, .int .u8 0, .int .u8 0, .int .u8 0, .int .u8 0, .int .u8 0, .int .u8 0, .int .u8 0, .int .u8 0, .int .u8 0, .int .u8 0, .int .u8 0, .int .u8 0, .int .u8 0] 28)).setRow y1.heap.size (hostC punyH))) := below_row ((Below.refl _ _).alloc (Nat.le_refl _) _) (Nat.le_refl _) _
      have KB3 : Hid (Below w.heap.size w ((y1.alloc (.cells #[.int .i64 0, .string ⟨#[]⟩, .int .u8 0, .int .u8 0, .int .u8 0, .int .u8 0, .int .u8 0, .int .u8 0, .int .u8 0, .int .u8 0, .int .u8 0, .int .u8 0, .int .u8 0, .int .u8 0, .int .u8 0, .int .u8 0, .int .u8 0, .int .u8 0] 28)).setRow y1.heap.size (hostC punyH))) := KB2.out.trans ((BB.out).mono KB2.out.size)
      have M1n : Hid (Lies ((y1.alloc (.cells #[.int .i64 0, .string ⟨#[]⟩, .int .u8 0, .int .u8 0, .int .u8 0, .int .u8 0, .int .u8 0, .int .u8 0, .int .u8 0, .int .u8 0, .int .u8 0, .int .u8 0, .int .u8 0, .int .u8 0, .int .u8 0, .int .u8 0, .int .u8 0, .int .u8 0] 28)).setRow y1.heap.size (hostC punyH)) (wr.heap.size) (hostC wideH) 28) := M1.out.below (BB.out) M1.out.lt
      clear M1
      have M1 := M1n
      clear M1n
      clear KB2
      go_upto_region 12 with (refine wpList_store_row rfl 28 _ _ rfl y1.heap.size rfl _ (hostC punyH) rfl 28 A.out infoHo op.out.2 op.out.1 rfl ?_)
      generalize hv2 : (y1.alloc (.cells #[.int .i64 0, .string ⟨#[]⟩, .int .u8 0, .int .u8 0, .int .u8 0, .int .u8 0, .int .u8 0, .int .u8 0, .int .u8 0, .int .u8 0, .int .u8 0, .int .u8 0, .int .u8 0, .int .u8 0, .int .u8 0, .int .u8 0, .int .u8 0, .int .u8 0] 28)).setRow y1.heap.size (hostC punyH) = v2 at M2 KB3 M1 ⊢
      clear hv2 A BB
      go_wp2_with fail
      refine Calls.mono (HV1.out _ KB3.out) ?_
      rintro e y2 ⟨rfl, hc⟩
      have KB4 : Hid (Below w.heap.size w y2) := KB3.out.trans ((hc).mono KB3.out.size)
      have M1n : Hid (Lies y2 (wr.heap.size) (hostC wideH) 28) := M1.out.below (hc) M1.out.lt
      clear M1
      have M1 := M1n
      clear M1n
      have M2n : Hid (Lies y2 (y1.heap.size) (hostC punyH) 28) := M2.out.below (hc) M2.out.lt
      clear M2
      have M2 := M2n
      clear M2n
      clear KB3
      clear hc
      have A : Hid (Lies ((y2.alloc (.cells #[.int .u8 0, .int .u8 0, .int .u8 0, .int .u8 0, .int .u8 0, .int .u8 0, .int .u8 0, .int .u8 0, .int .u8 0, .int .u8 0, .int .u8 0, .int .u8 0, .int .u8 0, .int .u8 0, .int .u8 0, .int .u8 0] 26)).alloc (.cells #[.int .i64 0, .int .i64 0] 30)) y2.heap.size #[.int .u8 0, .int .u8 0, .int .u8 0, .int .u8 0, .int .u8 0, .int .u8 0, .int .u8 0, .int .u8 0, .int .u8 0, .int .u8 0, .int .u8 0, .int .u8 0, .int .u8 0, .int .u8 0, .int .u8 0, .int .u8 0] 26) := (Lies.new y2 _ _).alloc _
      have B : Hid (Lies ((y2.alloc (.cells #[.int .u8 0, .int .u8 0, .int .u8 0, .int .u8 0, .int .u8 0, .int .u8 0, .int .u8 0, .int .u8 0, .int .u8 0, .int .u8 0, .int .u8 0, .int .u8 0, .int .u8 0, .int .u8 0, .int .u8 0, .int .u8 0] 26)).alloc (.cells #[.int .i64 0, .int .i64 0] 30)) (y2.heap.size + 1) #[.int .i64 0, .int .i64 0] 30) := new_one y2 _ _ _
      have M3 : Hid (Lies ((((y2.alloc (.cells #[.int .u8 0, .int .u8 0, .int .u8 0, .int .u8 0, .int .u8 0, .int .u8 0, .int .u8 0, .int .u8 0, .int .u8 0, .int .u8 0, .int .u8 0, .int .u8 0, .int .u8 0, .int .u8 0, .int .u8 0, .int .u8 0] 26)).alloc (.cells #[.int .i64 0, .int .i64 0] 30)).setRow y2.heap.size ZV).setRow (y2.heap.size + 1) #[.int .i64 82, .int .i64 14]) y2.heap.size ZV 26) := (A.out.row _).row_other (by omega) _
      have N3 : Hid (Lies ((((y2.alloc (.cells #[.int .u8 0, .int .u8 0, .int .u8 0, .int .u8 0, .int .u8 0, .int .u8 0, .int .u8 0, .int .u8 0, .int .u8 0, .int .u8 0, .int .u8 0, .int .u8 0, .int .u8 0, .int .u8 0, .int .u8 0, .int .u8 0] 26)).alloc (.cells #[.int .i64 0, .int .i64 0] 30)).setRow y2.heap.size ZV).setRow (y2.heap.size + 1) #[.int .i64 82, .int .i64 14]) (y2.heap.size + 1) #[.int .i64 82, .int .i64 14] 30) := (B.out.row_other (by omega) _).row _
      have BB : Hid (Below y2.heap.size y2 ((((y2.alloc (.cells #[.int .u8 0, .int .u8 0, .int .u8 0, .int .u8 0, .int .u8 0, .int .u8 0, .int .u8 0, .int .u8 0, .int .u8 0, .int .u8 0, .int .u8 0, .int .u8 0, .int .u8 0, .int .u8 0, .int .u8 0, .int .u8 0] 26)).alloc (.cells #[.int .i64 0, .int .i64 0] 30)).setRow y2.heap.size ZV).setRow (y2.heap.size + 1) #[.int .i64 82, .int .i64 14])) := below_row (below_row (((Below.refl _ _).alloc (Nat.le_refl _) _).alloc (by simp) _) (Nat.le_refl _) _) (by omega) _
      have KB5 : Hid (Below w.heap.size w ((((y2.alloc (.cells #[.int .u8 0, .int .u8 0, .int .u8 0, .int .u8 0, .int .u8 0, .int .u8 0, .int .u8 0, .int .u8 0, .int .u8 0, .int .u8 0, .int .u8 0, .int .u8 0, .int .u8 0, .int .u8 0, .int .u8 0, .int .u8 0] 26)).alloc (.cells #[.int .i64 0, .int .i64 0] 30)).setRow y2.heap.size ZV).setRow (y2.heap.size + 1) #[.int .i64 82, .int .i64 14])) := KB4.out.trans ((BB.out).mono KB4.out.size)
      have M1n : Hid (Lies ((((y2.alloc (.cells #[.int .u8 0, .int .u8 0, .int .u8 0, .int .u8 0, .int .u8 0, .int .u8 0, .int .u8 0, .int .u8 0, .int .u8 0, .int .u8 0, .int .u8 0, .int .u8 0, .int .u8 0, .int .u8 0, .int .u8 0, .int .u8 0] 26)).alloc (.cells #[.int .i64 0, .int .i64 0] 30)).setRow y2.heap.size ZV).setRow (y2.heap.size + 1) #[.int .i64 82, .int .i64 14]) (wr.heap.size) (hostC wideH) 28) := M1.out.below (BB.out) M1.out.lt
      clear M1
      have M1 := M1n
      clear M1n
      have M2n : Hid (Lies ((((y2.alloc (.cells #[.int .u8 0, .int .u8 0, .int .u8 0, .int .u8 0, .int .u8 0, .int .u8 0, .int .u8 0, .int .u8 0, .int .u8 0, .int .u8 0, .int .u8 0, .int .u8 0, .int .u8 0, .int .u8 0, .int .u8 0, .int .u8 0] 26)).alloc (.cells #[.int .i64 0, .int .i64 0] 30)).setRow y2.heap.size ZV).setRow (y2.heap.size + 1) #[.int .i64 82, .int .i64 14]) (y1.heap.size) (hostC punyH) 28) := M2.out.below (BB.out) M2.out.lt
      clear M2
      have M2 := M2n
      clear M2n
      clear KB4
      go_upto_region 13 with (first | (refine wpList_store_row rfl 26 _ _ rfl y2.heap.size rfl _ ZV rfl 26 A.out i16.out o16.out.2 o16.out.1 rfl ?_) | (refine wpList_store_row rfl 30 _ _ rfl (y2.heap.size + 1) rfl _ #[.int .i64 82, .int .i64 14] rfl 30 (B.out.row_other (by omega) _) infoSp rfl (by simp [Value.oneCell']) rfl ?_))
      generalize hv3 : (((y2.alloc (.cells #[.int .u8 0, .int .u8 0, .int .u8 0, .int .u8 0, .int .u8 0, .int .u8 0, .int .u8 0, .int .u8 0, .int .u8 0, .int .u8 0, .int .u8 0, .int .u8 0, .int .u8 0, .int .u8 0, .int .u8 0, .int .u8 0] 26)).alloc (.cells #[.int .i64 0, .int .i64 0] 30)).setRow y2.heap.size ZV).setRow (y2.heap.size + 1) #[.int .i64 82, .int .i64 14] = v3 at M3 N3 KB5 M1 M2 ⊢
      clear hv3 A B BB
      go_wp2_with fail
      refine Calls.mono (HV2.out _ KB5.out) ?_
      rintro e y3 ⟨rfl, hc⟩
      have KB6 : Hid (Below w.heap.size w y3) := KB5.out.trans ((hc).mono KB5.out.size)
      have M1n : Hid (Lies y3 (wr.heap.size) (hostC wideH) 28) := M1.out.below (hc) M1.out.lt
      clear M1
      have M1 := M1n
      clear M1n
      have M2n : Hid (Lies y3 (y1.heap.size) (hostC punyH) 28) := M2.out.below (hc) M2.out.lt
      clear M2
      have M2 := M2n
      clear M2n
      have M3n : Hid (Lies y3 (y2.heap.size) ZV 26) := M3.out.below (hc) M3.out.lt
      clear M3
      have M3 := M3n
      clear M3n
      have N3n : Hid (Lies y3 (y2.heap.size + 1) #[.int .i64 82, .int .i64 14] 30) := N3.out.below (hc) N3.out.lt
      clear N3
      have N3 := N3n
      clear N3n
      clear KB5
      clear hc
      have A : Hid (Lies ((y3.alloc (.cells #[.int .u8 0, .int .u8 0, .int .u8 0, .int .u8 0, .int .u8 0, .int .u8 0, .int .u8 0, .int .u8 0, .int .u8 0, .int .u8 0, .int .u8 0, .int .u8 0, .int .u8 0, .int .u8 0, .int .u8 0, .int .u8 0] 26)).alloc (.cells #[.int .i64 0, .int .i64 0] 30)) y3.heap.size #[.int .u8 0, .int .u8 0, .int .u8 0, .int .u8 0, .int .u8 0, .int .u8 0, .int .u8 0, .int .u8 0, .int .u8 0, .int .u8 0, .int .u8 0, .int .u8 0, .int .u8 0, .int .u8 0, .int .u8 0, .int .u8 0] 26) := (Lies.new y3 _ _).alloc _
      have B : Hid (Lies ((y3.alloc (.cells #[.int .u8 0, .int .u8 0, .int .u8 0, .int .u8 0, .int .u8 0, .int .u8 0, .int .u8 0, .int .u8 0, .int .u8 0, .int .u8 0, .int .u8 0, .int .u8 0, .int .u8 0, .int .u8 0, .int .u8 0, .int .u8 0] 26)).alloc (.cells #[.int .i64 0, .int .i64 0] 30)) (y3.heap.size + 1) #[.int .i64 0, .int .i64 0] 30) := new_one y3 _ _ _
      have M4 : Hid (Lies ((((y3.alloc (.cells #[.int .u8 0, .int .u8 0, .int .u8 0, .int .u8 0, .int .u8 0, .int .u8 0, .int .u8 0, .int .u8 0, .int .u8 0, .int .u8 0, .int .u8 0, .int .u8 0, .int .u8 0, .int .u8 0, .int .u8 0, .int .u8 0] 26)).alloc (.cells #[.int .i64 0, .int .i64 0] 30)).setRow y3.heap.size ZV).setRow (y3.heap.size + 1) #[.int .i64 82, .int .i64 12]) y3.heap.size ZV 26) := (A.out.row _).row_other (by omega) _
      have N4 : Hid (Lies ((((y3.alloc (.cells #[.int .u8 0, .int .u8 0, .int .u8 0, .int .u8 0, .int .u8 0, .int .u8 0, .int .u8 0, .int .u8 0, .int .u8 0, .int .u8 0, .int .u8 0, .int .u8 0, .int .u8 0, .int .u8 0, .int .u8 0, .int .u8 0] 26)).alloc (.cells #[.int .i64 0, .int .i64 0] 30)).setRow y3.heap.size ZV).setRow (y3.heap.size + 1) #[.int .i64 82, .int .i64 12]) (y3.heap.size + 1) #[.int .i64 82, .int .i64 12] 30) := (B.out.row_other (by omega) _).row _
      have BB : Hid (Below y3.heap.size y3 ((((y3.alloc (.cells #[.int .u8 0, .int .u8 0, .int .u8 0, .int .u8 0, .int .u8 0, .int .u8 0, .int .u8 0, .int .u8 0, .int .u8 0, .int .u8 0, .int .u8 0, .int .u8 0, .int .u8 0, .int .u8 0, .int .u8 0, .int .u8 0] 26)).alloc (.cells #[.int .i64 0, .int .i64 0] 30)).setRow y3.heap.size ZV).setRow (y3.heap.size + 1) #[.int .i64 82, .int .i64 12])) := below_row (below_row (((Below.refl _ _).alloc (Nat.le_refl _) _).alloc (by simp) _) (Nat.le_refl _) _) (by omega) _
      have KB7 : Hid (Below w.heap.size w ((((y3.alloc (.cells #[.int .u8 0, .int .u8 0, .int .u8 0, .int .u8 0, .int .u8 0, .int .u8 0, .int .u8 0, .int .u8 0, .int .u8 0, .int .u8 0, .int .u8 0, .int .u8 0, .int .u8 0, .int .u8 0, .int .u8 0, .int .u8 0] 26)).alloc (.cells #[.int .i64 0, .int .i64 0] 30)).setRow y3.heap.size ZV).setRow (y3.heap.size + 1) #[.int .i64 82, .int .i64 12])) := KB6.out.trans ((BB.out).mono KB6.out.size)
      have M1n : Hid (Lies ((((y3.alloc (.cells #[.int .u8 0, .int .u8 0, .int .u8 0, .int .u8 0, .int .u8 0, .int .u8 0, .int .u8 0, .int .u8 0, .int .u8 0, .int .u8 0, .int .u8 0, .int .u8 0, .int .u8 0, .int .u8 0, .int .u8 0, .int .u8 0] 26)).alloc (.cells #[.int .i64 0, .int .i64 0] 30)).setRow y3.heap.size ZV).setRow (y3.heap.size + 1) #[.int .i64 82, .int .i64 12]) (wr.heap.size) (hostC wideH) 28) := M1.out.below (BB.out) M1.out.lt
      clear M1
      have M1 := M1n
      clear M1n
      have M2n : Hid (Lies ((((y3.alloc (.cells #[.int .u8 0, .int .u8 0, .int .u8 0, .int .u8 0, .int .u8 0, .int .u8 0, .int .u8 0, .int .u8 0, .int .u8 0, .int .u8 0, .int .u8 0, .int .u8 0, .int .u8 0, .int .u8 0, .int .u8 0, .int .u8 0] 26)).alloc (.cells #[.int .i64 0, .int .i64 0] 30)).setRow y3.heap.size ZV).setRow (y3.heap.size + 1) #[.int .i64 82, .int .i64 12]) (y1.heap.size) (hostC punyH) 28) := M2.out.below (BB.out) M2.out.lt
      clear M2
      have M2 := M2n
      clear M2n
      have M3n : Hid (Lies ((((y3.alloc (.cells #[.int .u8 0, .int .u8 0, .int .u8 0, .int .u8 0, .int .u8 0, .int .u8 0, .int .u8 0, .int .u8 0, .int .u8 0, .int .u8 0, .int .u8 0, .int .u8 0, .int .u8 0, .int .u8 0, .int .u8 0, .int .u8 0] 26)).alloc (.cells #[.int .i64 0, .int .i64 0] 30)).setRow y3.heap.size ZV).setRow (y3.heap.size + 1) #[.int .i64 82, .int .i64 12]) (y2.heap.size) ZV 26) := M3.out.below (BB.out) M3.out.lt
      clear M3
      have M3 := M3n
      clear M3n
      have N3n : Hid (Lies ((((y3.alloc (.cells #[.int .u8 0, .int .u8 0, .int .u8 0, .int .u8 0, .int .u8 0, .int .u8 0, .int .u8 0, .int .u8 0, .int .u8 0, .int .u8 0, .int .u8 0, .int .u8 0, .int .u8 0, .int .u8 0, .int .u8 0, .int .u8 0] 26)).alloc (.cells #[.int .i64 0, .int .i64 0] 30)).setRow y3.heap.size ZV).setRow (y3.heap.size + 1) #[.int .i64 82, .int .i64 12]) (y2.heap.size + 1) #[.int .i64 82, .int .i64 14] 30) := N3.out.below (BB.out) N3.out.lt
      clear N3
      have N3 := N3n
      clear N3n
      clear KB6
      go_upto_region 14 with (first | (refine wpList_store_row rfl 26 _ _ rfl y3.heap.size rfl _ ZV rfl 26 A.out i16.out o16.out.2 o16.out.1 rfl ?_) | (refine wpList_store_row rfl 30 _ _ rfl (y3.heap.size + 1) rfl _ #[.int .i64 82, .int .i64 12] rfl 30 (B.out.row_other (by omega) _) infoSp rfl (by simp [Value.oneCell']) rfl ?_))
      generalize hv4 : (((y3.alloc (.cells #[.int .u8 0, .int .u8 0, .int .u8 0, .int .u8 0, .int .u8 0, .int .u8 0, .int .u8 0, .int .u8 0, .int .u8 0, .int .u8 0, .int .u8 0, .int .u8 0, .int .u8 0, .int .u8 0, .int .u8 0, .int .u8 0] 26)).alloc (.cells #[.int .i64 0, .int .i64 0] 30)).setRow y3.heap.size ZV).setRow (y3.heap.size + 1) #[.int .i64 82, .int .i64 12] = v4 at M4 N4 KB7 M1 M2 M3 N3 ⊢
      clear hv4 A B BB
      go_wp2_with fail
      refine Calls.mono (HV3.out _ KB7.out) ?_
      rintro e y4 ⟨rfl, hc⟩
      have KB8 : Hid (Below w.heap.size w y4) := KB7.out.trans ((hc).mono KB7.out.size)
      have M1n : Hid (Lies y4 (wr.heap.size) (hostC wideH) 28) := M1.out.below (hc) M1.out.lt
      clear M1
      have M1 := M1n
      clear M1n
      have M2n : Hid (Lies y4 (y1.heap.size) (hostC punyH) 28) := M2.out.below (hc) M2.out.lt
      clear M2
      have M2 := M2n
      clear M2n
      have M3n : Hid (Lies y4 (y2.heap.size) ZV 26) := M3.out.below (hc) M3.out.lt
      clear M3
      have M3 := M3n
      clear M3n
      have N3n : Hid (Lies y4 (y2.heap.size + 1) #[.int .i64 82, .int .i64 14] 30) := N3.out.below (hc) N3.out.lt
      clear N3
      have N3 := N3n
      clear N3n
      have M4n : Hid (Lies y4 (y3.heap.size) ZV 26) := M4.out.below (hc) M4.out.lt
      clear M4
      have M4 := M4n
      clear M4n
      have N4n : Hid (Lies y4 (y3.heap.size + 1) #[.int .i64 82, .int .i64 12] 30) := N4.out.below (hc) N4.out.lt
      clear N4
      have N4 := N4n
      clear N4n
      clear KB7
      clear hc
      have A : Hid (Lies ((y4.alloc (.cells #[.int .u8 0, .int .u8 0, .int .u8 0, .int .u8 0, .int .u8 0, .int .u8 0, .int .u8 0, .int .u8 0, .int .u8 0, .int .u8 0, .int .u8 0, .int .u8 0, .int .u8 0, .int .u8 0, .int .u8 0, .int .u8 0] 26)).alloc (.cells #[.int .i64 0, .int .i64 0] 30)) y4.heap.size #[.int .u8 0, .int .u8 0, .int .u8 0, .int .u8 0, .int .u8 0, .int .u8 0, .int .u8 0, .int .u8 0, .int .u8 0, .int .u8 0, .int .u8 0, .int .u8 0, .int .u8 0, .int .u8 0, .int .u8 0, .int .u8 0] 26) := (Lies.new y4 _ _).alloc _
      have B : Hid (Lies ((y4.alloc (.cells #[.int .u8 0, .int .u8 0, .int .u8 0, .int .u8 0, .int .u8 0, .int .u8 0, .int .u8 0, .int .u8 0, .int .u8 0, .int .u8 0, .int .u8 0, .int .u8 0, .int .u8 0, .int .u8 0, .int .u8 0, .int .u8 0] 26)).alloc (.cells #[.int .i64 0, .int .i64 0] 30)) (y4.heap.size + 1) #[.int .i64 0, .int .i64 0] 30) := new_one y4 _ _ _
      have M5 : Hid (Lies ((((y4.alloc (.cells #[.int .u8 0, .int .u8 0, .int .u8 0, .int .u8 0, .int .u8 0, .int .u8 0, .int .u8 0, .int .u8 0, .int .u8 0, .int .u8 0, .int .u8 0, .int .u8 0, .int .u8 0, .int .u8 0, .int .u8 0, .int .u8 0] 26)).alloc (.cells #[.int .i64 0, .int .i64 0] 30)).setRow y4.heap.size ZV).setRow (y4.heap.size + 1) #[.int .i64 82, .int .i64 5]) y4.heap.size ZV 26) := (A.out.row _).row_other (by omega) _
      have N5 : Hid (Lies ((((y4.alloc (.cells #[.int .u8 0, .int .u8 0, .int .u8 0, .int .u8 0, .int .u8 0, .int .u8 0, .int .u8 0, .int .u8 0, .int .u8 0, .int .u8 0, .int .u8 0, .int .u8 0, .int .u8 0, .int .u8 0, .int .u8 0, .int .u8 0] 26)).alloc (.cells #[.int .i64 0, .int .i64 0] 30)).setRow y4.heap.size ZV).setRow (y4.heap.size + 1) #[.int .i64 82, .int .i64 5]) (y4.heap.size + 1) #[.int .i64 82, .int .i64 5] 30) := (B.out.row_other (by omega) _).row _
      have BB : Hid (Below y4.heap.size y4 ((((y4.alloc (.cells #[.int .u8 0, .int .u8 0, .int .u8 0, .int .u8 0, .int .u8 0, .int .u8 0, .int .u8 0, .int .u8 0, .int .u8 0, .int .u8 0, .int .u8 0, .int .u8 0, .int .u8 0, .int .u8 0, .int .u8 0, .int .u8 0] 26)).alloc (.cells #[.int .i64 0, .int .i64 0] 30)).setRow y4.heap.size ZV).setRow (y4.heap.size + 1) #[.int .i64 82, .int .i64 5])) := below_row (below_row (((Below.refl _ _).alloc (Nat.le_refl _) _).alloc (by simp) _) (Nat.le_refl _) _) (by omega) _
      have KB9 : Hid (Below w.heap.size w ((((y4.alloc (.cells #[.int .u8 0, .int .u8 0, .int .u8 0, .int .u8 0, .int .u8 0, .int .u8 0, .int .u8 0, .int .u8 0, .int .u8 0, .int .u8 0, .int .u8 0, .int .u8 0, .int .u8 0, .int .u8 0, .int .u8 0, .int .u8 0] 26)).alloc (.cells #[.int .i64 0, .int .i64 0] 30)).setRow y4.heap.size ZV).setRow (y4.heap.size + 1) #[.int .i64 82, .int .i64 5])) := KB8.out.trans ((BB.out).mono KB8.out.size)
      have M1n : Hid (Lies ((((y4.alloc (.cells #[.int .u8 0, .int .u8 0, .int .u8 0, .int .u8 0, .int .u8 0, .int .u8 0, .int .u8 0, .int .u8 0, .int .u8 0, .int .u8 0, .int .u8 0, .int .u8 0, .int .u8 0, .int .u8 0, .int .u8 0, .int .u8 0] 26)).alloc (.cells #[.int .i64 0, .int .i64 0] 30)).setRow y4.heap.size ZV).setRow (y4.heap.size + 1) #[.int .i64 82, .int .i64 5]) (wr.heap.size) (hostC wideH) 28) := M1.out.below (BB.out) M1.out.lt
      clear M1
      have M1 := M1n
      clear M1n
      have M2n : Hid (Lies ((((y4.alloc (.cells #[.int .u8 0, .int .u8 0, .int .u8 0, .int .u8 0, .int .u8 0, .int .u8 0, .int .u8 0, .int .u8 0, .int .u8 0, .int .u8 0, .int .u8 0, .int .u8 0, .int .u8 0, .int .u8 0, .int .u8 0, .int .u8 0] 26)).alloc (.cells #[.int .i64 0, .int .i64 0] 30)).setRow y4.heap.size ZV).setRow (y4.heap.size + 1) #[.int .i64 82, .int .i64 5]) (y1.heap.size) (hostC punyH) 28) := M2.out.below (BB.out) M2.out.lt
      clear M2
      have M2 := M2n
      clear M2n
      have M3n : Hid (Lies ((((y4.alloc (.cells #[.int .u8 0, .int .u8 0, .int .u8 0, .int .u8 0, .int .u8 0, .int .u8 0, .int .u8 0, .int .u8 0, .int .u8 0, .int .u8 0, .int .u8 0, .int .u8 0, .int .u8 0, .int .u8 0, .int .u8 0, .int .u8 0] 26)).alloc (.cells #[.int .i64 0, .int .i64 0] 30)).setRow y4.heap.size ZV).setRow (y4.heap.size + 1) #[.int .i64 82, .int .i64 5]) (y2.heap.size) ZV 26) := M3.out.below (BB.out) M3.out.lt
      clear M3
      have M3 := M3n
      clear M3n
      have N3n : Hid (Lies ((((y4.alloc (.cells #[.int .u8 0, .int .u8 0, .int .u8 0, .int .u8 0, .int .u8 0, .int .u8 0, .int .u8 0, .int .u8 0, .int .u8 0, .int .u8 0, .int .u8 0, .int .u8 0, .int .u8 0, .int .u8 0, .int .u8 0, .int .u8 0] 26)).alloc (.cells #[.int .i64 0, .int .i64 0] 30)).setRow y4.heap.size ZV).setRow (y4.heap.size + 1) #[.int .i64 82, .int .i64 5]) (y2.heap.size + 1) #[.int .i64 82, .int .i64 14] 30) := N3.out.below (BB.out) N3.out.lt
      clear N3
      have N3 := N3n
      clear N3n
      have M4n : Hid (Lies ((((y4.alloc (.cells #[.int .u8 0, .int .u8 0, .int .u8 0, .int .u8 0, .int .u8 0, .int .u8 0, .int .u8 0, .int .u8 0, .int .u8 0, .int .u8 0, .int .u8 0, .int .u8 0, .int .u8 0, .int .u8 0, .int .u8 0, .int .u8 0] 26)).alloc (.cells #[.int .i64 0, .int .i64 0] 30)).setRow y4.heap.size ZV).setRow (y4.heap.size + 1) #[.int .i64 82, .int .i64 5]) (y3.heap.size) ZV 26) := M4.out.below (BB.out) M4.out.lt
      clear M4
      have M4 := M4n
      clear M4n
      have N4n : Hid (Lies ((((y4.alloc (.cells #[.int .u8 0, .int .u8 0, .int .u8 0, .int .u8 0, .int .u8 0, .int .u8 0, .int .u8 0, .int .u8 0, .int .u8 0, .int .u8 0, .int .u8 0, .int .u8 0, .int .u8 0, .int .u8 0, .int .u8 0, .int .u8 0] 26)).alloc (.cells #[.int .i64 0, .int .i64 0] 30)).setRow y4.heap.size ZV).setRow (y4.heap.size + 1) #[.int .i64 82, .int .i64 5]) (y3.heap.size + 1) #[.int .i64 82, .int .i64 12] 30) := N4.out.below (BB.out) N4.out.lt
      clear N4
      have N4 := N4n
      clear N4n
      clear KB8
      go_upto_region 15 with (first | (refine wpList_store_row rfl 26 _ _ rfl y4.heap.size rfl _ ZV rfl 26 A.out i16.out o16.out.2 o16.out.1 rfl ?_) | (refine wpList_store_row rfl 30 _ _ rfl (y4.heap.size + 1) rfl _ #[.int .i64 82, .int .i64 5] rfl 30 (B.out.row_other (by omega) _) infoSp rfl (by simp [Value.oneCell']) rfl ?_))
      generalize hv5 : (((y4.alloc (.cells #[.int .u8 0, .int .u8 0, .int .u8 0, .int .u8 0, .int .u8 0, .int .u8 0, .int .u8 0, .int .u8 0, .int .u8 0, .int .u8 0, .int .u8 0, .int .u8 0, .int .u8 0, .int .u8 0, .int .u8 0, .int .u8 0] 26)).alloc (.cells #[.int .i64 0, .int .i64 0] 30)).setRow y4.heap.size ZV).setRow (y4.heap.size + 1) #[.int .i64 82, .int .i64 5] = v5 at M5 N5 KB9 M1 M2 M3 N3 M4 N4 ⊢
      clear hv5 A B BB
      refine wp_region_lit ?_
      refine wpList_yieldG ?_ (by rfl) ?hy ?_
      case hy => (go_simp <;> (first | with_reducible rfl | omega | skip))
      simp only [Act.put, List.setIfInBounds_toArray, List.set_cons_zero, List.set_cons_succ]
      refine wpList_yieldG (.bool false) (by rfl) ?hy ?_
      case hy => (go_simp <;> (first | with_reducible rfl | omega | skip))
      simp only [Act.put, List.setIfInBounds_toArray, List.set_cons_zero, List.set_cons_succ]
      refine wpList_yieldG (.bool false) (by rfl) ?hy ?_
      case hy => (go_simp <;> (first | with_reducible rfl | omega | skip))
      simp only [Act.put, List.setIfInBounds_toArray, List.set_cons_zero, List.set_cons_succ]
      refine wpList_yieldG ?_ (by rfl) ?hy ?_
      case hy => (go_simp <;> (first | with_reducible rfl | omega | skip))
      simp only [Act.put, List.setIfInBounds_toArray, List.set_cons_zero, List.set_cons_succ]
      refine wpList_yieldG (.string ⟨#[120, 110, 45, 45, 98, 99, 104, 101, 114, 45, 107, 118, 97, 46, 100, 101]⟩) (by rfl) ?hy ?_
      case hy => 
        have cc : v5.cell? ⟨y1.heap.size, 1, none⟩ = some (.string ⟨#[120, 110, 45, 45, 98, 99, 104, 101, 114, 45, 107, 118, 97, 46, 100, 101]⟩) := M2.out.cell 1
        go_simp <;> (first | with_reducible rfl | omega | skip)
      simp only [Act.put, List.setIfInBounds_toArray, List.set_cons_zero, List.set_cons_succ]
      refine wpList_yieldG (.bool false) (by rfl) ?hy ?_
      case hy => (go_simp <;> (first | with_reducible rfl | decide | skip))
      simp only [Act.put, List.setIfInBounds_toArray, List.set_cons_zero, List.set_cons_succ]
      refine wpList_yieldG (.bool false) (by rfl) ?hy ?_
      case hy => (go_simp <;> (first | with_reducible rfl | omega | skip))
      simp only [Act.put, List.setIfInBounds_toArray, List.set_cons_zero, List.set_cons_succ]
      refine wpList_yieldG (.bool false) (by rfl) ?hy ?_
      case hy => (go_simp <;> (first | with_reducible rfl | omega | skip))
      simp only [Act.put, List.setIfInBounds_toArray, List.set_cons_zero, List.set_cons_succ]
      refine wpList_load_rowG (by rfl) 28 _ rfl (wr.heap.size) rfl (hostC wideH) 28 _ M1.out Tryz.underlying28 rfl infoHo ?_
      simp only [Act.put, List.setIfInBounds_toArray, List.set_cons_zero, List.set_cons_succ]
      refine wpList_load_rowG (by rfl) 28 _ rfl (y1.heap.size) rfl (hostC punyH) 28 _ M2.out Tryz.underlying28 rfl infoHo ?_
      simp only [Act.put, List.setIfInBounds_toArray, List.set_cons_zero, List.set_cons_succ]
      refine wpList_onG (by rfl) ?_
      go_simp
      refine Calls.mono (HSM.out _ KB9.out) ?_
      rintro e y501 ⟨rfl, hc501⟩
      have hb501 : Hid (Below v5.heap.size v5 y501) := hc501
      have KB501 : Hid (Below w.heap.size w y501) := KB9.out.trans ((hc501).mono KB9.out.size)
      have M1n : Hid (Lies y501 (wr.heap.size) (hostC wideH) 28) := M1.out.below (hc501) M1.out.lt
      clear M1
      have M1 := M1n
      clear M1n
      have M2n : Hid (Lies y501 (y1.heap.size) (hostC punyH) 28) := M2.out.below (hc501) M2.out.lt
      clear M2
      have M2 := M2n
      clear M2n
      have N3n : Hid (Lies y501 (y2.heap.size + 1) #[.int .i64 82, .int .i64 14] 30) := N3.out.below (hc501) N3.out.lt
      clear N3
      have N3 := N3n
      clear N3n
      have N4n : Hid (Lies y501 (y3.heap.size + 1) #[.int .i64 82, .int .i64 12] 30) := N4.out.below (hc501) N4.out.lt
      clear N4
      have N4 := N4n
      clear N4n
      have N5n : Hid (Lies y501 (y4.heap.size + 1) #[.int .i64 82, .int .i64 5] 30) := N5.out.below (hc501) N5.out.lt
      clear N5
      have N5 := N5n
      clear N5n
      clear KB9
      clear hc501
      refine wpList_yieldG (.bool false) (by rfl) ?hy ?_
      case hy => (go_simp <;> (first | with_reducible rfl | omega | skip))
      simp only [Act.put, List.setIfInBounds_toArray, List.set_cons_zero, List.set_cons_succ]
      refine wpList_yieldG (.bool false) (by rfl) ?hy ?_
      case hy => (go_simp <;> (first | with_reducible rfl | omega | skip))
      simp only [Act.put, List.setIfInBounds_toArray, List.set_cons_zero, List.set_cons_succ]
      refine wpList_yieldG (.bool false) (by rfl) ?hy ?_
      case hy => (go_simp <;> (first | with_reducible rfl | omega | skip))
      simp only [Act.put, List.setIfInBounds_toArray, List.set_cons_zero, List.set_cons_succ]
      refine wpList_yieldG ?_ (by rfl) ?hy ?_
      case hy => (go_simp <;> (first | with_reducible rfl | omega | skip))
      simp only [Act.put, List.setIfInBounds_toArray, List.set_cons_zero, List.set_cons_succ]
      refine wpList_yieldG (.int .i64 14) (by rfl) ?hy ?_
      case hy => 
        have cc : y501.cell? ⟨y2.heap.size + 1, 1, none⟩ = some (.int .i64 14) := N3.out.cell 1
        go_simp <;> (first | with_reducible rfl | omega | skip)
      simp only [Act.put, List.setIfInBounds_toArray, List.set_cons_zero, List.set_cons_succ]
      refine wpList_yieldG (.bool false) (by rfl) ?hy ?_
      case hy => (go_simp <;> (first | with_reducible rfl | omega | skip))
      simp only [Act.put, List.setIfInBounds_toArray, List.set_cons_zero, List.set_cons_succ]
      refine wpList_yieldG (.bool false) (by rfl) ?hy ?_
      case hy => (go_simp <;> (first | with_reducible rfl | omega | skip))
      simp only [Act.put, List.setIfInBounds_toArray, List.set_cons_zero, List.set_cons_succ]
      refine wpList_yieldG (.bool false) (by rfl) ?hy ?_
      case hy => (go_simp <;> (first | with_reducible rfl | omega | skip))
      simp only [Act.put, List.setIfInBounds_toArray, List.set_cons_zero, List.set_cons_succ]
      refine wpList_yieldG ?_ (by rfl) ?hy ?_
      case hy => (go_simp <;> (first | with_reducible rfl | omega | skip))
      simp only [Act.put, List.setIfInBounds_toArray, List.set_cons_zero, List.set_cons_succ]
      refine wpList_yieldG (.int .i64 12) (by rfl) ?hy ?_
      case hy => 
        have cc : y501.cell? ⟨y3.heap.size + 1, 1, none⟩ = some (.int .i64 12) := N4.out.cell 1
        go_simp <;> (first | with_reducible rfl | omega | skip)
      simp only [Act.put, List.setIfInBounds_toArray, List.set_cons_zero, List.set_cons_succ]
      refine wpList_yieldG (.bool false) (by rfl) ?hy ?_
      case hy => (go_simp <;> (first | with_reducible rfl | omega | skip))
      simp only [Act.put, List.setIfInBounds_toArray, List.set_cons_zero, List.set_cons_succ]
      refine wpList_yieldG (.bool false) (by rfl) ?hy ?_
      case hy => (go_simp <;> (first | with_reducible rfl | omega | skip))
      simp only [Act.put, List.setIfInBounds_toArray, List.set_cons_zero, List.set_cons_succ]
      refine wpList_yieldG (.bool false) (by rfl) ?hy ?_
      case hy => (go_simp <;> (first | with_reducible rfl | omega | skip))
      simp only [Act.put, List.setIfInBounds_toArray, List.set_cons_zero, List.set_cons_succ]
      refine wpList_yieldG ?_ (by rfl) ?hy ?_
      case hy => (go_simp <;> (first | with_reducible rfl | omega | skip))
      simp only [Act.put, List.setIfInBounds_toArray, List.set_cons_zero, List.set_cons_succ]
      refine wpList_yieldG (.int .i64 5) (by rfl) ?hy ?_
      case hy => 
        have cc : y501.cell? ⟨y4.heap.size + 1, 1, none⟩ = some (.int .i64 5) := N5.out.cell 1
        go_simp <;> (first | with_reducible rfl | omega | skip)
      simp only [Act.put, List.setIfInBounds_toArray, List.set_cons_zero, List.set_cons_succ]
      refine wpList_yieldG (.bool false) (by rfl) ?hy ?_
      case hy => (go_simp <;> (first | with_reducible rfl | omega | skip))
      simp only [Act.put, List.setIfInBounds_toArray, List.set_cons_zero, List.set_cons_succ]
      refine wpList_yieldG (.bool false) (by rfl) ?hy ?_
      case hy => (go_simp <;> (first | with_reducible rfl | omega | skip))
      simp only [Act.put, List.setIfInBounds_toArray, List.set_cons_zero, List.set_cons_succ]
      refine wpList_nil ?_
      have oa : Hid ((hostC aH).all (·.oneCell') = true ∧ (#[.int .i64 0, .string ⟨#[]⟩, .int .u8 0, .int .u8 0, .int .u8 0, .int .u8 0, .int .u8 0, .int .u8 0, .int .u8 0, .int .u8 0, .int .u8 0, .int .u8 0, .int .u8 0, .int .u8 0, .int .u8 0, .int .u8 0, .int .u8 0, .int .u8 0] : Array Value).size = (hostC aH).size) := ⟨hostC_one _, rfl⟩
      have on : Hid ((hostC nH).all (·.oneCell') = true ∧ (#[.int .i64 0, .string ⟨#[]⟩, .int .u8 0, .int .u8 0, .int .u8 0, .int .u8 0, .int .u8 0, .int .u8 0, .int .u8 0, .int .u8 0, .int .u8 0, .int .u8 0, .int .u8 0, .int .u8 0, .int .u8 0, .int .u8 0, .int .u8 0, .int .u8 0] : Array Value).size = (hostC nH).size) := ⟨hostC_one _, rfl⟩
      go_upto_region 17 with fail
      clear M1 M2 M3 M4 M5 N3 N4 N5
      go_wp2_with fail
      refine Calls.mono (HLA.out _ KB501.out) ?_
      rintro e z1 ⟨rfl, hc⟩
      have KB801 : Hid (Below w.heap.size w z1) := KB501.out.trans ((hc).mono KB501.out.size)
      clear KB501
      clear hc
      go_wp2_with fail
      refine Calls.mono (HLN.out _ KB801.out) ?_
      rintro e z2 ⟨rfl, hc⟩
      have KB802 : Hid (Below w.heap.size w z2) := KB801.out.trans ((hc).mono KB801.out.size)
      clear KB801
      clear hc
      have A : Hid (Lies ((z2.alloc (.cells #[.int .i64 0, .string ⟨#[]⟩, .int .u8 0, .int .u8 0, .int .u8 0, .int .u8 0, .int .u8 0, .int .u8 0, .int .u8 0, .int .u8 0, .int .u8 0, .int .u8 0, .int .u8 0, .int .u8 0, .int .u8 0, .int .u8 0, .int .u8 0, .int .u8 0] 28)).alloc (.cells #[.int .i64 0, .string ⟨#[]⟩, .int .u8 0, .int .u8 0, .int .u8 0, .int .u8 0, .int .u8 0, .int .u8 0, .int .u8 0, .int .u8 0, .int .u8 0, .int .u8 0, .int .u8 0, .int .u8 0, .int .u8 0, .int .u8 0, .int .u8 0, .int .u8 0] 28)) z2.heap.size #[.int .i64 0, .string ⟨#[]⟩, .int .u8 0, .int .u8 0, .int .u8 0, .int .u8 0, .int .u8 0, .int .u8 0, .int .u8 0, .int .u8 0, .int .u8 0, .int .u8 0, .int .u8 0, .int .u8 0, .int .u8 0, .int .u8 0, .int .u8 0, .int .u8 0] 28) := (Lies.new z2 _ _).alloc _
      have B : Hid (Lies ((z2.alloc (.cells #[.int .i64 0, .string ⟨#[]⟩, .int .u8 0, .int .u8 0, .int .u8 0, .int .u8 0, .int .u8 0, .int .u8 0, .int .u8 0, .int .u8 0, .int .u8 0, .int .u8 0, .int .u8 0, .int .u8 0, .int .u8 0, .int .u8 0, .int .u8 0, .int .u8 0] 28)).alloc (.cells #[.int .i64 0, .string ⟨#[]⟩, .int .u8 0, .int .u8 0, .int .u8 0, .int .u8 0, .int .u8 0, .int .u8 0, .int .u8 0, .int .u8 0, .int .u8 0, .int .u8 0, .int .u8 0, .int .u8 0, .int .u8 0, .int .u8 0, .int .u8 0, .int .u8 0] 28)) (z2.heap.size + 1) #[.int .i64 0, .string ⟨#[]⟩, .int .u8 0, .int .u8 0, .int .u8 0, .int .u8 0, .int .u8 0, .int .u8 0, .int .u8 0, .int .u8 0, .int .u8 0, .int .u8 0, .int .u8 0, .int .u8 0, .int .u8 0, .int .u8 0, .int .u8 0, .int .u8 0] 28) := new_one z2 _ _ _
      have P1 : Hid (Lies ((((z2.alloc (.cells #[.int .i64 0, .string ⟨#[]⟩, .int .u8 0, .int .u8 0, .int .u8 0, .int .u8 0, .int .u8 0, .int .u8 0, .int .u8 0, .int .u8 0, .int .u8 0, .int .u8 0, .int .u8 0, .int .u8 0, .int .u8 0, .int .u8 0, .int .u8 0, .int .u8 0] 28)).alloc (.cells #[.int .i64 0, .string ⟨#[]⟩, .int .u8 0, .int .u8 0, .int .u8 0, .int .u8 0, .int .u8 0, .int .u8 0, .int .u8 0, .int .u8 0, .int .u8 0, .int .u8 0, .int .u8 0, .int .u8 0, .int .u8 0, .int .u8 0, .int .u8 0, .int .u8 0] 28)).setRow z2.heap.size (hostC aH)).setRow (z2.heap.size + 1) (hostC nH)) z2.heap.size (hostC aH) 28) := (A.out.row _).row_other (by omega) _
      have P2 : Hid (Lies ((((z2.alloc (.cells #[.int .i64 0, .string ⟨#[]⟩, .int .u8 0, .int .u8 0, .int .u8 0, .int .u8 0, .int .u8 0, .int .u8 0, .int .u8 0, .int .u8 0, .int .u8 0, .int .u8 0, .int .u8 0, .int .u8 0, .int .u8 0, .int .u8 0, .int .u8 0, .int .u8 0] 28)).alloc (.cells #[.int .i64 0, .string ⟨#[]⟩, .int .u8 0, .int .u8 0, .int .u8 0, .int .u8 0, .int .u8 0, .int .u8 0, .int .u8 0, .int .u8 0, .int .u8 0, .int .u8 0, .int .u8 0, .int .u8 0, .int .u8 0, .int .u8 0, .int .u8 0, .int .u8 0] 28)).setRow z2.heap.size (hostC aH)).setRow (z2.heap.size + 1) (hostC nH)) (z2.heap.size + 1) (hostC nH) 28) := (B.out.row_other (by omega) _).row _
      have BB : Hid (Below z2.heap.size z2 ((((z2.alloc (.cells #[.int .i64 0, .string ⟨#[]⟩, .int .u8 0, .int .u8 0, .int .u8 0, .int .u8 0, .int .u8 0, .int .u8 0, .int .u8 0, .int .u8 0, .int .u8 0, .int .u8 0, .int .u8 0, .int .u8 0, .int .u8 0, .int .u8 0, .int .u8 0, .int .u8 0] 28)).alloc (.cells #[.int .i64 0, .string ⟨#[]⟩, .int .u8 0, .int .u8 0, .int .u8 0, .int .u8 0, .int .u8 0, .int .u8 0, .int .u8 0, .int .u8 0, .int .u8 0, .int .u8 0, .int .u8 0, .int .u8 0, .int .u8 0, .int .u8 0, .int .u8 0, .int .u8 0] 28)).setRow z2.heap.size (hostC aH)).setRow (z2.heap.size + 1) (hostC nH))) := below_row (below_row (((Below.refl _ _).alloc (Nat.le_refl _) _).alloc (by simp) _) (Nat.le_refl _) _) (by omega) _
      have KB803 : Hid (Below w.heap.size w ((((z2.alloc (.cells #[.int .i64 0, .string ⟨#[]⟩, .int .u8 0, .int .u8 0, .int .u8 0, .int .u8 0, .int .u8 0, .int .u8 0, .int .u8 0, .int .u8 0, .int .u8 0, .int .u8 0, .int .u8 0, .int .u8 0, .int .u8 0, .int .u8 0, .int .u8 0, .int .u8 0] 28)).alloc (.cells #[.int .i64 0, .string ⟨#[]⟩, .int .u8 0, .int .u8 0, .int .u8 0, .int .u8 0, .int .u8 0, .int .u8 0, .int .u8 0, .int .u8 0, .int .u8 0, .int .u8 0, .int .u8 0, .int .u8 0, .int .u8 0, .int .u8 0, .int .u8 0, .int .u8 0] 28)).setRow z2.heap.size (hostC aH)).setRow (z2.heap.size + 1) (hostC nH))) := KB802.out.trans ((BB.out).mono KB802.out.size)
      clear KB802
      go_upto_region 18 with (first | (refine wpList_store_row rfl 28 _ _ rfl z2.heap.size rfl _ (hostC aH) rfl 28 A.out infoHo oa.out.2 oa.out.1 rfl ?_) | (refine wpList_store_row rfl 28 _ _ rfl (z2.heap.size + 1) rfl _ (hostC nH) rfl 28 (B.out.row_other (by omega) _) infoHo on.out.2 on.out.1 rfl ?_))
      generalize hvz : (((z2.alloc (.cells #[.int .i64 0, .string ⟨#[]⟩, .int .u8 0, .int .u8 0, .int .u8 0, .int .u8 0, .int .u8 0, .int .u8 0, .int .u8 0, .int .u8 0, .int .u8 0, .int .u8 0, .int .u8 0, .int .u8 0, .int .u8 0, .int .u8 0, .int .u8 0, .int .u8 0] 28)).alloc (.cells #[.int .i64 0, .string ⟨#[]⟩, .int .u8 0, .int .u8 0, .int .u8 0, .int .u8 0, .int .u8 0, .int .u8 0, .int .u8 0, .int .u8 0, .int .u8 0, .int .u8 0, .int .u8 0, .int .u8 0, .int .u8 0, .int .u8 0, .int .u8 0, .int .u8 0] 28)).setRow z2.heap.size (hostC aH)).setRow (z2.heap.size + 1) (hostC nH) = vz at P1 P2 KB803 ⊢
      clear hvz A B BB
      refine wp_region_lit ?_
      refine wpList_load_rowG (by rfl) 28 _ rfl (z2.heap.size) rfl (hostC aH) 28 _ P1.out Tryz.underlying28 rfl infoHo ?_
      simp only [Act.put, List.setIfInBounds_toArray, List.set_cons_zero, List.set_cons_succ]
      refine wpList_load_rowG (by rfl) 28 _ rfl (z2.heap.size + 1) rfl (hostC nH) 28 _ P2.out Tryz.underlying28 rfl infoHo ?_
      simp only [Act.put, List.setIfInBounds_toArray, List.set_cons_zero, List.set_cons_succ]
      refine wpList_onG (by rfl) ?_
      go_simp
      refine Calls.mono (HI8.out _ KB803.out) ?_
      rintro e y901 ⟨rfl, hc901⟩
      have hb901 : Hid (Below vz.heap.size vz y901) := hc901
      have KB901 : Hid (Below w.heap.size w y901) := KB803.out.trans ((hc901).mono KB803.out.size)
      have P1n : Hid (Lies y901 (z2.heap.size) (hostC aH) 28) := P1.out.below (hc901) P1.out.lt
      clear P1
      have P1 := P1n
      clear P1n
      have P2n : Hid (Lies y901 (z2.heap.size + 1) (hostC nH) 28) := P2.out.below (hc901) P2.out.lt
      clear P2
      have P2 := P2n
      clear P2n
      clear KB803
      clear hc901
      refine wpList_yieldG (.bool true) (by rfl) ?hy ?_
      case hy => (go_simp <;> (first | with_reducible rfl | omega | skip))
      simp only [Act.put, List.setIfInBounds_toArray, List.set_cons_zero, List.set_cons_succ]
      refine wpList_load_rowG (by rfl) 28 _ rfl (z2.heap.size) rfl (hostC aH) 28 _ P1.out Tryz.underlying28 rfl infoHo ?_
      simp only [Act.put, List.setIfInBounds_toArray, List.set_cons_zero, List.set_cons_succ]
      refine wpList_load_rowG (by rfl) 28 _ rfl (z2.heap.size + 1) rfl (hostC nH) 28 _ P2.out Tryz.underlying28 rfl infoHo ?_
      simp only [Act.put, List.setIfInBounds_toArray, List.set_cons_zero, List.set_cons_succ]
      refine wpList_onG (by rfl) ?_
      go_simp
      refine Calls.mono (HI9.out _ KB901.out) ?_
      rintro e y902 ⟨rfl, hc902⟩
      have hb902 : Hid (Below vz.heap.size vz y902) := (hb901.out).trans ((hc902).mono (hb901.out).size)
      have KB902 : Hid (Below w.heap.size w y902) := KB901.out.trans ((hc902).mono KB901.out.size)
      have P1n : Hid (Lies y902 (z2.heap.size) (hostC aH) 28) := P1.out.below (hc902) P1.out.lt
      clear P1
      have P1 := P1n
      clear P1n
      have P2n : Hid (Lies y902 (z2.heap.size + 1) (hostC nH) 28) := P2.out.below (hc902) P2.out.lt
      clear P2
      have P2 := P2n
      clear P2n
      clear KB901
      clear hc902
      refine wpList_yieldG (.bool true) (by rfl) ?hy ?_
      case hy => (go_simp <;> (first | with_reducible rfl | omega | skip))
      simp only [Act.put, List.setIfInBounds_toArray, List.set_cons_zero, List.set_cons_succ]
      refine wpList_yieldG (.bool true) (by rfl) ?hy ?_
      case hy => (go_simp <;> (first | with_reducible rfl | omega | skip))
      simp only [Act.put, List.setIfInBounds_toArray, List.set_cons_zero, List.set_cons_succ]
      refine wpList_load_rowG (by rfl) 28 _ rfl (z2.heap.size) rfl (hostC aH) 28 _ P1.out Tryz.underlying28 rfl infoHo ?_
      simp only [Act.put, List.setIfInBounds_toArray, List.set_cons_zero, List.set_cons_succ]
      refine wpList_load_rowG (by rfl) 28 _ rfl (z2.heap.size + 1) rfl (hostC nH) 28 _ P2.out Tryz.underlying28 rfl infoHo ?_
      simp only [Act.put, List.setIfInBounds_toArray, List.set_cons_zero, List.set_cons_succ]
      refine wpList_onG (by rfl) ?_
      go_simp
      refine Calls.mono (HI16.out _ KB902.out) ?_
      rintro e y903 ⟨rfl, hc903⟩
      have hb903 : Hid (Below vz.heap.size vz y903) := (hb902.out).trans ((hc903).mono (hb902.out).size)
      have KB903 : Hid (Below w.heap.size w y903) := KB902.out.trans ((hc903).mono KB902.out.size)
      have P1n : Hid (Lies y903 (z2.heap.size) (hostC aH) 28) := P1.out.below (hc903) P1.out.lt
      clear P1
      have P1 := P1n
      clear P1n
      have P2n : Hid (Lies y903 (z2.heap.size + 1) (hostC nH) 28) := P2.out.below (hc903) P2.out.lt
      clear P2
      have P2 := P2n
      clear P2n
      clear KB902
      clear hc903
      refine wpList_yieldG (.bool true) (by rfl) ?hy ?_
      case hy => (go_simp <;> (first | with_reducible rfl | omega | skip))
      simp only [Act.put, List.setIfInBounds_toArray, List.set_cons_zero, List.set_cons_succ]
      refine wpList_yieldG (.bool true) (by rfl) ?hy ?_
      case hy => (go_simp <;> (first | with_reducible rfl | omega | skip))
      simp only [Act.put, List.setIfInBounds_toArray, List.set_cons_zero, List.set_cons_succ]
      refine wpList_yieldG (.bool true) (by rfl) ?hy ?_
      case hy => (go_simp <;> (first | with_reducible rfl | omega | skip))
      simp only [Act.put, List.setIfInBounds_toArray, List.set_cons_zero, List.set_cons_succ]
      refine wpList_load_rowG (by rfl) 28 _ rfl (z2.heap.size) rfl (hostC aH) 28 _ P1.out Tryz.underlying28 rfl infoHo ?_
      simp only [Act.put, List.setIfInBounds_toArray, List.set_cons_zero, List.set_cons_succ]
      refine wpList_load_rowG (by rfl) 28 _ rfl (z2.heap.size) rfl (hostC aH) 28 _ P1.out Tryz.underlying28 rfl infoHo ?_
      simp only [Act.put, List.setIfInBounds_toArray, List.set_cons_zero, List.set_cons_succ]
      refine wpList_onG (by rfl) ?_
      go_simp
      refine Calls.mono (HI33.out _ KB903.out) ?_
      rintro e y904 ⟨rfl, hc904⟩
      have hb904 : Hid (Below vz.heap.size vz y904) := (hb903.out).trans ((hc904).mono (hb903.out).size)
      have KB904 : Hid (Below w.heap.size w y904) := KB903.out.trans ((hc904).mono KB903.out.size)
      have P1n : Hid (Lies y904 (z2.heap.size) (hostC aH) 28) := P1.out.below (hc904) P1.out.lt
      clear P1
      have P1 := P1n
      clear P1n
      have P2n : Hid (Lies y904 (z2.heap.size + 1) (hostC nH) 28) := P2.out.below (hc904) P2.out.lt
      clear P2
      have P2 := P2n
      clear P2n
      clear KB903
      clear hc904
      refine wpList_yieldG (.bool true) (by rfl) ?hy ?_
      case hy => (go_simp <;> (first | with_reducible rfl | omega | skip))
      simp only [Act.put, List.setIfInBounds_toArray, List.set_cons_zero, List.set_cons_succ]
      refine wpList_yieldG (.bool true) (by rfl) ?hy ?_
      case hy => (go_simp <;> (first | with_reducible rfl | omega | skip))
      simp only [Act.put, List.setIfInBounds_toArray, List.set_cons_zero, List.set_cons_succ]
      refine wpList_yieldG (.bool true) (by rfl) ?hy ?_
      case hy => (go_simp <;> (first | with_reducible rfl | omega | skip))
      simp only [Act.put, List.setIfInBounds_toArray, List.set_cons_zero, List.set_cons_succ]
      refine wpList_yieldG (.agg #[.int .u8 0, .int .u8 0, .int .u8 0, .int .u8 0, .int .u8 0, .int .u8 0, .int .u8 0, .int .u8 0, .int .u8 0, .int .u8 0, .int .u8 0, .int .u8 0, .int .u8 0, .int .u8 0, .int .u8 0, .int .u8 0]) (by rfl) ?hy ?_
      case hy => (go_simp <;> (first | with_reducible rfl | omega | skip))
      simp only [Act.put, List.setIfInBounds_toArray, List.set_cons_zero, List.set_cons_succ]
      refine wpList_onG (by rfl) ?_
      go_simp
      refine Calls.mono (HP6.out _ KB904.out) ?_
      rintro e y905 ⟨rfl, hc905⟩
      have hb905 : Hid (Below vz.heap.size vz y905) := (hb904.out).trans ((hc905).mono (hb904.out).size)
      have KB905 : Hid (Below w.heap.size w y905) := KB904.out.trans ((hc905).mono KB904.out.size)
      have P1n : Hid (Lies y905 (z2.heap.size) (hostC aH) 28) := P1.out.below (hc905) P1.out.lt
      clear P1
      have P1 := P1n
      clear P1n
      have P2n : Hid (Lies y905 (z2.heap.size + 1) (hostC nH) 28) := P2.out.below (hc905) P2.out.lt
      clear P2
      have P2 := P2n
      clear P2n
      clear KB904
      clear hc905
      refine wpList_yieldG (.bool true) (by rfl) ?hy ?_
      case hy => (go_simp <;> (first | with_reducible rfl | decide | skip))
      simp only [Act.put, List.setIfInBounds_toArray, List.set_cons_zero, List.set_cons_succ]
      refine wpList_yieldG (.bool true) (by rfl) ?hy ?_
      case hy => (go_simp <;> (first | with_reducible rfl | omega | skip))
      simp only [Act.put, List.setIfInBounds_toArray, List.set_cons_zero, List.set_cons_succ]
      refine wpList_yieldG (.bool true) (by rfl) ?hy ?_
      case hy => (go_simp <;> (first | with_reducible rfl | omega | skip))
      simp only [Act.put, List.setIfInBounds_toArray, List.set_cons_zero]
      refine wpList_nil ?_
      go_wp2
      go_ret
      exact ⟨rfl, KB905.out⟩

set_option maxRecDepth 100000 in
theorem contract (H : Type) (enc : TypeId × Value → H) (W : World) (base : Nat) (args : Array Value) (ds gs : List (DataW H)) (before : List MemPlace)
    (hval : ∀ (j : Nat) t v, Tryz.f3.params[j]? = some t → args[j]? = some v → Value.okWide Tryz.prog W .any base t v)
    (hW : DataW.Whole enc Tryz.prog Tryz.f3.params.toList Rows.domainKnownSpec.vars false W args.toList ds gs before)
    (hL : laidMetH Tryz.prog Rows.domainKnownRow.laid W) (hsh : W.ShapedOpen Tryz.prog) :
    Calls Tryz.prog 3 args W fun e W' => ∃ v, e = .returned v ∧ Rows.domainKnownSpec.post enc Tryz.prog Tryz.f3 false true false false W args v W' := by
  have hW' := hW
  obtain ⟨p, q, hA0, hV, rfl, hfz, hnd⟩ := hW
  have hA : DataW.TrodAll enc Tryz.prog W 0 (fun _ => true) true Tryz.f3.params.toList args.toList ds p := hA0
  rw [Tryz.params3] at hA hval
  obtain ⟨hargs, rfl, rfl⟩ := trodAll_nil hA
  obtain rfl : args = #[] := by cases args; simp_all
  obtain ⟨rfl, rfl⟩ := trodVars_none hV
  clear hA0
  simp only [List.append_nil] at hW'
  refine (walk  W (tabs8_of hL hsh)).mono fun e W' ⟨he, bel⟩ => ?_
  subst he
  exact ⟨_, rfl, _, _, _, [], [], [], hW', trodAll_mk1 (shut_bool Tryz.underlying4 _), trodAll_mk0, rfl, bel.frame _, fun h => by cases h⟩

set_option maxRecDepth 100000 in
theorem laid_met (os : Os) : laidMet Tryz.prog Rows.domainKnownRow.laid ((laidWorld8 os).forCall (fun _ _ => 0) ⟨#[], #[], []⟩).memory :=
  laidMet_of_run' 8 (by kernel_rfl) (by kernel_rfl)
set_option maxRecDepth 100000 in
theorem reads (os : Os) {H : Type} (enc : TypeId × Value → H) : ∃ places, DataW.whole enc Tryz.prog ((laidWorld8 os).forCall (fun _ _ => 0) ⟨#[], #[], []⟩).memory Tryz.f3.params.toList Rows.domainKnownSpec.vars false #[].toList 8 = some ([], [], places) :=
  ⟨[], by kernel_rfl⟩

set_option maxRecDepth 100000 in
theorem lifted (os : Os) (started : os.Started) (H : Type) (enc : TypeId × Value → H) (F : Stop.Interp) :
    ReturnsInHanded {} Tryz.checked os 3 .any ((OpenSpec.ofChange Rows.domainKnownSpec).preRow enc Tryz.prog Tryz.f3 Rows.domainKnownRow.domain false Rows.domainKnownRow.laid) (((OpenSpec.ofChange Rows.domainKnownSpec).at F).post enc Tryz.prog Tryz.f3 false true false false) := by
  obtain ⟨places, hx⟩ := reads os enc
  refine returnsInHanded_of_row (C := Tryz.checked) (s := OpenSpec.ofChange Rows.domainKnownSpec) own started (by kernel_rfl) Tryz.func3
    (witness_row_at (enc := enc) (C := Tryz.checked) false (laidWorld8 os) #[] rfl (by kernel_rfl) (by kernel_rfl) (by kernel_rfl)
      (OpenSpec.preRow_of_cond 8 hx (by kernel_rfl) (fun k hk => by cases hk) (by kernel_rfl) (laid_met os))) ?_
  intro W base args ds gs before hval hW _ _ _ hL hsh _
  exact contract H enc W base args ds gs before hval hW hL hsh

theorem said : Rows.DomainKnownSaid :=
  OpenClaim.holds_of_cond 3 Tryz.f3 rfl rfl rfl rfl rfl rfl rfl ⟨rfl, rfl, rfl, rfl, rfl⟩ rfl rfl rfl rfl rfl (by kernel_rfl) Tryz.func3 (by kernel_rfl)
    (of_decide_eq_true (by kernel_rfl)) (by unfold Func.isWrapper; first | (rw [if_pos (by decide +kernel)]; kernel_rfl) | (rw [if_neg (by decide +kernel)]; exact ⟨rfl, rfl⟩))
    (fun os started H enc _ F => by rw [OpenClaim.pre_eq_preRow]; exact lifted os started H enc F)

/-- No parameter wants a stand-in; the program's own looks are off. -/
theorem plain (f : FuncId) (fn : Func) (hf : Tryz.pinned.checked.prog.funcNamed "posthorn/posthornlaw08.DomainKnown" = some f) (hfn : Tryz.pinned.checked.prog.funcs[f]? = some fn) :
    true = Tryz.pinned.checked.prog.looks [] ∧ ∀ (j : Nat) t, fn.params[j]? = some t → Tryz.pinned.checked.prog.wantsStandIn t = false := by
  obtain rfl : f = 3 := Option.some.inj ((show Tryz.prog.funcNamed "posthorn/posthornlaw08.DomainKnown" = some 3 by kernel_rfl).symm.trans hf) |>.symm
  obtain rfl : fn = Tryz.f3 := (Option.some.inj (Tryz.func3.symm.trans hfn)).symm
  refine ⟨by kernel_rfl, fun j t ht => ?_⟩
  rw [Tryz.params3] at ht
  have hm : t ∈ [] := by simpa using Array.mem_of_getElem? ht
  have hall : ([].all fun u => !Tryz.prog.wantsStandIn u) = true := by kernel_rfl
  exact (show Tryz.prog.wantsStandIn t = false by simpa using List.all_eq_true.1 hall t hm)

/-- The card. -/
theorem card : Rows.DomainKnownCardSaid :=
  Claim7.holds_tied_plain_at .later [] _ _ _ _ said (fun _ h => by cases h) (by kernel_rfl) (fun _ h => by cases h) domainKnown_row_tie rfl ⟨rfl, rfl⟩ (by kernel_rfl) rfl plain (by kernel_rfl)
end Go.Proofs.YtnlgbopdbihnjaaGreatDoor.domainKnown
namespace Go.Proofs.YtnlgbopdbihnjaaGreatDoor
theorem domainKnown_card : Rows.DomainKnownCardSaid := domainKnown.card
#print axioms domainKnown_card
end Go.Proofs.YtnlgbopdbihnjaaGreatDoor
