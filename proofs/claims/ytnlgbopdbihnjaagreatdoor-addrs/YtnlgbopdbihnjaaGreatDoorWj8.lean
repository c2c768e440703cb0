/-
  The contract of domain.Within.
-/
import Derived.Test.YtnlgbopdbihnjaaGreatDoorSw8
namespace Go.Proofs.YtnlgbopdbihnjaaGreatDoor
open Go.RowKit

end Go.Proofs.YtnlgbopdbihnjaaGreatDoor
/-
  The contract of wakes: a few answers that the document names.
-/
namespace Go.Proofs.YtnlgbopdbihnjaaGreatDoor
open Go.RowKit

set_option maxHeartbeats 1000000 in
set_option maxRecDepth 100000 in
theorem lv4_any (x y z u : Nat) (w : World) : Calls Tryz.prog 14 #[.int .u8 (x : Nat), .int .u8 (y : Nat), .int .u8 (z : Nat), .int .u8 (u : Nat)] w fun e w' => e = .returned (hostV (fourH [x, y, z, u])) ∧ Below w.heap.size w w' := by
  have HL0 : Hid (Lies (w.alloc (.cells #[.int .i64 0, .string ⟨#[]⟩, .int .u8 0, .int .u8 0, .int .u8 0, .int .u8 0, .int .u8 0, .int .u8 0, .int .u8 0, .int .u8 0, .int .u8 0, .int .u8 0, .int .u8 0, .int .u8 0, .int .u8 0, .int .u8 0, .int .u8 0, .int .u8 0] 28)) w.heap.size #[.int .i64 0, .string ⟨#[]⟩, .int .u8 0, .int .u8 0, .int .u8 0, .int .u8 0, .int .u8 0, .int .u8 0, .int .u8 0, .int .u8 0, .int .u8 0, .int .u8 0, .int .u8 0, .int .u8 0, .int .u8 0, .int .u8 0, .int .u8 0, .int .u8 0] 28) := Lies.new w _ _
  have HB : Hid (Below w.heap.size w (w.alloc (.cells #[.int .i64 0, .string ⟨#[]⟩, .int .u8 0, .int .u8 0, .int .u8 0, .int .u8 0, .int .u8 0, .int .u8 0, .int .u8 0, .int .u8 0, .int .u8 0, .int .u8 0, .int .u8 0, .int .u8 0, .int .u8 0, .int .u8 0, .int .u8 0, .int .u8 0] 28))) := (Below.refl _ _).alloc (Nat.le_refl _) _
  go_enter Tryz.func14, Tryz.ntmps14
  go_wp2_with (refine wpList_store_row rfl 28 _ _ rfl w.heap.size rfl _ (hostC (fourH [x, y, z, u])) rfl 28 HL0.out infoHo rfl (hostC_one _) rfl ?_)
  exact bodyPost_ret (results_row (p := 8) (by kernel_rfl) _ _ w.heap.size 28 _ (0, 0) _ rfl (HL0.out.row _) Tryz.underlying28 rfl infoHo) rfl ⟨rfl, below_row HB.out (Nat.le_refl _) _⟩
theorem exec_eql_host {op : Oper} {a : Act} {w : World} (p q : Operand) (r : TypeId) (ho : op.op = .binOp .eql 28 p q r) (x y : Ho) (hp : a.eval p = hostV x) (hq : a.eval q = hostV y) (hx : x.a.length = 16) (hy : y.a.length = 16) : (execOp a.eval op).run Tryz.prog w = .ok (.value (.bool (decide (x = y)))) w := by
  have hgu : Tryz.prog.eqGuardType Tryz.prog.depth 28 = false := by kernel_rfl
  have h := eqlHost x y hx hy w
  have hg := run_eqGuard_agg (P := Tryz.prog) w .eql 28 p q (hostC x) (hostC y) hgu
  unfold hostV at *
  unfold execOp
  simp only [ho, hp, hq, Sem.run_bind, hg, Result.andThen_ok, h, Sem.run_pure]
theorem host_row (x : Ho) (hx : x.a.length = 16) : (Tryz.prog.info? 28).map (·.size) = some (hostC x).size ∧ (#[.int .i64 0, .string ⟨#[]⟩, .int .u8 0, .int .u8 0, .int .u8 0, .int .u8 0, .int .u8 0, .int .u8 0, .int .u8 0, .int .u8 0, .int .u8 0, .int .u8 0, .int .u8 0, .int .u8 0, .int .u8 0, .int .u8 0, .int .u8 0, .int .u8 0] : Array Value).size = (hostC x).size ∧ (hostC x).all (·.oneCell') = true := ⟨by rw [hostC_size x hx]; exact infoHo, by rw [hostC_size x hx]; rfl, hostC_one x⟩
theorem six_row (l : List Nat) (hl : l.length = 16) : (Tryz.prog.info? 26).map (·.size) = some (bytesV l).size ∧ (#[.int .u8 0, .int .u8 0, .int .u8 0, .int .u8 0, .int .u8 0, .int .u8 0, .int .u8 0, .int .u8 0, .int .u8 0, .int .u8 0, .int .u8 0, .int .u8 0, .int .u8 0, .int .u8 0, .int .u8 0, .int .u8 0] : Array Value).size = (bytesV l).size ∧ (bytesV l).all (·.oneCell') = true := ⟨by rw [bytesV_size, hl]; exact info16, by rw [bytesV_size, hl]; rfl, bytesV_one l⟩
def mxH : Ho := ⟨1, [109, 120, 46, 101, 120, 97, 109, 112, 108, 101], z16⟩
def MXH : Ho := ⟨1, [77, 88, 46, 101, 120, 97, 109, 112, 108, 101], z16⟩
def fourK : Ho := fourH [1, 2, 3, 4]
theorem pw1 : parse [109, 120, 46, 101, 120, 97, 109, 112, 108, 101] false = (mxH, (0, 0)) := by decide +kernel
theorem pw2 : parse [91, 49, 46, 50, 46, 51, 46, 52, 93] false = (fourK, (0, 0)) := by decide +kernel
theorem pw3 : print fourK = ([91, 49, 46, 50, 46, 51, 46, 52, 93], 0) := by decide +kernel
theorem pw4 : parse [97, 46, 46, 98] true = (ho0, (80, 2)) := by decide +kernel
theorem pw5 : v6 [50, 48, 48, 49, 58, 68, 66, 56, 58, 58, 49, 58, 48, 58, 48, 58, 49] = .ok [32, 1, 13, 184, 0, 0, 0, 0, 0, 1, 0, 0, 0, 0, 0, 1] := by rfl
theorem pw6 : print6 [32, 1, 13, 184, 0, 0, 0, 0, 0, 1, 0, 0, 0, 0, 0, 1] = [50, 48, 48, 49, 58, 100, 98, 56, 58, 58, 49, 58, 48, 58, 48, 58, 49] := by decide +kernel
theorem pw7 : same asciiL mxH MXH = true := by decide +kernel
theorem pw8 : same asciiL mxH fourK = false := by decide +kernel
theorem mxH_ok : mxH.Ok := ⟨rfl, by decide⟩
theorem MXH_ok : MXH.Ok := ⟨rfl, by decide⟩
theorem fourK_ok : fourK.Ok := ⟨rfl, by decide⟩
end Go.Proofs.YtnlgbopdbihnjaaGreatDoor
