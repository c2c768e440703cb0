/-
  The document's written.
-/
import Derived.Test.YtfjpkfhbmldmfaaGreatDoorQh9
import Derived.Deep.MidRow
namespace Go.Proofs.YtfjpkfhbmldmfaaGreatDoor
open Go.RowKit
theorem infoPt:(Tryz.prog.info? 29).map (·.size)=some 21:=by kernel_rfl
def pthC (k:Int) (sl:Value) (l:List UInt8) (h:Ho):Array Value:=#[.int .i64 k,sl,.string (txt l)]++hostC h
theorem pthC_size (k:Int) (sl:Value) (l:List UInt8) (h:Ho) (ha:h.a.length=16):(pthC k sl l h).size=21:=by
 unfold pthC
 rw[Array.size_append,hostC_size h ha]
 rfl
def RtM (w:World) (sp:Option Addr) (r:List Ho):Prop:=r=[]∨∃g o,sp=some ⟨g,o,none⟩∧g<w.heap.size∧∀j (hj:j<r.length),w.rangeAt g (o+j*18) (hostC r[j]).toList
theorem RtM.below {w w':World} {sp:Option Addr} {r:List Ho} (h:RtM w sp r) (hb:Below w.heap.size w w'):RtM w' sp r:=by
 rcases h with h|⟨g,o,h1,h2,h3⟩
 ·exact .inl h
 ·refine .inr ⟨g,o,h1,Nat.lt_of_lt_of_le h2 hb.size,fun j hj i v hv=>?_⟩
  rw[hb.cell (p:=⟨g,o+j*18+i,none⟩) h2]
  exact h3 j hj i v hv
theorem exec_mid9 {P:Program} {op:Oper} {a:Act} {w:World} (ty:TypeId) (x:Operand) (ho:op.op=.load ty x) (g o:Nat) (hx:a.eval x=.pointer (some ⟨g,o,none⟩)) (cs:List Value) (d:TypeDesc) (hc:w.rangeAt g o cs)
  (hu:P.underlying ty=some d) (hd:d.isRow=true) (hi:(P.info? ty).map (·.size)=some cs.length):(execOp a.eval op).run P w=.ok (.value (.agg cs.toArray)) w:=by
 unfold execOp
 simp only[ho,hx,Instr.loadAt,Instr.sureAddr,Sem.run_bind,Sem.run_pure,Result.andThen_ok,run_loadVar_mid w g o ty cs d hc hu hd hi]
end Go.Proofs.YtfjpkfhbmldmfaaGreatDoor
