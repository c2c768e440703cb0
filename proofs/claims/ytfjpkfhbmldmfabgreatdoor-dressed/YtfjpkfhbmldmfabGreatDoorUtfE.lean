/-
  Steps through a statement whose order is the text's, one operation at a time.
-/
import Derived.Test.YtfjpkfhbmldmfabGreatDoorCk8
import Derived.Test.YtfjpkfhbmldmfabGreatDoorDmR
import Derived.Test.YtfjpkfhbmldmfabGreatDoorChk
namespace Go.Proofs.YtfjpkfhbmldmfabGreatDoor
open Go.RowKit
theorem wpList_yieldG {P:Program} {ops:Array Oper} {rest:List Oper} {op:Oper} {a:Act} {w:World} {Q:Exit→Act→World→Prop} (v:Value) (hw:Region.wanted op (yielded ops a.tmps)=true)
  (hy:(execOp a.eval op).run P w=.ok (.value v) w) (h:wpList P ops Q rest (a.put op.dst v) w):wpList P ops Q (op::rest) a w:=by
 unfold wpList
 rw[if_pos hw]
 left
 unfold Oper.wp
 rw[hy]
 exact h
theorem wpList_onG {P:Program} {ops:Array Oper} {rest:List Oper} {op:Oper} {a:Act} {w:World} {Q:Exit→Act→World→Prop} (hw:Region.wanted op (yielded ops a.tmps)=true)
  (h:op.wp P a w (wpList P ops Q rest) Q):wpList P ops Q (op::rest) a w:=by
 unfold wpList
 rw[if_pos hw]
 exact .inl h
def splitD:List UInt8→List (List UInt8)
 |[]=>[[]]
 |c::r=>if c=46 then []::splitD r else match splitD r with
  |[]=>[[c]]
  |x::xs=>(c::x)::xs
def longB (L:List (List UInt8)):Bool:=L.any fun x=>decide (63<x.length)
def asciiD (f:List UInt8→List UInt8) (s:List UInt8):List UInt8×Nat:=
 if longB ((splitD (sml s)).map f)=true then ([],80)
 else if 255<(joinL [46] ((splitD (sml s)).map f)).length then ([],81)
 else (joinL [46] ((splitD (sml s)).map f),0)
def tagS (t:List UInt8):List UInt8:=match colonAt t with
 |none=>t
 |some k=>sml (t.take k)++t.drop k
def ascii (f:List UInt8→List UInt8) (h:Ho):Ho×Nat:=
 if check h true=0 then
  (if h.k=1 then (if (asciiD f h.n).2=0 then (⟨1,(asciiD f h.n).1,h.a⟩,0) else (ho0,(asciiD f h.n).2))
  else if h.k=4 then (⟨4,tagS h.n,h.a⟩,0)
  else (h,0))
 else (ho0,check h true)
def same (f:List UInt8→List UInt8) (a b:Ho):Bool:=
 decide (a.k=b.k)&&decide (check a true=0)&&decide (check b true=0)&&
  (if (ascii f a).2=0∧(ascii f b).2=0 then decide ((ascii f a).1=(ascii f b).1) else decide (sml a.n=sml b.n))
theorem check_v4 {a:Ho} {wide:Bool} (hk:a.k=2):check a wide=0↔a=fourH (a.a.take 4):=by
 unfold check
 rw[if_neg (by omega),if_pos hk]
 constructor
 ·intro h
  by_cases h1:a=fourH (a.a.take 4)
  ·exact h1
  ·rw[if_neg h1]at h;cases h
 ·intro h
  rw[if_pos h]
theorem check_v6 {a:Ho} {wide:Bool} (hk:a.k=3):check a wide=0↔a.n=[]:=by
 unfold check
 rw[if_neg (by omega),if_neg (by omega),if_pos hk]
 constructor
 ·intro h
  by_cases h1:a.n=[]
  ·exact h1
  ·rw[if_neg h1]at h;cases h
 ·intro h
  rw[if_pos h]
end Go.Proofs.YtfjpkfhbmldmfabGreatDoor
