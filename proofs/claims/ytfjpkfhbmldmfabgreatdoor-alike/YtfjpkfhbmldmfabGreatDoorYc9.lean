/-
  The program's Forward.
-/
import Derived.Test.YtfjpkfhbmldmfabGreatDoorXt9
import Derived.Test.YtfjpkfhbmldmfabGreatDoorYb9
import Derived.Test.YtfjpkfhbmldmfabGreatDoorPtA
namespace Go.Proofs.YtfjpkfhbmldmfabGreatDoor
open Go.RowKit
open Go.RowKit
def PA (p:Pt) (V:Array Value) (w:World):Prop:=∃sp c,V=pthC p.k (.slice sp p.r.length c) p.l p.h∧RtM w sp p.r
theorem PA.below {p:Pt} {V:Array Value} {w w':World} (h:PA p V w) (hb:Below w.heap.size w w'):PA p V w':=by
 obtain⟨sp,c,e,hr⟩:=h
 exact⟨sp,c,e,hr.below hb⟩
theorem PA.size {p:Pt} {V:Array Value} {w:World} (h:PA p V w) (ha:p.h.a.length=16):V.size=21:=by
 obtain⟨sp,c,rfl,_⟩:=h
 exact pthC_size _ _ _ _ ha
theorem PA.one {p:Pt} {V:Array Value} {w:World} (h:PA p V w):V.all (·.oneCell')=true:=by
 obtain⟨sp,c,rfl,_⟩:=h
 exact pthC_one9 _ _ _ _ rfl
structure Pt.In (p:Pt):Prop where
 ok:p.Ok
 few:p.r.length≤1000
 nms:∀x∈p.r,x.n.length≤1000
 nm:p.h.n.length≤1000
 loc:p.l.length≤1000
theorem wrL_le (l:List UInt8):l.length≤(wrL l).length:=by
 unfold wrL
 split
 ·exact Nat.le_refl _
 ·have:=escL_le l
  simp only[List.length_cons,List.length_append,List.length_nil]
  omega
theorem ckP_in {p:Pt} {wide:Bool} (ok:p.Ok) (hc:ckP p wide=0):p.In:=by
 obtain⟨k,r,l,h⟩:=p
 rcases ckP_ok3 hc with⟨rfl,rfl,rfl⟩|⟨h1,h2⟩
 ·exact⟨ok,by simp,fun x hx=>(by cases hx),(show ho0.n.length≤1000 by decide),by simp⟩
 ·obtain⟨t1,t2,t3⟩:=ckT_zero h1
  obtain⟨m1,m2⟩:=ckM_zero h2
  have q1:=(ckL_is m1).2.1
  have q2:=wrL_le l
  exact⟨ok,by show r.length≤1000;omega,fun x hx=>Nat.le_trans (check_len (t3 x hx)) (by omega),Nat.le_trans (check_len m2) (by omega),by show l.length≤1000;omega⟩
def pv:Except (Nat×Nat) (Pt×Nat)→Pt×Nat×Nat×Nat
 | .error (e,a)=>(⟨0,[],[],ho0⟩,0,e,a)
 | .ok (p,n)=>(p,n,0,0)
end Go.Proofs.YtfjpkfhbmldmfabGreatDoor
