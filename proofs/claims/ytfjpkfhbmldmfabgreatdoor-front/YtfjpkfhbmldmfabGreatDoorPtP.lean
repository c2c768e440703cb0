/-
  What Ascii tells (P8.12), in plain mathematics.
-/
import Derived.Test.YtfjpkfhbmldmfabGreatDoorDmW
import Derived.Test.YtfjpkfhbmldmfabGreatDoorUtfE
import Derived.Test.YtfjpkfhbmldmfabGreatDoorDmR
namespace Go.Proofs.YtfjpkfhbmldmfabGreatDoor
theorem check_name {h:Ho} {wide:Bool} (hk:h.k=1) (hc:check h wide=0):h.a=z16∧(wd wide h.n).1=0:=by
 unfold check at hc
 rw[if_pos hk]at hc
 split at hc
 ·exact⟨‹_›,hc⟩
 ·cases hc
theorem check_tag {h:Ho} {wide:Bool} (hk:h.k=4) (hc:check h wide=0):h.a=z16∧chTag h.n=0:=by
 unfold check at hc
 rw[if_neg (by omega),if_neg (by omega),if_neg (by omega),if_pos hk]at hc
 split at hc
 ·exact⟨‹_›,hc⟩
 ·cases hc
theorem check_kind {h:Ho} {wide:Bool} (hc:check h wide=0):h.k=1∨h.k=2∨h.k=3∨h.k=4:=by
 unfold check at hc
 by_cases h1:h.k=1
 ·exact Or.inl h1
 by_cases h2:h.k=2
 ·exact Or.inr (Or.inl h2)
 by_cases h3:h.k=3
 ·exact Or.inr (Or.inr (Or.inl h3))
 by_cases h4:h.k=4
 ·exact Or.inr (Or.inr (Or.inr h4))
 rw[if_neg h1,if_neg h2,if_neg h3,if_neg h4]at hc
 cases hc
def atB (c:UInt8):Bool:=ldB c||[33,35,36,37,38,39,42,43,45,47,61,63,94,95,96,123,124,125,126].contains c||decide (128≤c.toNat)
def qtB (c:UInt8):Bool:=(decide (32≤c.toNat)&&decide (c.toNat≤126)&&!decide (c=34)&&!decide (c=92))||decide (128≤c.toNat)
def shB (c:UInt8):Bool:=decide (32≤c.toNat)&&decide (c.toNat≤126)
def loB (c:UInt8):Bool:=decide (c.toNat<128)
def rowG:Nat→Nat→Bool→List UInt8→Nat
 |e,_,_,[]=>e
 |e,i,b,c::r=>if atB c=true then rowG (i+1) (i+1) true r else if c=46∧b=true then rowG e (i+1) false r else e
def rowL (s:List UInt8):Nat:=rowG 0 0 false s
def plainL (l:List UInt8):Bool:=decide (l≠[])&&decide (rowL l=l.length)
def preQ (c:UInt8):Except (Option Nat) (List UInt8×Nat)→Except (Option Nat) (List UInt8×Nat)
 | .ok (m,n)=>.ok (c::m,n)
 | .error e=>.error e
def qtM:Nat→Bool→List UInt8→Except (Option Nat) (List UInt8×Nat)
 |_,_,[]=>.error none
 |i,true,c::r=>if shB c=true then preQ c (qtM (i+1) false r) else .error (some (i - 1))
 |i,false,c::r=>if c=34 then .ok ([],i+1) else if c=92 then qtM (i+1) true r else if qtB c=true then preQ c (qtM (i+1) false r) else .error (some i)
def finL (wide:Bool) (b:List UInt8) (f:Nat) (m:List UInt8) (n:Nat):Except (Nat×Nat) (List UInt8×Nat):=
 if 64<n then .error (90,0)
 else if wide=false∧spB loB b<b.length then .error (94,f+spB loB b)
 else if badU b<b.length then .error (94,f+badU b)
 else .ok (m,n)
def lcl (wide:Bool) (s:List UInt8):Except (Nat×Nat) (List UInt8×Nat):=
 if s.head?=some 34 then
  match qtM 1 false (s.drop 1) with
  | .error none=>.error (91,0)
  | .error (some p)=>.error (90,p)
  | .ok (m,n)=>finL wide ((s.drop 1).take (n - 2)) 1 m n
 else if rowL s=0 then .error (90,0)
 else finL wide (s.take (rowL s)) 0 (s.take (rowL s)) (rowL s)
def stopB (c:UInt8):Bool:=[60,62,44,58,64,32].contains c
def notB (f:UInt8→Bool) (c:UInt8):Bool:=!f c
def hstN (s:List UInt8):Nat:=
 if s.head?=some 91 then (if spB (notB (· ==93)) s<s.length then spB (notB (· ==93)) s+1 else spB (notB (· ==93)) s)
 else spB (notB stopB) s
def hst (wide:Bool) (s:List UInt8):Except (Nat×Nat) (Ho×Nat):=
 if (parse (s.take (hstN s)) wide).2.1=0 then .ok ((parse (s.take (hstN s)) wide).1,hstN s) else .error (parse (s.take (hstN s)) wide).2
def bx (wide:Bool) (s:List UInt8):Except (Nat×Nat) ((List UInt8×Ho)×Nat):=
 match lcl wide s with
 | .error e=>.error e
 | .ok (l,n)=>
  if (s.drop n).head?=some 64 then
   match hst wide (s.drop (n+1)) with
   | .error (e,p)=>.error (e,n+1+p)
   | .ok (h,k)=>.ok ((l,h),n+1+k)
  else .error (93,n)
def moreR (h:Ho) (k:Nat):Except (Nat×Nat) (List Ho×Nat)→Except (Nat×Nat) (List Ho×Nat)
 | .error (e,p)=>.error (e,k+p)
 | .ok (l,n)=>.ok (h::l,k+n)
def rte (wide:Bool):Nat→List UInt8→Except (Nat×Nat) (List Ho×Nat)
 |0,s=>if s.head?=some 64 then .error (92,0) else .error (93,0)
 |k+1,s=>
  if s.head?=some 64 then
   match hst wide (s.drop 1) with
   | .error (e,p)=>.error (e,1+p)
   | .ok (h,n)=>
    if h.k=1 then
     (if (s.drop (1+n)).head?=some 58 then .ok ([h],1+n+1)
     else if (s.drop (1+n)).head?=some 44 then moreR h (1+n+1) (rte wide k (s.drop (1+n+1)))
     else .error (92,1+n))
    else .error (92,1)
  else .error (93,0)
structure Pt where
 k:Int
 r:List Ho
 l:List UInt8
 h:Ho
deriving DecidableEq
def escL:List UInt8→List UInt8
 |[]=>[]
 |c::r=>if c=34∨c=92 then 92::c::escL r else c::escL r
def wrL (l:List UInt8):List UInt8:=if plainL l=true then l else 34::(escL l++[34])
def wrH (h:Ho):List UInt8:=(print h).1
def wrR:List Ho→List UInt8
 |[]=>[]
 |[h]=>64::(wrH h++[58])
 |h::g::r=>64::(wrH h++44::wrR (g::r))
def wrB (l:List UInt8) (h:Ho):List UInt8:=wrL l++64::wrH h
def pmL:List UInt8:=[80,111,115,116,109,97,115,116,101,114]
def wrP (p:Pt):List UInt8:=
 if p.k=1 then [60,62] else if p.k=2 then 60::(pmL++[62]) else 60::(wrR p.r++wrB p.l p.h++[62])
def pth (wide back:Bool) (s:List UInt8):Except (Nat×Nat) (Pt×Nat):=
 if s.head?=some 60 then
  if back=true∧s[1]?=some 62 then .ok (⟨1,[],[],ho0⟩,2)
  else if back=false∧sml ((s.drop 1).take 10)=sml pmL∧s[11]?=some 62 then .ok (⟨2,[],[],ho0⟩,12)
  else match (if s[1]?=some 64 then rte wide 16 (s.drop 1) else .ok ([],0)) with
   | .error (e,p)=>.error (e,1+p)
   | .ok (r,a)=>match bx wide (s.drop (1+a)) with
    | .error (e,p)=>.error (e,1+a+p)
    | .ok ((l,h),n)=>
     if s[1+a+n]?=some 62 then
      if 256<1+a+n+1∨256<(wrP ⟨3,r,l,h⟩).length then .error (93,0) else .ok (⟨3,r,l,h⟩,1+a+n+1)
     else .error (93,1+a+n)
 else .error (93,0)
def box (wide:Bool) (s:List UInt8):Except (Nat×Nat) (List UInt8×Ho):=
 match bx wide s with
 | .error e=>.error e
 | .ok (m,n)=>if n<s.length then .error (93,n) else .ok m
def ckL (l:List UInt8) (wide:Bool):Nat:=
 if l.all (fun c=>decide (32≤c.toNat)&&!decide (c.toNat=127))=false∨64<(wrL l).length then 90
 else if (spB loB l<l.length∧wide=false)∨badU l<l.length then 94
 else 0
def ckR:List Ho→Bool→Nat
 |[],_=>0
 |h::r,wide=>if check h wide=0 then ckR r wide else check h wide
def ckB (p:Pt) (wide:Bool):Nat:=
 if p.k=1∨p.k=2 then (if p.r=[]∧p.l=[]∧p.h=ho0 then 0 else 93)
 else if p.k=3 then
  if 16<p.r.length∨p.r.all (fun h=>decide (h.k=1))=false then 92
  else if ckR p.r wide≠0 then ckR p.r wide
  else if ckL p.l wide≠0 then ckL p.l wide
  else check p.h wide
 else 93
def ckP (p:Pt) (wide:Bool):Nat:=if ckB p wide=0∧256<(wrP p).length then 93 else ckB p wide
end Go.Proofs.YtfjpkfhbmldmfabGreatDoor
