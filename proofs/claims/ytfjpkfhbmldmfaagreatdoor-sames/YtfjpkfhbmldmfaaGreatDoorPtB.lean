/-
  What Ascii tells (P8.12), in plain mathematics.
-/
import Derived.Test.YtfjpkfhbmldmfaaGreatDoorDmW
import Derived.Test.YtfjpkfhbmldmfaaGreatDoorDmR
namespace Go.Proofs.YtfjpkfhbmldmfaaGreatDoor
theorem sml_len (x:List UInt8):(sml x).length=x.length:=by simp[sml]
theorem tagS_some {t:List UInt8} {k:Nat} (h:colonAt t=some k):tagS t=sml (t.take k)++t.drop k:=by
 unfold tagS
 rw[h]
theorem check_name {h:Ho} {wide:Bool} (hk:h.k=1) (hc:check h wide=0):h.a=z16∧(wd wide h.n).1=0:=by
 unfold check at hc
 rw[if_pos hk]at hc
 split at hc
 ·exact⟨‹_›,hc⟩
 ·cases hc
theorem check_tag {h:Ho} {wide:Bool} (hk:h.k=4) (hc:check h wide=0):h.a=z16∧chTag h.n=0:=by
 unfold check at hc
 rw[if_neg (by omega),if_neg (by omega),if_neg (by omega),if_pos hk]at hc
 split at hc
 ·exact⟨‹_›,hc⟩
 ·cases hc
def atB (c:UInt8):Bool:=ldB c||[33,35,36,37,38,39,42,43,45,47,61,63,94,95,96,123,124,125,126].contains c||decide (128≤c.toNat)
def qtB (c:UInt8):Bool:=(decide (32≤c.toNat)&&decide (c.toNat≤126)&&!decide (c=34)&&!decide (c=92))||decide (128≤c.toNat)
def shB (c:UInt8):Bool:=decide (32≤c.toNat)&&decide (c.toNat≤126)
def loB (c:UInt8):Bool:=decide (c.toNat<128)
def rowG:Nat→Nat→Bool→List UInt8→Nat
 |e,_,_,[]=>e
 |e,i,b,c::r=>if atB c=true then rowG (i+1) (i+1) true r else if c=46∧b=true then rowG e (i+1) false r else e
def rowL (s:List UInt8):Nat:=rowG 0 0 false s
def plainL (l:List UInt8):Bool:=decide (l≠[])&&decide (rowL l=l.length)
def preQ (c:UInt8):Except (Option Nat) (List UInt8×Nat)→Except (Option Nat) (List UInt8×Nat)
 | .ok (m,n)=>.ok (c::m,n)
 | .error e=>.error e
def qtM:Nat→Bool→List UInt8→Except (Option Nat) (List UInt8×Nat)
 |_,_,[]=>.error none
 |i,true,c::r=>if shB c=true then preQ c (qtM (i+1) false r) else .error (some (i - 1))
 |i,false,c::r=>if c=34 then .ok ([],i+1) else if c=92 then qtM (i+1) true r else if qtB c=true then preQ c (qtM (i+1) false r) else .error (some i)
def finL (wide:Bool) (b:List UInt8) (f:Nat) (m:List UInt8) (n:Nat):Except (Nat×Nat) (List UInt8×Nat):=
 if 64<n then .error (90,0)
 else if wide=false∧spB loB b<b.length then .error (94,f+spB loB b)
 else if badU b<b.length then .error (94,f+badU b)
 else .ok (m,n)
def lcl (wide:Bool) (s:List UInt8):Except (Nat×Nat) (List UInt8×Nat):=
 if s.head?=some 34 then
  match qtM 1 false (s.drop 1) with
  | .error none=>.error (91,0)
  | .error (some p)=>.error (90,p)
  | .ok (m,n)=>finL wide ((s.drop 1).take (n - 2)) 1 m n
 else if rowL s=0 then .error (90,0)
 else finL wide (s.take (rowL s)) 0 (s.take (rowL s)) (rowL s)
def stopB (c:UInt8):Bool:=[60,62,44,58,64,32].contains c
def notB (f:UInt8→Bool) (c:UInt8):Bool:=!f c
def hstN (s:List UInt8):Nat:=
 if s.head?=some 91 then (if spB (notB (· ==93)) s<s.length then spB (notB (· ==93)) s+1 else spB (notB (· ==93)) s)
 else spB (notB stopB) s
def hst (wide:Bool) (s:List UInt8):Except (Nat×Nat) (Ho×Nat):=
 if (parse (s.take (hstN s)) wide).2.1=0 then .ok ((parse (s.take (hstN s)) wide).1,hstN s) else .error (parse (s.take (hstN s)) wide).2
def bx (wide:Bool) (s:List UInt8):Except (Nat×Nat) ((List UInt8×Ho)×Nat):=
 match lcl wide s with
 | .error e=>.error e
 | .ok (l,n)=>
  if (s.drop n).head?=some 64 then
   match hst wide (s.drop (n+1)) with
   | .error (e,p)=>.error (e,n+1+p)
   | .ok (h,k)=>.ok ((l,h),n+1+k)
  else .error (93,n)
def moreR (h:Ho) (k:Nat):Except (Nat×Nat) (List Ho×Nat)→Except (Nat×Nat) (List Ho×Nat)
 | .error (e,p)=>.error (e,k+p)
 | .ok (l,n)=>.ok (h::l,k+n)
def rte (wide:Bool):Nat→List UInt8→Except (Nat×Nat) (List Ho×Nat)
 |0,s=>if s.head?=some 64 then .error (92,0) else .error (93,0)
 |k+1,s=>
  if s.head?=some 64 then
   match hst wide (s.drop 1) with
   | .error (e,p)=>.error (e,1+p)
   | .ok (h,n)=>
    if h.k=1 then
     (if (s.drop (1+n)).head?=some 58 then .ok ([h],1+n+1)
     else if (s.drop (1+n)).head?=some 44 then moreR h (1+n+1) (rte wide k (s.drop (1+n+1)))
     else .error (92,1+n))
    else .error (92,1)
  else .error (93,0)
structure Pt where
 k:Int
 r:List Ho
 l:List UInt8
 h:Ho
deriving DecidableEq
def escL:List UInt8→List UInt8
 |[]=>[]
 |c::r=>if c=34∨c=92 then 92::c::escL r else c::escL r
def wrL (l:List UInt8):List UInt8:=if plainL l=true then l else 34::(escL l++[34])
def wrH (h:Ho):List UInt8:=(print h).1
def wrR:List Ho→List UInt8
 |[]=>[]
 |[h]=>64::(wrH h++[58])
 |h::g::r=>64::(wrH h++44::wrR (g::r))
def wrB (l:List UInt8) (h:Ho):List UInt8:=wrL l++64::wrH h
def pmL:List UInt8:=[80,111,115,116,109,97,115,116,101,114]
def wrP (p:Pt):List UInt8:=
 if p.k=1 then [60,62] else if p.k=2 then 60::(pmL++[62]) else 60::(wrR p.r++wrB p.l p.h++[62])
def pth (wide back:Bool) (s:List UInt8):Except (Nat×Nat) (Pt×Nat):=
 if s.head?=some 60 then
  if back=true∧s[1]?=some 62 then .ok (⟨1,[],[],ho0⟩,2)
  else if back=false∧sml ((s.drop 1).take 10)=sml pmL∧s[11]?=some 62 then .ok (⟨2,[],[],ho0⟩,12)
  else match (if s[1]?=some 64 then rte wide 16 (s.drop 1) else .ok ([],0)) with
   | .error (e,p)=>.error (e,1+p)
   | .ok (r,a)=>match bx wide (s.drop (1+a)) with
    | .error (e,p)=>.error (e,1+a+p)
    | .ok ((l,h),n)=>
     if s[1+a+n]?=some 62 then
      if 256<1+a+n+1∨256<(wrP ⟨3,r,l,h⟩).length then .error (93,0) else .ok (⟨3,r,l,h⟩,1+a+n+1)
     else .error (93,1+a+n)
 else .error (93,0)
def box (wide:Bool) (s:List UInt8):Except (Nat×Nat) (List UInt8×Ho):=
 match bx wide s with
 | .error e=>.error e
 | .ok (m,n)=>if n<s.length then .error (93,n) else .ok m
def ckL (l:List UInt8) (wide:Bool):Nat:=
 if l.all (fun c=>decide (32≤c.toNat)&&!decide (c.toNat=127))=false∨64<(wrL l).length then 90
 else if (spB loB l<l.length∧wide=false)∨badU l<l.length then 94
 else 0
def sameM (f:List UInt8→List UInt8) (l:List UInt8) (h:Ho) (l':List UInt8) (h':Ho):Bool:=
 same f h h'&&(decide (l=l')||(decide (sml l=sml pmL)&&decide (sml l'=sml pmL)))
theorem rowG_le:∀(s:List UInt8) (e i:Nat) (b:Bool),e≤i→rowG e i b s≤i+s.length
 |[],e,i,b,h=>by rw[rowG];exact h
 |c::r,e,i,b,h=>by
  rw[rowG,List.length_cons]
  split
  ·have:=rowG_le r (i+1) (i+1) true (Nat.le_refl _);omega
  ·split
   ·have:=rowG_le r e (i+1) false (by omega);omega
   ·omega
theorem rowL_le (s:List UInt8):rowL s≤s.length:=by
 have:=rowG_le s 0 0 false (Nat.le_refl _)
 unfold rowL
 omega
theorem plain_is {l:List UInt8} (h:plainL l=true):l≠[]∧rowL l=l.length:=by
 unfold plainL at h
 rw[Bool.and_eq_true,decide_eq_true_eq,decide_eq_true_eq]at h
 exact h
def lpB (c:UInt8):Bool:=decide (32≤c.toNat)&&!decide (c.toNat=127)
theorem qs8_92:∀q∈qs8,(stepQ q 92).isSome=true→q=q0:=by decide
theorem q0_mem:q0∈qs8:=by decide
theorem spB_full {f:UInt8→Bool}:∀{l:List UInt8},(∀c∈l,f c=true)→spB f l=l.length
 |[],_=>rfl
 |c::r,h=>by
  rw[spB,if_pos (h c (List.mem_cons_self ..)),spB_full (fun x hx=>h x (List.mem_cons_of_mem _ hx)),List.length_cons]
theorem spB_mem {f:UInt8→Bool}:∀{l:List UInt8},spB f l=l.length→∀c∈l,f c=true
 |[],_,c,hc=>by cases hc
 |d::r,h,c,hc=>by
  rw[spB]at h
  cases hd:f d with
  |false=>rw[hd,if_neg (by decide),List.length_cons]at h;omega
  |true=>
   rw[hd,if_pos rfl,List.length_cons]at h
   rcases List.mem_cons.1 hc with e|hc
   ·rw[e];exact hd
   ·exact spB_mem (by omega) c hc
theorem loB_iff (c:UInt8):loB c=true↔c.toNat<128:=by unfold loB;rw[decide_eq_true_eq]
def Stop (r:List UInt8):Prop:=r=[]∨∃c t,r=c::t∧stopB c=true
theorem of_fin {P:UInt8→Prop} (h:∀b:Fin 256,P (UInt8.ofNat b.val)) (c:UInt8):P c:=by
 have:=h ⟨c.toNat,c.toNat_lt⟩
 rw[UInt8.ofNat_toNat]at this
 exact this
theorem spB_take {f:UInt8→Bool}:∀(l:List UInt8),∀c∈l.take (spB f l),f c=true
 |[],c,hc=>by cases hc
 |d::r,c,hc=>by
  rw[spB]at hc
  cases hd:f d with
  |false=>rw[hd,if_neg (by decide),List.take_zero]at hc;cases hc
  |true=>
   rw[hd,if_pos rfl,List.take_succ_cons]at hc
   rcases List.mem_cons.1 hc with e|hc
   ·rw[e];exact hd
   ·exact spB_take r c hc
structure RtOk (r:List Ho) (wide:Bool):Prop where
 ok:∀h∈r,h.Ok∧h.k=1∧check h wide=0
end Go.Proofs.YtfjpkfhbmldmfaaGreatDoor
