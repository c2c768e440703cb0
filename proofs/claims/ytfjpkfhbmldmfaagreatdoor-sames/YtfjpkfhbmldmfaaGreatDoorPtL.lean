/-
  Paths made of any bytes, dressed ones, and mailboxes that are alike, in plain mathematics; what is read is written no longer.
-/
import Derived.Test.YtfjpkfhbmldmfaaGreatDoorPtV
import Derived.Test.YtfjpkfhbmldmfaaGreatDoorRpP
namespace Go.Proofs.YtfjpkfhbmldmfaaGreatDoor
theorem escL_two:∀l:List UInt8,(escL l).length≤2*l.length
 |[]=>Nat.le_refl _
 |c::r=>by
  have:=escL_two r
  rw[escL_cons]
  split<;>simp only[List.length_cons]<;>omega
theorem rowG_shift (k:Nat):∀(s:List UInt8) (e i:Nat) (b:Bool),rowG (e+k) (i+k) b s=rowG e i b s+k
 |[],_,_,_=>rfl
 |c::r,e,i,b=>by
  rw[rowG,rowG]
  have h1:=rowG_shift k r (i+1) (i+1) true
  have h2:=rowG_shift k r e (i+1) false
  rw[show i+1+k=i+k+1 from by omega]at h1 h2
  rw[h1,h2]
  split
  ·rfl
  ·split<;>rfl
def shQ (k:Nat):Except (Option Nat) (List UInt8×Nat)→Except (Option Nat) (List UInt8×Nat)
 | .ok (m,n)=>.ok (m,n+k)
 | .error none=>.error none
 | .error (some p)=>.error (some (p+k))
theorem shQ_pre (k:Nat) (c:UInt8) (x:Except (Option Nat) (List UInt8×Nat)):shQ k (preQ c x)=preQ c (shQ k x):=by
 match x with
 | .ok (m,n)=>rfl
 | .error none=>rfl
 | .error (some p)=>rfl
theorem qtM_shift (k:Nat):∀(s:List UInt8) (i:Nat) (b:Bool),1≤i→qtM (i+k) b s=shQ k (qtM i b s)
 |[],i,b,_=>by cases b<;>rfl
 |c::r,i,true,h=>by
  rw[qtM,qtM]
  split
  ·rw[shQ_pre,←qtM_shift k r (i+1) false (by omega),show i+1+k=i+k+1 from by omega]
  ·show Except.error (some (i+k - 1))=Except.error (some (i - 1+k))
   rw[show i+k - 1=i - 1+k from by omega]
 |c::r,i,false,h=>by
  rw[qtM,qtM]
  split
  ·show Except.ok ([],i+k+1)=Except.ok ([],i+1+k)
   rw[show i+k+1=i+1+k from by omega]
  ·split
   ·rw[←qtM_shift k r (i+1) true (by omega),show i+1+k=i+k+1 from by omega]
   ·split
    ·rw[shQ_pre,←qtM_shift k r (i+1) false (by omega),show i+1+k=i+k+1 from by omega]
    ·rfl
theorem step_34 (q:Q) (hq:q.1≠0→128≤q.2.1):stepQ q 34=if q.1=0 then some (0,0,0) else none:=by
 unfold stepQ
 by_cases h:q.1=0
 ·rw[if_pos h,if_pos h]
  rfl
 ·rw[if_neg h,if_neg h,if_pos (.inl (by have:=hq h;omega))]
theorem beg_low {b:Nat} {q:Q} (h:begQ b=some q):q.1≠0→128≤q.2.1:=by
 unfold begQ at h
 repeat' split at h
 all_goals first|(cases h;done)|(cases h;decide)
theorem step_low {q q':Q} {b:Nat} (h:stepQ q b=some q'):q'.1≠0→128≤q'.2.1:=by
 unfold stepQ at h
 split at h
 ·exact beg_low h
 ·split at h
  ·cases h
  ·split at h
   ·cases h;decide
   ·cases h;exact fun _=>Nat.le_refl _
theorem badUA_mark:∀(l:List UInt8) (q:Q) (n w:Nat),w≤n→(q.1=0↔w=n)→(q.1≠0→128≤q.2.1)→badUA q n w (l++[34])=if badUA q n w l=n+l.length then n+l.length+1 else badUA q n w l
 |[],q,n,w,hw,hq,hl=>by
  have e34:stepQ q (34:UInt8).toNat=if q.1=0 then some (0,0,0) else none:=step_34 q hl
  by_cases h:q.1=0
  ·have e:=hq.1 h
   subst e
   rw[if_pos h]at e34
   simp only[List.nil_append,badUA,e34,List.length_nil,Nat.add_zero,if_true]
  ·rw[if_neg h]at e34
   have hne:¬badUA q n w []=n+([]:List UInt8).length:=fun e=>h (hq.2 e)
   rw[if_neg hne]
   simp only[List.nil_append,badUA,e34]
 |b::t,q,n,w,hw,hq,hl=>by
  rw[List.cons_append,badUA,badUA]
  cases hs:stepQ q b.toNat with
  |none=>
   dsimp only
   rw[List.length_cons,if_neg (by omega)]
  |some q1=>
   dsimp only
   have:=badUA_mark t q1 (n+1) (if q1.1=0 then n+1 else w) (by split<;>omega) (by
    by_cases h:q1.1=0
    ·rw[if_pos h];exact⟨fun _=>rfl,fun _=>h⟩
    ·rw[if_neg h];exact⟨fun e=>absurd e h,fun e=>by omega⟩) (step_low hs)
   rw[this,List.length_cons]
   have e:n+1+t.length=n+(t.length+1):=by omega
   rw[e]
theorem badU_mark (l:List UInt8):badU (l++[34])=if badU l=l.length then l.length+1 else badU l:=by
 have:=badUA_mark l q0 0 0 (Nat.le_refl _) ⟨fun _=>rfl,fun _=>rfl⟩ (fun h=>absurd rfl h)
 rw[Nat.zero_add]at this
 exact this
theorem badU_low {c:UInt8} (h:c.toNat<128) (r:List UInt8):badU (c::r)=1+badU r:=by
 have h1:oneN (c::r)=some ((c.toNat:Int),1):=by
  show(if c.toNat<128 then _ else _)=_
  exact if_pos h
 rw[badU_some h1]
 rfl
theorem spB_mark (l:List UInt8):spB loB (l++[34])=if spB loB l=l.length then l.length+1 else spB loB l:=by
 induction l with
 |nil=>rfl
 |cons c r ih=>
  rw[List.cons_append,spB,spB,ih,List.length_cons]
  by_cases h:loB c=true
  ·rw[if_pos h,if_pos h]
   by_cases h2:spB loB r=r.length
   ·rw[if_pos h2,if_pos (by omega)]
   ·rw[if_neg h2,if_neg (by omega)]
  ·rw[if_neg h,if_neg h,if_neg (by omega)]
theorem lo_34:loB 34=true:=by decide
def fwL (wide:Bool) (l:List UInt8):Nat:=if wide=true then badU l else spB loB l
theorem fwL_le (wide:Bool) (l:List UInt8):fwL wide l≤l.length:=by
 unfold fwL
 split
 ·exact badU_le l
 ·exact spB_le loB l
theorem fwL_mark (wide:Bool) (l:List UInt8):fwL wide (34::(l++[34]))=if fwL wide l=l.length then l.length+2 else 1+fwL wide l:=by
 unfold fwL
 cases wide
 ·simp only[Bool.false_eq_true,if_false]
  rw[spB,if_pos lo_34,spB_mark]
  split<;>omega
 ·simp only[if_true]
  rw[badU_low (show(34:UInt8).toNat<128 by decide),badU_mark]
  split<;>omega
theorem badU_lows:∀(l:List UInt8),spB loB l=l.length→badU l=l.length
 |[],_=>rfl
 |c::r,h=>by
  rw[spB,List.length_cons]at h
  by_cases hc:loB c=true
  ·rw[if_pos hc]at h
   rw[badU_low (by unfold loB at hc;simpa using hc),badU_lows r (by omega),List.length_cons]
   omega
  ·rw[if_neg hc]at h
   omega
theorem finL_fw (wide:Bool) (b:List UInt8) (f:Nat) (m:List UInt8) (n:Nat):finL wide b f m n=if 64<n then .error (90,0) else if fwL wide b<b.length then .error (94,f+fwL wide b) else .ok (m,n):=by
 unfold finL fwL
 by_cases h:64<n
 ·rw[if_pos h,if_pos h]
 ·rw[if_neg h,if_neg h]
  cases wide
  ·rw[if_neg (show ¬(false=true) by decide)]
   by_cases h1:spB loB b<b.length
   ·rw[if_pos ⟨rfl,h1⟩,if_pos h1]
   ·rw[if_neg (fun x=>h1 x.2),if_neg h1]
    have h2:=badU_lows b (by have:=spB_le loB b;omega)
    rw[if_neg (by omega)]
  ·rw[if_neg (fun x=>by cases x.1),if_pos rfl]
def shE {α:Type} (a:Nat):Except (Nat×Nat) (α×Nat)→Except (Nat×Nat) (α×Nat)
 | .ok (x,n)=>.ok (x,a+n)
 | .error (e,p)=>.error (e,a+p)
def meL (s:List UInt8):Except (Nat×Nat) (List UInt8×Nat):=
 if s.head?=some 34 then (match qtM 1 false (s.drop 1) with
  | .ok (m,n)=>.ok (m,n)
  | .error none=>.error (91,0)
  | .error (some p)=>.error (90,p))
 else if rowL s=0 then .error (90,0)
 else .ok (s.take (rowL s),rowL s)
theorem qtM_ends:∀(s:List UInt8) (i:Nat) (b:Bool) (m:List UInt8) (n:Nat),qtM i b s=.ok (m,n)→i<n∧n - i≤s.length∧s.take (n - i)=s.take (n - 1 - i)++[34]
 |[],i,b,m,n,h=>by unfold qtM at h;cases h
 |c::r,i,true,m,n,h=>by
  rw[qtM]at h
  split at h
  ·obtain⟨m',rfl,h'⟩:=preQ_ok h
   obtain⟨h1,h2,h3⟩:=qtM_ends r (i+1) false m' n h'
   refine⟨by omega,by rw[List.length_cons];omega,?_⟩
   have e1:n - i=(n - (i+1))+1:=by omega
   have e2:n - 1 - i=(n - 1 - (i+1))+1:=by omega
   rw[e1,e2,List.take_succ_cons,List.take_succ_cons,h3,List.cons_append]
  ·cases h
 |c::r,i,false,m,n,h=>by
  rw[qtM]at h
  split at h
  ·rename_i hc
   injection h with h
   injection h with h1 h2
   subst h2
   refine⟨by omega,by rw[List.length_cons];omega,?_⟩
   have e1:i+1 - i=1:=by omega
   have e2:i+1 - 1 - i=0:=by omega
   rw[e1,e2,hc]
   rfl
  ·split at h
   ·obtain⟨h1,h2,h3⟩:=qtM_ends r (i+1) true m n h
    refine⟨by omega,by rw[List.length_cons];omega,?_⟩
    have h4:i+1≠n - 1∨True:=.inr trivial
    have e1:n - i=(n - (i+1))+1:=by omega
    by_cases hz:n - 1 - i=0
    ·have:n - (i+1)=0:=by omega
     omega
    ·have e2:n - 1 - i=(n - 1 - (i+1))+1:=by omega
     rw[e1,e2,List.take_succ_cons,List.take_succ_cons,h3,List.cons_append]
   ·split at h
    ·obtain⟨m',rfl,h'⟩:=preQ_ok h
     obtain⟨h1,h2,h3⟩:=qtM_ends r (i+1) false m' n h'
     refine⟨by omega,by rw[List.length_cons];omega,?_⟩
     have e1:n - i=(n - (i+1))+1:=by omega
     have e2:n - 1 - i=(n - 1 - (i+1))+1:=by omega
     rw[e1,e2,List.take_succ_cons,List.take_succ_cons,h3,List.cons_append]
    ·cases h
theorem lcl_me (wide:Bool) (s:List UInt8):lcl wide s=match meL s with
  | .error e=>.error e
  | .ok (m,n)=>if 64<n then .error (90,0) else if fwL wide (s.take n)<(s.take n).length then .error (94,fwL wide (s.take n)) else .ok (m,n):=by
 unfold lcl meL
 by_cases h:s.head?=some 34
 ·rw[if_pos h,if_pos h]
  cases hq:qtM 1 false (s.drop 1) with
  |error x=>
   cases x<;>rfl
  |ok x=>
   obtain⟨m,n⟩:=x
   obtain⟨h1,h2,h3⟩:=qtM_ends _ _ _ _ _ hq
   dsimp only
   rw[finL_fw]
   obtain⟨c,r,rfl⟩:∃c r,s=c::r:=by
    cases s with
    |nil=>cases h
    |cons c r=>exact⟨c,r,rfl⟩
   rw[List.head?_cons]at h
   injection h with h
   subst h
   rw[List.drop_succ_cons,List.drop_zero]at h2 h3 ⊢
   have e1:n=(n - 1)+1:=by omega
   have ht:(34::r).take n=34::(r.take (n - 2)++[34]):=by
    have e3:n - 1 - 1=n - 2:=by omega
    rw[e3]at h3
    conv=>lhs;rw[e1]
    rw[List.take_succ_cons,h3]
   rw[ht,fwL_mark]
   have hl:(r.take (n - 2)).length=n - 2:=by rw[List.length_take];omega
   have hle:=fwL_le wide (r.take (n - 2))
   rw[hl]at hle
   have hll:(34::(r.take (n - 2)++[34])).length=n:=by
    rw[List.length_cons,List.length_append,hl,List.length_singleton]
    omega
   rw[hll,hl]
   by_cases h6:64<n
   ·rw[if_pos h6,if_pos h6]
   ·rw[if_neg h6,if_neg h6]
    by_cases h7:fwL wide (r.take (n - 2))=n - 2
    ·rw[if_neg (by omega),if_pos h7,if_neg (by omega)]
    ·rw[if_pos (by omega),if_neg h7,if_pos (by omega)]
 ·rw[if_neg h,if_neg h]
  by_cases h0:rowL s=0
  ·rw[if_pos h0,if_pos h0]
  ·rw[if_neg h0,if_neg h0,finL_fw]
   dsimp only
   rw[Nat.zero_add]
theorem meL_le {s m:List UInt8} {n:Nat} (h:meL s=.ok (m,n)):n≤s.length:=by
 unfold meL at h
 split at h
 ·cases hq:qtM 1 false (s.drop 1) with
  |error x=>rw[hq]at h;cases x<;>cases h
  |ok x=>
   obtain⟨m',n'⟩:=x
   rw[hq]at h
   dsimp only at h
   injection h with h
   injection h with h1 h2
   subst h2
   obtain⟨h1,h2,_⟩:=qtM_ends _ _ _ _ _ hq
   rw[List.length_drop]at h2
   omega
 ·split at h
  ·cases h
  ·injection h with h
   injection h with h1 h2
   subst h2
   exact rowL_le s
end Go.Proofs.YtfjpkfhbmldmfaaGreatDoor
