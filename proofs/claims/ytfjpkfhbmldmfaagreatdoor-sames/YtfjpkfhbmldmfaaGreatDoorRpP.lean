/-
  Narrow paths are read alike with wide and without; what is read may be.
-/
import Derived.Test.YtfjpkfhbmldmfaaGreatDoorPtF
import Derived.Test.YtfjpkfhbmldmfaaGreatDoorDmW
namespace Go.Proofs.YtfjpkfhbmldmfaaGreatDoor
def Low (l:List UInt8):Prop:=∀c∈l,c.toNat<128
theorem low_cons {c:UInt8} {l:List UInt8}:Low (c::l)↔c.toNat<128∧Low l:=
 ⟨fun h=>⟨h c (List.mem_cons_self ..),fun d hd=>h d (List.mem_cons_of_mem _ hd)⟩,fun ⟨h1,h2⟩ d hd=>by
  rcases List.mem_cons.1 hd with e|hd
  ·rw[e];exact h1
  ·exact h2 d hd⟩
theorem preQ_ok {c:UInt8} {x:Except (Option Nat) (List UInt8×Nat)} {m:List UInt8} {n:Nat} (h:preQ c x=.ok (m,n)):∃m',m=c::m'∧x=.ok (m',n):=by
 cases x with
 |error e=>cases h
 |ok y=>
  obtain⟨a,b⟩:=y
  rw[preQ]at h
  injection h with h
  injection h with h1 h2
  exact⟨a,h1.symm,by rw[h2]⟩
structure QtIs (i n:Nat) (s m:List UInt8) (k:Nat):Prop where
 low:Low (s.take (n - i - 1))↔Low m
 lp:m.all lpB=true
 esc:(escL m).length+1+i≤n+k
 run:∀q q',q∈qs8→runQ q (s.take (n - i - 1))=some q'→runQ q m=some q'
theorem escL_cons (c:UInt8) (m:List UInt8):escL (c::m)=if c=34∨c=92 then 92::c::escL m else c::escL m:=rfl
theorem qt_lp {c:UInt8} (h:qtB c=true):lpB c=true∧c≠34∧c≠92:=by
 unfold qtB at h
 unfold lpB
 rw[Bool.or_eq_true,Bool.and_eq_true,Bool.and_eq_true,Bool.and_eq_true]at h
 simp only[decide_eq_true_eq,Bool.not_eq_true',decide_eq_false_iff_not]at h
 rcases h with⟨⟨⟨h1,h2⟩,h3⟩,h4⟩|h
 ·refine⟨?_,h3,h4⟩
  rw[decide_eq_true h1,decide_eq_false (by omega)]
  rfl
 ·refine⟨?_,fun e=>?_,fun e=>?_⟩
  ·rw[decide_eq_true (by omega),decide_eq_false (by omega)]
   rfl
  ·rw[e]at h;revert h;decide
  ·rw[e]at h;revert h;decide
theorem sh_lp {c:UInt8} (h:shB c=true):lpB c=true:=by
 unfold shB at h
 rw[Bool.and_eq_true,decide_eq_true_eq,decide_eq_true_eq]at h
 unfold lpB
 rw[decide_eq_true h.1,decide_eq_false (by omega)]
 rfl
theorem qtM_is:∀(s:List UInt8) (i:Nat) (b:Bool) (m:List UInt8) (n:Nat),qtM i b s=.ok (m,n)→QtIs i n s m (if b=true then 1 else 0)
 |[],i,b,m,n,h=>by cases b<;>cases h
 |c::s,i,true,m,n,h=>by
  rw[qtM]at h
  split at h
  ·rename_i hc
   obtain⟨m',rfl,hq⟩:=preQ_ok h
   have hi:=(qtM_front _ _ _ _ _ hq).1
   have ih:=qtM_is s (i+1) false m' n hq
   have et:(c::s).take (n - i - 1)=c::s.take (n - (i+1) - 1):=by
    rw[show n - i - 1=(n - (i+1) - 1)+1 from by omega,List.take_succ_cons]
   refine⟨?_,?_,?_,fun q q' hq hr=>?_⟩
   ·rw[et,low_cons,low_cons,ih.low]
   ·rw[List.all_cons,sh_lp hc,ih.lp];rfl
   ·have:=ih.esc
    rw[if_neg (by decide)]at this
    rw[escL_cons,if_pos rfl]
    split<;>simp only[List.length_cons]<;>omega
   ·rw[et,runQ]at hr
    rw[runQ]
    cases hs:stepQ q c.toNat with
    |none=>rw[hs]at hr;cases hr
    |some p=>
     rw[hs,Option.bind_some]at hr
     rw[Option.bind_some]
     exact ih.run p q' (stepQ_mem hq hs) hr
  ·cases h
 |c::s,i,false,m,n,h=>by
  rw[qtM]at h
  split at h
  ·injection h with h
   injection h with h1 h2
   subst h1 h2
   have et:(c::s).take (i+1 - i - 1)=[]:=by rw[show i+1 - i - 1=0 from by omega,List.take_zero]
   refine⟨?_,rfl,?_,fun q q' _ hr=>?_⟩
   ·rw[et]
   ·rw[escL,List.length_nil];omega
   ·rw[et]at hr;exact hr
  ·rename_i hc
   split at h
   ·rename_i hd
    subst hd
    have hi:=(qtM_front _ _ _ _ _ h).1
    have ih:=qtM_is s (i+1) true m n h
    by_cases hz:n=i+2
    ·exfalso
     subst hz
     cases s with
     |nil=>cases h
     |cons d s=>
      rw[qtM]at h
      split at h
      ·obtain⟨m',_,hq⟩:=preQ_ok h
       have:=(qtM_front _ _ _ _ _ hq).1
       omega
      ·cases h
    have et:(92::s:List UInt8).take (n - i - 1)=92::s.take (n - (i+1) - 1):=by
     rw[show n - i - 1=(n - (i+1) - 1)+1 from by omega,List.take_succ_cons]
    refine⟨?_,ih.lp,?_,fun q q' hq hr=>?_⟩
    ·rw[et,low_cons,ih.low]
     exact⟨fun h=>h.2,fun h=>⟨by decide,h⟩⟩
    ·have:=ih.esc
     rw[if_pos rfl]at this
     rw[if_neg (by decide)]
     omega
    ·rw[et,runQ]at hr
     cases hs:stepQ q (92:UInt8).toNat with
     |none=>rw[hs]at hr;cases hr
     |some p=>
      have h0:q=q0:=qs8_92 q hq (by rw[show(92:UInt8).toNat=92 from rfl]at hs;rw[hs];rfl)
      subst h0
      rw[show stepQ q0 (92:UInt8).toNat=some q0 from rfl,Option.bind_some]at hr
      exact ih.run q0 q' hq hr
   ·rename_i hd
    split at h
    ·rename_i he
     obtain⟨m',rfl,hq⟩:=preQ_ok h
     obtain⟨l1,l2,l3⟩:=qt_lp he
     have hi:=(qtM_front _ _ _ _ _ hq).1
     have ih:=qtM_is s (i+1) false m' n hq
     have et:(c::s).take (n - i - 1)=c::s.take (n - (i+1) - 1):=by
      rw[show n - i - 1=(n - (i+1) - 1)+1 from by omega,List.take_succ_cons]
     refine⟨?_,?_,?_,fun q q' hq hr=>?_⟩
     ·rw[et,low_cons,low_cons,ih.low]
     ·rw[List.all_cons,l1,ih.lp];rfl
     ·have:=ih.esc
      rw[if_neg (by decide)]at this ⊢
      rw[escL_cons,if_neg (fun h=>h.elim l2 l3),List.length_cons]
      omega
     ·rw[et,runQ]at hr
      rw[runQ]
      cases hs:stepQ q c.toNat with
      |none=>rw[hs]at hr;cases hr
      |some p=>
       rw[hs,Option.bind_some]at hr
       rw[Option.bind_some]
       exact ih.run p q' (stepQ_mem hq hs) hr
    ·cases h
theorem escL_le:∀l:List UInt8,l.length≤(escL l).length
 |[]=>Nat.le_refl _
 |c::r=>by
  have:=escL_le r
  rw[escL_cons]
  split<;>simp only[List.length_cons]<;>omega
theorem rowG_or:∀(s:List UInt8) (e i:Nat) (b:Bool),e≤i→rowG e i b s=e∨i<rowG e i b s
 |[],e,i,b,_=>.inl rfl
 |c::r,e,i,b,h=>by
  rw[rowG]
  split
  ·have:=rowG_or r (i+1) (i+1) true (Nat.le_refl _)
   right
   omega
  ·split
   ·have:=rowG_or r e (i+1) false (by omega)
    omega
   ·exact .inl rfl
theorem rowG_take:∀(s:List UInt8) (e i:Nat) (b:Bool),e≤i→rowG e i b (s.take (rowG e i b s - i))=rowG e i b s
 |[],e,i,b,_=>by rw[List.take_nil]
 |c::r,e,i,b,h=>by
  by_cases hc:atB c=true
  ·have e1:rowG e i b (c::r)=rowG (i+1) (i+1) true r:=by rw[rowG,if_pos hc]
   have:=rowG_or r (i+1) (i+1) true (Nat.le_refl _)
   rw[e1,show rowG (i+1) (i+1) true r - i=(rowG (i+1) (i+1) true r - (i+1))+1 from by omega,List.take_succ_cons,rowG,if_pos hc]
   exact rowG_take r (i+1) (i+1) true (Nat.le_refl _)
  ·by_cases hd:c=46∧b=true
   ·have e1:rowG e i b (c::r)=rowG e (i+1) false r:=by rw[rowG,if_neg hc,if_pos hd]
    rw[e1]
    rcases rowG_or r e (i+1) false (by omega) with h'|h'
    ·rw[h',show e - i=0 from by omega,List.take_zero,rowG]
    ·rw[show rowG e (i+1) false r - i=(rowG e (i+1) false r - (i+1))+1 from by omega,List.take_succ_cons,rowG,if_neg hc,if_pos hd]
     exact rowG_take r e (i+1) false (by omega)
   ·have e1:rowG e i b (c::r)=e:=by rw[rowG,if_neg hc,if_neg hd]
    rw[e1,show e - i=0 from by omega,List.take_zero,rowG]
theorem row_plain {s:List UInt8} (h:rowL s≠0):plainL (s.take (rowL s))=true:=by
 have h1:=rowG_take s 0 0 false (Nat.le_refl _)
 have h2:=rowL_le s
 unfold plainL
 rw[Bool.and_eq_true,decide_eq_true_eq,decide_eq_true_eq]
 constructor
 ·intro e
  have:=congrArg List.length e
  rw[List.length_take,List.length_nil]at this
  omega
 ·rw[List.length_take,Nat.min_eq_left h2]
  unfold rowL at h1 ⊢
  rw[Nat.sub_zero]at h1
  exact h1
theorem at_lp_fin:∀b:Fin 256,(atB (UInt8.ofNat b.val)=true∨UInt8.ofNat b.val=46)→lpB (UInt8.ofNat b.val)=true:=by decide+kernel
theorem ckL_of {l:List UInt8} {wide:Bool} (h1:l.all lpB=true) (h2:(wrL l).length≤64) (h3:wide=false→Low l) (h4:Wf l):ckL l wide=0:=by
 unfold ckL
 rw[if_neg,if_neg]
 ·rintro (⟨h,hw⟩|h)
  ·rw[spB_full fun c hc=>(loB_iff c).2 (h3 hw c hc)]at h
   omega
  ·unfold Wf at h4
   omega
 ·rintro (h|h)
  ·have h1':l.all (fun c=>decide (32≤c.toNat)&&!decide (c.toNat=127))=true:=h1
   rw[h1']at h
   cases h
  ·omega
theorem lcl_again {wide:Bool} {s l:List UInt8} {n:Nat} (h:lcl wide s=.ok (l,n)):ckL l wide=0∧(wrL l).length≤n:=by
 obtain⟨hn,h0,h64,hh⟩:=lcl_is h
 rcases hh with⟨h34,h2,hq,hw,hf⟩|⟨h34,hr,hl,hw,hf⟩
 ·have qi:=qtM_is _ _ _ _ _ hq
  have esc:=qi.esc
  rw[if_neg (by decide)]at esc
  have e:n - 1 - 1=n - 2:=by omega
  have hlen:(wrL l).length≤n:=by
   unfold wrL
   have:=escL_le l
   split
   ·omega
   ·simp only[List.length_cons,List.length_append,List.length_nil]
    omega
  refine⟨ckL_of qi.lp (by omega) (fun w=>?_) ?_,hlen⟩
  ·rw[←qi.low,e]
   exact hw w
  ·rw[wf_iff]at hf ⊢
   exact qi.run q0 q0 q0_mem (by rw[e];exact hf)
 ·have hp:plainL l=true:=by rw[hl,←hr];exact row_plain (by omega)
  have e:wrL l=l:=by unfold wrL;rw[if_pos hp]
  have hll:l.length=n:=by rw[hl,List.length_take];omega
  refine⟨ckL_of ?_ (by rw[e];omega) hw hf,by rw[e];omega⟩
  rw[List.all_eq_true]
  intro c hc
  exact of_fin (P:=fun c=>(atB c=true∨c=46)→lpB c=true) at_lp_fin c (plain_mem hp c hc)
end Go.Proofs.YtfjpkfhbmldmfaaGreatDoor
