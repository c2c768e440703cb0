/-
  A path that may be is read as it was; what stands behind a path changes nothing; where faults lie.
-/
import Derived.Test.YtfjpkfhbmldmfabGreatDoorPtB
namespace Go.Proofs.YtfjpkfhbmldmfabGreatDoor
theorem rowG_full:∀(s:List UInt8) (e i:Nat) (b:Bool),e≤i→rowG e i b s=i+s.length→∀c∈s,atB c=true∨c=46
 |[],_,_,_,_,_,c,hc=>by cases hc
 |d::r,e,i,b,h,hr,c,hc=>by
  rw[rowG,List.length_cons]at hr
  split at hr
  ·rename_i hd
   rcases List.mem_cons.1 hc with e|hc
   ·rw[e];exact .inl hd
   ·exact rowG_full r (i+1) (i+1) true (Nat.le_refl _) (by omega) c hc
  ·split at hr
   ·rename_i hd
    rcases List.mem_cons.1 hc with e|hc
    ·rw[e];exact .inr hd.1
    ·exact rowG_full r e (i+1) false (by omega) (by omega) c hc
   ·omega
theorem plain_mem {l:List UInt8} (h:plainL l=true):∀c∈l,atB c=true∨c=46:=by
 have:=(plain_is h).2
 unfold rowL at this
 exact rowG_full l 0 0 false (Nat.le_refl _) (by omega)
theorem ckR_is {wide:Bool}:∀{r:List Ho},ckR r wide=0→∀h∈r,check h wide=0
 |[],_,h,hh=>by cases hh
 |g::r,hr,h,hh=>by
  rw[ckR]at hr
  split at hr
  ·rename_i hg
   rcases List.mem_cons.1 hh with e|hh
   ·rw[e];exact hg
   ·exact ckR_is hr h hh
  ·rename_i hg
   exact absurd hr hg
theorem ckR_of {wide:Bool}:∀{r:List Ho},(∀h∈r,check h wide=0)→ckR r wide=0
 |[],_=>rfl
 |g::r,h=>by
  rw[ckR,if_pos (h g (List.mem_cons_self ..))]
  exact ckR_of fun x hx=>h x (List.mem_cons_of_mem _ hx)
theorem ckB_box {p:Pt} {wide:Bool} (hk:p.k=3):ckB p wide=0↔p.r.length≤16∧(∀h∈p.r,h.k=1∧check h wide=0)∧ckL p.l wide=0∧check p.h wide=0:=by
 unfold ckB
 rw[if_neg (by omega),if_pos hk]
 constructor
 ·intro h
  split at h
  ·cases h
  ·rename_i h1
   split at h
   ·rename_i h2;exact absurd h h2
   ·rename_i h2
    split at h
    ·rename_i h3;exact absurd h h3
    ·rename_i h3
     have h2':ckR p.r wide=0:=Decidable.not_not.1 h2
     have h3':ckL p.l wide=0:=Decidable.not_not.1 h3
     have ha:p.r.all (fun h=>decide (h.k=1))=true:=by
      cases hq:p.r.all (fun h=>decide (h.k=1)) with
      |true=>rfl
      |false=>exact absurd (Or.inr hq) h1
     refine⟨by omega,fun x hx=>⟨?_,ckR_is h2' x hx⟩,h3',h⟩
     have:=List.all_eq_true.1 ha x hx
     rwa[decide_eq_true_eq]at this
 ·rintro ⟨h1,h2,h3,h4⟩
  rw[if_neg,if_neg,if_neg,h4]
  ·rw[h3];decide
  ·rw[ckR_of fun x hx=>(h2 x hx).2];decide
  ·rintro (h|h)
   ·omega
   ·have:p.r.all (fun h=>decide (h.k=1))=true:=List.all_eq_true.2 fun x hx=>decide_eq_true (h2 x hx).1
    rw[this]at h
    cases h
theorem ckP_is {p:Pt} {wide:Bool} (h:ckP p wide=0):ckB p wide=0∧(wrP p).length≤256:=by
 unfold ckP at h
 split at h
 ·cases h
 ·rename_i h1
  refine⟨h,?_⟩
  rcases Nat.lt_or_ge 256 (wrP p).length with h2|h2
  ·exact absurd ⟨h,h2⟩ h1
  ·exact h2
def Pt.Ok (p:Pt):Prop:=(∀h∈p.r,h.Ok)∧p.h.Ok
theorem qtM_front:∀(s:List UInt8) (i:Nat) (b:Bool) (m:List UInt8) (n:Nat),qtM i b s=.ok (m,n)→i<n∧n≤i+s.length∧∀r,qtM i b (s.take (n - i)++r)=.ok (m,n)
 |[],i,b,m,n,h=>by cases b<;>cases h
 |c::s,i,true,m,n,h=>by
  rw[qtM]at h
  split at h
  ·rename_i hc
   cases hq:qtM (i+1) false s with
   |error e=>rw[hq]at h;cases h
   |ok x=>
    obtain⟨m',n'⟩:=x
    rw[hq,preQ]at h
    injection h with h
    injection h with h1 h2
    subst h1 h2
    obtain⟨a,b,f⟩:=qtM_front s (i+1) false m' n' hq
    refine⟨by omega,by rw[List.length_cons];omega,fun r=>?_⟩
    rw[show n' - i=(n' - (i+1))+1 from by omega,List.take_succ_cons,List.cons_append,qtM,if_pos hc,f r,preQ]
  ·cases h
 |c::s,i,false,m,n,h=>by
  rw[qtM]at h
  split at h
  ·rename_i hc
   injection h with h
   injection h with h1 h2
   subst h1 h2
   refine⟨by omega,by rw[List.length_cons];omega,fun r=>?_⟩
   rw[show i+1 - i=0+1 from by omega,List.take_succ_cons,List.cons_append,qtM,if_pos hc]
  ·rename_i hc
   split at h
   ·rename_i hd
    obtain⟨a,b,f⟩:=qtM_front s (i+1) true m n h
    refine⟨by omega,by rw[List.length_cons];omega,fun r=>?_⟩
    rw[show n - i=(n - (i+1))+1 from by omega,List.take_succ_cons,List.cons_append,qtM,if_neg hc,if_pos hd,f r]
   ·rename_i hd
    split at h
    ·rename_i he
     cases hq:qtM (i+1) false s with
     |error e=>rw[hq]at h;cases h
     |ok x=>
      obtain⟨m',n'⟩:=x
      rw[hq,preQ]at h
      injection h with h
      injection h with h1 h2
      subst h1 h2
      obtain⟨a,b,f⟩:=qtM_front s (i+1) false m' n' hq
      refine⟨by omega,by rw[List.length_cons];omega,fun r=>?_⟩
      rw[show n' - i=(n' - (i+1))+1 from by omega,List.take_succ_cons,List.cons_append,qtM,if_neg hc,if_neg hd,if_pos he,f r,preQ]
    ·cases h
theorem finL_is {wide:Bool} {b m m':List UInt8} {f n n':Nat} (h:finL wide b f m n=.ok (m',n')):m'=m∧n'=n∧n≤64∧(wide=false→∀c∈b,c.toNat<128)∧Wf b:=by
 unfold finL at h
 split at h
 ·cases h
 ·rename_i h1
  split at h
  ·cases h
  ·rename_i h2
   split at h
   ·cases h
   ·rename_i h3
    injection h with h
    injection h with ha hb
    refine⟨ha.symm,hb.symm,by omega,fun hw c hc=>?_,?_⟩
    ·rw[←loB_iff]
     have hle:=spB_le loB b
     refine spB_mem ?_ c hc
     rcases Nat.lt_or_ge (spB loB b) b.length with h'|h'
     ·exact absurd ⟨hw,h'⟩ h2
     ·omega
    ·have:=badU_le b
     unfold Wf
     omega
theorem lcl_is {wide:Bool} {s l:List UInt8} {n:Nat} (h:lcl wide s=.ok (l,n)):n≤s.length∧0<n∧n≤64∧
  ((s.head?=some 34∧2≤n∧qtM 1 false (s.drop 1)=.ok (l,n)∧(wide=false→∀c∈(s.drop 1).take (n - 2),c.toNat<128)∧Wf ((s.drop 1).take (n - 2)))∨
  (s.head?≠some 34∧rowL s=n∧l=s.take n∧(wide=false→∀c∈l,c.toNat<128)∧Wf l)):=by
 unfold lcl at h
 split at h
 ·rename_i h34
  split at h
  ·cases h
  ·cases h
  ·rename_i m k hq
   obtain⟨a1,a2,a3,a4,a5⟩:=finL_is h
   subst a1 a2
   obtain⟨b1,b2,_⟩:=qtM_front _ _ _ _ _ hq
   rw[List.length_drop]at b2
   have:1≤s.length:=by
    cases s with
    |nil=>cases h34
    |cons c r=>simp
   exact⟨by omega,by omega,a3,.inl ⟨h34,by omega,hq,a4,a5⟩⟩
 ·rename_i h34
  split at h
  ·cases h
  ·rename_i h0
   obtain⟨a1,a2,a3,a4,a5⟩:=finL_is h
   subst a1 a2
   exact⟨rowL_le s,by omega,a3,.inr ⟨h34,rfl,rfl,a4,a5⟩⟩
theorem spB_at (f:UInt8→Bool):∀(l:List UInt8) (h:spB f l<l.length),f l[spB f l]=false
 |[],h=>by simp at h
 |c::r,h=>by
  cases hc:f c with
  |false=>
   have e:spB f (c::r)=0:=by rw[spB,if_neg (by rw[hc];decide)]
   simp only[e,List.getElem_cons_zero,hc]
  |true=>
   have e:spB f (c::r)=spB f r+1:=by rw[spB,if_pos hc]
   have h':spB f r<r.length:=by rw[e,List.length_cons]at h;omega
   simp only[e,List.getElem_cons_succ]
   exact spB_at f r h'
theorem not93 (c:UInt8) (h:notB (· ==93) c=false):c=93:=by
 unfold notB at h
 simpa using h
theorem hstN_le (s:List UInt8):hstN s≤s.length:=by
 unfold hstN
 have h1:=spB_le (notB (· ==93)) s
 have h2:=spB_le (notB stopB) s
 split
 ·split<;>omega
 ·exact h2
theorem parse_nil (wide:Bool):parse [] wide=(ho0,(80,0)):=by
 unfold parse
 rw[if_neg (by simp)]
 have:wd wide []=(80,0):=by
  unfold wd
  rw[if_neg (by decide),wdGo,if_neg (by simp)]
 rw[this]
 rfl
theorem hst_is {wide:Bool} {s:List UInt8} {h:Ho} {n:Nat} (hh:hst wide s=.ok (h,n)):n=hstN s∧n≤s.length∧parse (s.take n) wide=(h,(0,0))∧
  (((∀c∈s.take n,notB stopB c=true)∧(s.take n).head?≠some 91∧s.take n≠[])∨∃x,s.take n=[91]++x++[93]∧∀c∈x,c≠93):=by
 unfold hst at hh
 split at hh
 ·rename_i h0
  injection hh with hh
  injection hh with e1 e2
  subst e2
  obtain⟨b1,_⟩:=back_text (s.take (hstN s)) wide
  have hp:parse (s.take (hstN s)) wide=(h,(0,0)):=by
   rw[←e1,←(b1 h0).1]
  refine⟨rfl,hstN_le s,hp,?_⟩
  by_cases h91:s.head?=some 91
  ·right
   obtain⟨r,rfl⟩:∃r,s=91::r:=by
    cases s with
    |nil=>cases h91
    |cons c r=>rw[List.head?_cons]at h91;injection h91 with e;exact⟨r,by rw[e]⟩
   have hN:hstN (91::r)=if spB (notB (· ==93)) (91::r)<(91::r:List UInt8).length then spB (notB (· ==93)) (91::r)+1 else spB (notB (· ==93)) (91::r):=by
    unfold hstN
    rw[if_pos List.head?_cons]
   by_cases hlt:spB (notB (· ==93)) (91::r)<(91::r:List UInt8).length
   ·rw[if_pos hlt]at hN
    have hs:spB (notB (· ==93)) (91::r)=spB (notB (· ==93)) r+1:=by rw[spB,if_pos (by decide)]
    rw[hs,List.length_cons]at hlt
    rw[hs]at hN
    have hlt':spB (notB (· ==93)) r<r.length:=by omega
    have hg:=spB_at (notB (· ==93)) r hlt'
    have hc:r[spB (notB (· ==93)) r]=93:=not93 _ hg
    refine⟨r.take (spB (notB (· ==93)) r),?_,fun c hc'=>?_⟩
    ·rw[hN,List.take_succ_cons,List.take_succ_eq_append_getElem hlt',hc]
     simp
    ·have:=spB_take r c hc'
     unfold notB at this
     simpa using this
   ·exfalso
    rw[if_neg hlt]at hN
    have hle:=spB_le (notB (· ==93)) (91::r)
    have hall:=spB_mem (f:=notB (· ==93)) (l:=91::r) (by omega)
    rw[hN,List.take_of_length_le (by omega)]at hp
    have:parse (91::r) wide=lit (91::r):=by
     unfold parse
     rw[if_pos List.head?_cons]
    rw[this]at hp
    unfold lit at hp
    split at hp
    ·injection hp with _ hp;injection hp with hp;cases hp
    ·split at hp
     ·injection hp with _ hp;injection hp with hp;cases hp
     ·rename_i hlast
      have hl:(91::r:List UInt8).getLast?=some 93:=Decidable.not_not.1 hlast
      have:=hall 93 (List.mem_of_getLast? hl)
      revert this
      decide
  ·left
   have hN:hstN s=spB (notB stopB) s:=by
    unfold hstN
    rw[if_neg h91]
   refine⟨fun c hc=>?_,fun e=>h91 ?_,fun e=>?_⟩
   ·rw[hN]at hc
    exact spB_take s c hc
   ·cases s with
    |nil=>simp at e
    |cons c r=>
     cases hz:hstN (c::r) with
     |zero=>rw[hz,List.take_zero]at e;cases e
     |succ k=>rw[hz,List.take_succ_cons]at e;exact e
   ·rw[e,parse_nil]at hp
    injection hp with _ hp
    injection hp with hp
    cases hp
 ·cases hh
end Go.Proofs.YtfjpkfhbmldmfabGreatDoor
