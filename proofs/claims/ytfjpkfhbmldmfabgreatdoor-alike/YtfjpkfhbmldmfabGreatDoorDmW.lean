/-
  Well-formed bytes, their labels and their small letters: plain mathematics.
-/
import Derived.Test.YtfjpkfhbmldmfabGreatDoorUtfE
namespace Go.Proofs.YtfjpkfhbmldmfabGreatDoor
def qs8:List Q:=[(0,0,0),(1,128,191),(2,160,191),(2,128,191),(2,128,159),(3,144,191),(3,128,191),(3,128,143)]
theorem begQ_mem {b:Nat} {q:Q} (h:begQ b=some q):q∈qs8:=by
 unfold begQ at h
 repeat' (split at h)
 all_goals (first|(injection h with h;subst h;decide)|cases h)
theorem stepQ_mem {q q':Q} {b:Nat} (hq:q∈qs8) (h:stepQ q b=some q'):q'∈qs8:=by
 have h3:q.1≤3:=by
  have:∀q∈qs8,q.1≤3:=by decide
  exact this q hq
 unfold stepQ at h
 split at h
 ·exact begQ_mem h
 ·rename_i h0
  split at h
  ·cases h
  ·split at h
   ·injection h with h;subst h;decide
   ·rename_i h1
    injection h with h
    subst h
    have:q.1=2∨q.1=3:=by omega
    rcases this with e|e
    ·rw[e];decide
    ·rw[e];decide
theorem runQ_mem:∀(l:List UInt8) (q q':Q),q∈qs8→runQ q l=some q'→q'∈qs8
 |[],q,q',hq,h=>by
  simp only[runQ]at h
  injection h with h
  rw[←h]
  exact hq
 |b::t,q,q',hq,h=>by
  simp only[runQ,Option.bind_eq_some_iff]at h
  obtain⟨q1,h1,h2⟩:=h
  exact runQ_mem t q1 q' (stepQ_mem hq h1) h2
theorem badUA_whole:∀(l:List UInt8) (q:Q) (n w:Nat),l≠[]→w≤n→(badUA q n w l=n+l.length↔∃q',runQ q l=some q'∧q'.1=0)
 |[],_,_,_,h,_=>absurd rfl h
 |b::t,q,n,w,_,hw=>by
  simp only[badUA,runQ]
  cases hs:stepQ q b.toNat with
  |none=>
   simp only[Option.bind_none,List.length_cons]
   constructor
   ·intro h;omega
   ·intro ⟨q',h,_⟩;cases h
  |some q1=>
   simp only[Option.bind_some,List.length_cons]
   cases t with
   |nil=>
    simp only[badUA,runQ,List.length_nil]
    constructor
    ·intro h
     refine⟨q1,rfl,?_⟩
     by_cases h0:q1.1=0
     ·exact h0
     ·rw[if_neg h0]at h;omega
    ·intro ⟨q',h,h0⟩
     injection h with h
     subst h
     rw[if_pos h0]
   |cons c t=>
    have:=badUA_whole (c::t) q1 (n+1) (if q1.1=0 then n+1 else w) (by simp) (by split<;>omega)
    rw[←this]
    constructor<;>intro h<;>omega
theorem badU_whole (l:List UInt8):badU l=l.length↔∃q',runQ q0 l=some q'∧q'.1=0:=by
 cases l with
 |nil=>exact⟨fun _=>⟨q0,rfl,rfl⟩,fun _=>rfl⟩
 |cons b t=>
  have:=badUA_whole (b::t) q0 0 0 (by simp) (Nat.le_refl _)
  rw[Nat.zero_add]at this
  exact this
theorem qs8_zero:∀q∈qs8,q.1=0→q=q0:=by decide
def Wf (l:List UInt8):Prop:=badU l=l.length
theorem wf_iff (l:List UInt8):Wf l↔runQ q0 l=some q0:=by
 unfold Wf
 rw[badU_whole]
 constructor
 ·rintro ⟨q,h,h0⟩
  rw[h,qs8_zero q (runQ_mem l q0 q (by decide) h) h0]
 ·intro h
  exact⟨q0,h,rfl⟩
theorem smB_high {c:UInt8} (h:¬c.toNat<128):smB c=c:=by
 unfold smB
 rw[if_neg (by omega)]
theorem splitD_none:∀x:List UInt8,(∀c∈x,c≠46)→splitD x=[x]
 |[],_=>rfl
 |c::r,h=>by
  rw[splitD,if_neg (h c (by simp)),splitD_none r fun x hx=>h x (by simp[hx])]
theorem splitD_dot:∀(x y:List UInt8),(∀c∈x,c≠46)→splitD (x++46::y)=x::splitD y
 |[],y,_=>by rw[List.nil_append,splitD,if_pos rfl]
 |c::r,y,h=>by
  rw[List.cons_append,splitD,if_neg (h c (by simp)),splitD_dot r y fun x hx=>h x (by simp[hx])]
theorem split_cases:∀s:List UInt8,(∀c∈s,c≠46)∨∃x y,(∀c∈x,c≠46)∧s=x++46::y
 |[]=>Or.inl fun c hc=>by cases hc
 |c::r=>by
  by_cases hc:c=46
  ·exact Or.inr ⟨[],r,fun c hc=>(by cases hc),by rw[hc];rfl⟩
  ·rcases split_cases r with h|⟨x,y,h,e⟩
   ·refine Or.inl fun d hd=>?_
    rcases List.mem_cons.1 hd with rfl|hd
    ·exact hc
    ·exact h d hd
   ·refine Or.inr ⟨c::x,y,fun d hd=>?_,by rw[e];rfl⟩
    rcases List.mem_cons.1 hd with rfl|hd
    ·exact hc
    ·exact h d hd
theorem splitD_ne:∀s:List UInt8,splitD s≠[]
 |[]=>by simp[splitD]
 |c::r=>by
  rw[splitD]
  split
  ·simp
  ·split<;>simp
structure LabW (l:List UInt8):Prop where
 ne:l≠[]
 le:l.length≤63
 ch:∀c∈l,lbB c=true∨128≤c.toNat
 hd:l.head?≠some 45
 la:l.getLast?≠some 45
structure LabA (l:List UInt8):Prop where
 ne:l≠[]
 le:l.length≤63
 ch:∀c∈l,lbB c=true
 hd:l.head?≠some 45
 la:l.getLast?≠some 45
structure RestA (n:Nat) (h:Bool) (x:List UInt8):Prop where
 ch:∀c∈x,lbB c=true
 hd:n=0→x.head?≠some 45
 le:n+x.length≤63
 ne:0<n+x.length
 em:x=[]→h=false
 la:x.getLast?≠some 45
theorem LabA.rest {x:List UInt8} (h:LabA x):RestA 0 false x:=
 ⟨h.ch,fun _=>h.hd,by have:=h.le;omega,by
  cases x with
  |nil=>exact absurd rfl h.ne
  |cons c r=>simp,fun _=>rfl,h.la⟩
theorem lbB_st {f a n:Nat} {c:UInt8} (h:lbB c=true) (h0:n=0→c≠45):stB f a n c=true:=by
 unfold lbB at h
 unfold stB
 simp only[Bool.or_eq_true,Bool.and_eq_true,decide_eq_true_eq]at h ⊢
 rcases h with h|h
 ·exact Or.inl (Or.inl h)
 ·refine Or.inl (Or.inr ⟨h,?_⟩)
  rcases Nat.eq_zero_or_pos n with h1|h1
  ·exact absurd h (h0 h1)
  ·exact h1
theorem wd_of_labels (f:Nat):∀(s:List UInt8) (a n:Nat) (h:Bool) (x:List UInt8) (xs:List (List UInt8)),splitD s=x::xs→RestA n h x→(∀l∈xs,LabA l)→wdGo f a n h s=none
 |[],a,n,h,x,xs,e,r,_=>by
  have:x=[]:=by
   have:[[]]=x::xs:=e
   injection this with h1 h2
   exact h1.symm
  subst this
  have h1:=r.ne
  have h2:=r.em rfl
  rw[wdGo,if_pos ⟨by simpa using h1,h2⟩]
 |c::s,a,n,h,x,xs,e,r,hx=>by
  rw[splitD]at e
  rw[wdGo]
  by_cases hc:c=46
  ·rw[if_pos hc]at e ⊢
   injection e with h1 h2
   subst h1
   have hne:=r.ne
   have hem:=r.em rfl
   rw[if_pos ⟨by simpa using hne,hem⟩]
   cases hs:splitD s with
   |nil=>exact absurd hs (splitD_ne s)
   |cons y ys=>
    rw[hs]at h2
    subst h2
    exact wd_of_labels f s _ _ _ y ys hs (hx y (by simp)).rest fun l hl=>hx l (by simp[hl])
  ·rw[if_neg hc]at e ⊢
   cases hs:splitD s with
   |nil=>exact absurd hs (splitD_ne s)
   |cons y ys=>
    rw[hs]at e
    have e':(c::y)::ys=x::xs:=e
    injection e' with h1 h2
    subst h1 h2
    have hst:stB f a n c=true:=lbB_st (r.ch c (by simp)) fun h0=>by simpa using r.hd h0
    have hle:=r.le
    rw[List.length_cons]at hle
    have:¬(n=63∨stB f a n c=false):=fun h=>by
     rcases h with h|h
     ·omega
     ·rw[hst]at h;cases h
    rw[if_neg this]
    refine wd_of_labels f s _ _ _ y ys hs ⟨fun d hd=>r.ch d (by simp[hd]),fun h=>(by omega),by omega,by omega,fun h=>?_,?_⟩ hx
    ·have:=r.la
     rw[h]at this
     simpa using this
    ·have:=r.la
     cases y with
     |nil=>simp
     |cons u v=>
      rw[List.getLast?_cons_cons]at this
      exact this
theorem lbB_fin:∀b:Fin 256,lbB (UInt8.ofNat b.val)=lbB (smB (UInt8.ofNat b.val))∧smB (smB (UInt8.ofNat b.val))=smB (UInt8.ofNat b.val)∧(smB (UInt8.ofNat b.val)=45↔UInt8.ofNat b.val=45)∧(lbB (UInt8.ofNat b.val)=true→b.val<128):=by decide+kernel
theorem smB_facts (c:UInt8):lbB c=lbB (smB c)∧smB (smB c)=smB c∧(smB c=45↔c=45)∧(lbB c=true→c.toNat<128):=by
 have:=lbB_fin ⟨c.toNat,c.toNat_lt⟩
 simpa using this
theorem sml_head (l:List UInt8):(sml l).head?=some 45↔l.head?=some 45:=by
 cases l with
 |nil=>simp[sml]
 |cons c r=>simp[sml,(smB_facts c).2.2.1]
theorem sml_last (l:List UInt8):(sml l).getLast?=some 45↔l.getLast?=some 45:=by
 unfold sml
 rw[List.getLast?_map]
 cases l.getLast? with
 |none=>simp
 |some c=>simp[(smB_facts c).2.2.1]
theorem LabW.sml {l:List UInt8} (h:LabW l):LabW (sml l):=by
 refine⟨fun e=>h.ne (by simpa [Go.Proofs.YtfjpkfhbmldmfabGreatDoor.sml] using e),by have:=h.le;simpa [Go.Proofs.YtfjpkfhbmldmfabGreatDoor.sml] using this,fun c hc=>?_,fun e=>h.hd ((sml_head l).1 e),fun e=>h.la ((sml_last l).1 e)⟩
 obtain⟨d,hd,rfl⟩:=List.mem_map.1 hc
 rcases h.ch d hd with h1|h1
 ·exact Or.inl ((smB_facts d).1 ▸ h1)
 ·exact Or.inr (by rw[smB_high (by omega)];exact h1)
end Go.Proofs.YtfjpkfhbmldmfabGreatDoor
