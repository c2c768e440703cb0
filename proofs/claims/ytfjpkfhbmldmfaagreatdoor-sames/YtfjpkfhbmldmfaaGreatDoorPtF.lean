/-
  A path that may be is read as it was; what stands behind a path changes nothing; where faults lie.
-/
import Derived.Test.YtfjpkfhbmldmfaaGreatDoorPtB
namespace Go.Proofs.YtfjpkfhbmldmfaaGreatDoor
theorem rowG_full:∀(s:List UInt8) (e i:Nat) (b:Bool),e≤i→rowG e i b s=i+s.length→∀c∈s,atB c=true∨c=46
 |[],_,_,_,_,_,c,hc=>by cases hc
 |d::r,e,i,b,h,hr,c,hc=>by
  rw[rowG,List.length_cons]at hr
  split at hr
  ·rename_i hd
   rcases List.mem_cons.1 hc with e|hc
   ·rw[e];exact .inl hd
   ·exact rowG_full r (i+1) (i+1) true (Nat.le_refl _) (by omega) c hc
  ·split at hr
   ·rename_i hd
    rcases List.mem_cons.1 hc with e|hc
    ·rw[e];exact .inr hd.1
    ·exact rowG_full r e (i+1) false (by omega) (by omega) c hc
   ·omega
theorem plain_mem {l:List UInt8} (h:plainL l=true):∀c∈l,atB c=true∨c=46:=by
 have:=(plain_is h).2
 unfold rowL at this
 exact rowG_full l 0 0 false (Nat.le_refl _) (by omega)
def Pt.Ok (p:Pt):Prop:=(∀h∈p.r,h.Ok)∧p.h.Ok
theorem qtM_front:∀(s:List UInt8) (i:Nat) (b:Bool) (m:List UInt8) (n:Nat),qtM i b s=.ok (m,n)→i<n∧n≤i+s.length∧∀r,qtM i b (s.take (n - i)++r)=.ok (m,n)
 |[],i,b,m,n,h=>by cases b<;>cases h
 |c::s,i,true,m,n,h=>by
  rw[qtM]at h
  split at h
  ·rename_i hc
   cases hq:qtM (i+1) false s with
   |error e=>rw[hq]at h;cases h
   |ok x=>
    obtain⟨m',n'⟩:=x
    rw[hq,preQ]at h
    injection h with h
    injection h with h1 h2
    subst h1 h2
    obtain⟨a,b,f⟩:=qtM_front s (i+1) false m' n' hq
    refine⟨by omega,by rw[List.length_cons];omega,fun r=>?_⟩
    rw[show n' - i=(n' - (i+1))+1 from by omega,List.take_succ_cons,List.cons_append,qtM,if_pos hc,f r,preQ]
  ·cases h
 |c::s,i,false,m,n,h=>by
  rw[qtM]at h
  split at h
  ·rename_i hc
   injection h with h
   injection h with h1 h2
   subst h1 h2
   refine⟨by omega,by rw[List.length_cons];omega,fun r=>?_⟩
   rw[show i+1 - i=0+1 from by omega,List.take_succ_cons,List.cons_append,qtM,if_pos hc]
  ·rename_i hc
   split at h
   ·rename_i hd
    obtain⟨a,b,f⟩:=qtM_front s (i+1) true m n h
    refine⟨by omega,by rw[List.length_cons];omega,fun r=>?_⟩
    rw[show n - i=(n - (i+1))+1 from by omega,List.take_succ_cons,List.cons_append,qtM,if_neg hc,if_pos hd,f r]
   ·rename_i hd
    split at h
    ·rename_i he
     cases hq:qtM (i+1) false s with
     |error e=>rw[hq]at h;cases h
     |ok x=>
      obtain⟨m',n'⟩:=x
      rw[hq,preQ]at h
      injection h with h
      injection h with h1 h2
      subst h1 h2
      obtain⟨a,b,f⟩:=qtM_front s (i+1) false m' n' hq
      refine⟨by omega,by rw[List.length_cons];omega,fun r=>?_⟩
      rw[show n' - i=(n' - (i+1))+1 from by omega,List.take_succ_cons,List.cons_append,qtM,if_neg hc,if_neg hd,if_pos he,f r,preQ]
    ·cases h
theorem finL_is {wide:Bool} {b m m':List UInt8} {f n n':Nat} (h:finL wide b f m n=.ok (m',n')):m'=m∧n'=n∧n≤64∧(wide=false→∀c∈b,c.toNat<128)∧Wf b:=by
 unfold finL at h
 split at h
 ·cases h
 ·rename_i h1
  split at h
  ·cases h
  ·rename_i h2
   split at h
   ·cases h
   ·rename_i h3
    injection h with h
    injection h with ha hb
    refine⟨ha.symm,hb.symm,by omega,fun hw c hc=>?_,?_⟩
    ·rw[←loB_iff]
     have hle:=spB_le loB b
     refine spB_mem ?_ c hc
     rcases Nat.lt_or_ge (spB loB b) b.length with h'|h'
     ·exact absurd ⟨hw,h'⟩ h2
     ·omega
    ·have:=badU_le b
     unfold Wf
     omega
theorem lcl_is {wide:Bool} {s l:List UInt8} {n:Nat} (h:lcl wide s=.ok (l,n)):n≤s.length∧0<n∧n≤64∧
  ((s.head?=some 34∧2≤n∧qtM 1 false (s.drop 1)=.ok (l,n)∧(wide=false→∀c∈(s.drop 1).take (n - 2),c.toNat<128)∧Wf ((s.drop 1).take (n - 2)))∨
  (s.head?≠some 34∧rowL s=n∧l=s.take n∧(wide=false→∀c∈l,c.toNat<128)∧Wf l)):=by
 unfold lcl at h
 split at h
 ·rename_i h34
  split at h
  ·cases h
  ·cases h
  ·rename_i m k hq
   obtain⟨a1,a2,a3,a4,a5⟩:=finL_is h
   subst a1 a2
   obtain⟨b1,b2,_⟩:=qtM_front _ _ _ _ _ hq
   rw[List.length_drop]at b2
   have:1≤s.length:=by
    cases s with
    |nil=>cases h34
    |cons c r=>simp
   exact⟨by omega,by omega,a3,.inl ⟨h34,by omega,hq,a4,a5⟩⟩
 ·rename_i h34
  split at h
  ·cases h
  ·rename_i h0
   obtain⟨a1,a2,a3,a4,a5⟩:=finL_is h
   subst a1 a2
   exact⟨rowL_le s,by omega,a3,.inr ⟨h34,rfl,rfl,a4,a5⟩⟩
theorem spB_at (f:UInt8→Bool):∀(l:List UInt8) (h:spB f l<l.length),f l[spB f l]=false
 |[],h=>by simp at h
 |c::r,h=>by
  cases hc:f c with
  |false=>
   have e:spB f (c::r)=0:=by rw[spB,if_neg (by rw[hc];decide)]
   simp only[e,List.getElem_cons_zero,hc]
  |true=>
   have e:spB f (c::r)=spB f r+1:=by rw[spB,if_pos hc]
   have h':spB f r<r.length:=by rw[e,List.length_cons]at h;omega
   simp only[e,List.getElem_cons_succ]
   exact spB_at f r h'
theorem not93 (c:UInt8) (h:notB (· ==93) c=false):c=93:=by
 unfold notB at h
 simpa using h
theorem hstN_le (s:List UInt8):hstN s≤s.length:=by
 unfold hstN
 have h1:=spB_le (notB (· ==93)) s
 have h2:=spB_le (notB stopB) s
 split
 ·split<;>omega
 ·exact h2
theorem parse_nil (wide:Bool):parse [] wide=(ho0,(80,0)):=by
 unfold parse
 rw[if_neg (by simp)]
 have:wd wide []=(80,0):=by
  unfold wd
  rw[if_neg (by decide),wdGo,if_neg (by simp)]
 rw[this]
 rfl
theorem hst_is {wide:Bool} {s:List UInt8} {h:Ho} {n:Nat} (hh:hst wide s=.ok (h,n)):n=hstN s∧n≤s.length∧parse (s.take n) wide=(h,(0,0))∧
  (((∀c∈s.take n,notB stopB c=true)∧(s.take n).head?≠some 91∧s.take n≠[])∨∃x,s.take n=[91]++x++[93]∧∀c∈x,c≠93):=by
 unfold hst at hh
 split at hh
 ·rename_i h0
  injection hh with hh
  injection hh with e1 e2
  subst e2
  obtain⟨b1,_⟩:=back_text (s.take (hstN s)) wide
  have hp:parse (s.take (hstN s)) wide=(h,(0,0)):=by
   rw[←e1,←(b1 h0).1]
  refine⟨rfl,hstN_le s,hp,?_⟩
  by_cases h91:s.head?=some 91
  ·right
   obtain⟨r,rfl⟩:∃r,s=91::r:=by
    cases s with
    |nil=>cases h91
    |cons c r=>rw[List.head?_cons]at h91;injection h91 with e;exact⟨r,by rw[e]⟩
   have hN:hstN (91::r)=if spB (notB (· ==93)) (91::r)<(91::r:List UInt8).length then spB (notB (· ==93)) (91::r)+1 else spB (notB (· ==93)) (91::r):=by
    unfold hstN
    rw[if_pos List.head?_cons]
   by_cases hlt:spB (notB (· ==93)) (91::r)<(91::r:List UInt8).length
   ·rw[if_pos hlt]at hN
    have hs:spB (notB (· ==93)) (91::r)=spB (notB (· ==93)) r+1:=by rw[spB,if_pos (by decide)]
    rw[hs,List.length_cons]at hlt
    rw[hs]at hN
    have hlt':spB (notB (· ==93)) r<r.length:=by omega
    have hg:=spB_at (notB (· ==93)) r hlt'
    have hc:r[spB (notB (· ==93)) r]=93:=not93 _ hg
    refine⟨r.take (spB (notB (· ==93)) r),?_,fun c hc'=>?_⟩
    ·rw[hN,List.take_succ_cons,List.take_succ_eq_append_getElem hlt',hc]
     simp
    ·have:=spB_take r c hc'
     unfold notB at this
     simpa using this
   ·exfalso
    rw[if_neg hlt]at hN
    have hle:=spB_le (notB (· ==93)) (91::r)
    have hall:=spB_mem (f:=notB (· ==93)) (l:=91::r) (by omega)
    rw[hN,List.take_of_length_le (by omega)]at hp
    have:parse (91::r) wide=lit (91::r):=by
     unfold parse
     rw[if_pos List.head?_cons]
    rw[this]at hp
    unfold lit at hp
    split at hp
    ·injection hp with _ hp;injection hp with hp;cases hp
    ·split at hp
     ·injection hp with _ hp;injection hp with hp;cases hp
     ·rename_i hlast
      have hl:(91::r:List UInt8).getLast?=some 93:=Decidable.not_not.1 hlast
      have:=hall 93 (List.mem_of_getLast? hl)
      revert this
      decide
  ·left
   have hN:hstN s=spB (notB stopB) s:=by
    unfold hstN
    rw[if_neg h91]
   refine⟨fun c hc=>?_,fun e=>h91 ?_,fun e=>?_⟩
   ·rw[hN]at hc
    exact spB_take s c hc
   ·cases s with
    |nil=>simp at e
    |cons c r=>
     cases hz:hstN (c::r) with
     |zero=>rw[hz,List.take_zero]at e;cases e
     |succ k=>rw[hz,List.take_succ_cons]at e;exact e
   ·rw[e,parse_nil]at hp
    injection hp with _ hp
    injection hp with hp
    cases hp
 ·cases hh
theorem split_at {s:List UInt8} {n:Nat} {c:UInt8} (h:(s.drop n).head?=some c):s=s.take n++c::s.drop (n+1)∧n<s.length:=by
 have hn:n<s.length:=by
  rcases Nat.lt_or_ge n s.length with h'|h'
  ·exact h'
  ·rw[List.drop_eq_nil_of_le h']at h
   cases h
 refine⟨?_,hn⟩
 rw[List.drop_eq_getElem_cons hn,List.head?_cons]at h
 injection h with h
 rw[←h,←List.drop_eq_getElem_cons hn,List.take_append_drop]
theorem name_text {wide:Bool} {t:List UInt8} {h:Ho} (hp:parse t wide=(h,(0,0))) (hk:h.k≠3):wrH h=t:=by
 obtain⟨b1,_⟩:=back_text t wide
 rw[hp]at b1
 have:=(b1 rfl).2.2.2.2 hk
 unfold wrH
 rw[this]
theorem host_ok {wide:Bool} {t:List UInt8} {h:Ho} (hp:parse t wide=(h,(0,0))):h.Ok∧check h wide=0:=by
 obtain⟨b1,_⟩:=back_text t wide
 rw[hp]at b1
 exact⟨(b1 rfl).2.2.2.1,(b1 rfl).2.2.1⟩
theorem rte_is {wide:Bool}:∀(k:Nat) (s:List UInt8) (r:List Ho) (n:Nat),rte wide k s=.ok (r,n)→n≤s.length∧s.take n=wrR r∧RtOk r wide∧r≠[]∧r.length≤k
 |0,s,r,n,h=>by
  rw[rte]at h
  split at h<;>cases h
 |k+1,s,r,n,h=>by
  rw[rte]at h
  split at h
  ·rename_i h64
   obtain⟨u,rfl⟩:∃u,s=64::u:=by
    cases s with
    |nil=>cases h64
    |cons c u=>rw[List.head?_cons]at h64;injection h64 with e;exact⟨u,by rw[e]⟩
   rw[List.drop_succ_cons,List.drop_zero]at h
   split at h
   ·cases h
   ·rename_i g m hg
    obtain⟨_,hm,hp,_⟩:=hst_is hg
    obtain⟨ok,hc⟩:=host_ok hp
    split at h
    ·rename_i hk
     have ht:=name_text hp (by omega)
     have e1:(64::u:List UInt8).drop (1+m)=u.drop m:=by rw[Nat.add_comm,List.drop_succ_cons]
     have e2:(64::u:List UInt8).drop (1+m+1)=u.drop (m+1):=by rw[Nat.add_comm 1,List.drop_succ_cons]
     rw[e1,e2]at h
     split at h
     ·rename_i h58
      injection h with h
      injection h with h1 h2
      subst h1 h2
      obtain⟨hs,hl⟩:=split_at h58
      refine⟨by rw[List.length_cons];omega,?_,⟨fun x hx=>?_⟩,by simp,by simp⟩
      ·have ex:u.take (m+1)=u.take m++[58]:=by
        conv=>lhs;rw[hs]
        rw[List.take_append,List.length_take,Nat.min_eq_left hm,List.take_of_length_le (by rw[List.length_take];omega),show m+1 - m=1 from by omega]
        rfl
       rw[Nat.add_comm 1,List.take_succ_cons,ex,←ht]
       rfl
      ·rw[List.mem_singleton]at hx
       subst hx
       exact⟨ok,hk,hc⟩
     ·split at h
      ·rename_i h44
       obtain⟨hs,hl⟩:=split_at h44
       cases hq:rte wide k (u.drop (m+1)) with
       |error e=>rw[hq]at h;obtain⟨e1,e2⟩:=e;cases h
       |ok x=>
        obtain⟨r',n'⟩:=x
        rw[hq,moreR]at h
        injection h with h
        injection h with h1 h2
        subst h1 h2
        obtain⟨a1,a2,a3,a4,a5⟩:=rte_is k _ _ _ hq
        rw[List.length_drop]at a1
        refine⟨by rw[List.length_cons];omega,?_,⟨fun x hx=>?_⟩,by simp,by rw[List.length_cons];omega⟩
        ·have ex:u.take (m+1+n')=u.take m++44::wrR r':=by
          rw[←a2]
          conv=>lhs;rw[hs]
          rw[List.take_append,List.length_take,Nat.min_eq_left hm,List.take_of_length_le (by rw[List.length_take];omega),show m+1+n' - m=n'+1 from by omega,List.take_succ_cons]
         rw[show 1+m+1+n'=(m+1+n')+1 from by omega,List.take_succ_cons,ex,←ht]
         cases r' with
         |nil=>exact absurd rfl a4
         |cons g' r'=>rfl
        ·rcases List.mem_cons.1 hx with e|hx
         ·rw[e];exact⟨ok,hk,hc⟩
         ·exact a3.ok x hx
      ·cases h
    ·cases h
  ·cases h
theorem bx_is {wide:Bool} {s l:List UInt8} {h:Ho} {n:Nat} (hb:bx wide s=.ok ((l,h),n)):∃a b y,s=a++64::(b++y)∧n=a.length+1+b.length∧lcl wide s=.ok (l,a.length)∧hst wide (b++y)=.ok (h,b.length):=by
 unfold bx at hb
 split at hb
 ·cases hb
 ·rename_i l' m hl
  split at hb
  ·rename_i h64
   split at hb
   ·cases hb
   ·rename_i h' k hh
    injection hb with hb
    injection hb with h1 h2
    injection h1 with h1 h3
    subst h1 h2 h3
    obtain⟨hs,hm⟩:=split_at h64
    obtain⟨_,hk,_,_⟩:=hst_is hh
    have el:(s.take m).length=m:=by rw[List.length_take];omega
    have eb:((s.drop (m+1)).take k).length=k:=by rw[List.length_take];omega
    refine⟨s.take m,(s.drop (m+1)).take k,(s.drop (m+1)).drop k,?_,by rw[el,eb],by rw[el];exact hl,?_⟩
    ·rw[List.take_append_drop];exact hs
    ·rw[List.take_append_drop,eb];exact hh
  ·cases hb
theorem pth_is {wide back:Bool} {s:List UInt8} {p:Pt} {n:Nat} (h:pth wide back s=.ok (p,n)):
  (back=true∧p=⟨1,[],[],ho0⟩∧n=2∧∃y,s=60::62::y)∨
  (back=false∧p=⟨2,[],[],ho0⟩∧n=12∧s.head?=some 60∧sml ((s.drop 1).take 10)=sml pmL∧s[11]?=some 62)∨
  (p.k=3∧RtOk p.r wide∧p.r.length≤16∧(wrP p).length≤256∧n≤256∧∃a b y,s=60::(wrR p.r++(a++64::(b++62::y)))∧n=1+(wrR p.r).length+(a.length+1+b.length)+1∧lcl wide (a++64::(b++62::y))=.ok (p.l,a.length)∧hst wide (b++62::y)=.ok (p.h,b.length)):=by
 unfold pth at h
 split at h
 ·rename_i h60
  obtain⟨u,rfl⟩:∃u,s=60::u:=by
   cases s with
   |nil=>cases h60
   |cons c u=>rw[List.head?_cons]at h60;injection h60 with e;exact⟨u,by rw[e]⟩
  split at h
  ·rename_i h1
   injection h with h
   injection h with e1 e2
   refine .inl ⟨h1.1,e1.symm,e2.symm,?_⟩
   have:=h1.2
   rw[List.getElem?_cons_succ]at this
   cases u with
   |nil=>cases this
   |cons c u=>rw[List.getElem?_cons_zero]at this;injection this with e;exact⟨u,by rw[e]⟩
  ·split at h
   ·rename_i h2
    injection h with h
    injection h with e1 e2
    exact .inr (.inl ⟨h2.1,e1.symm,e2.symm,h60,h2.2.1,h2.2.2⟩)
   ·refine .inr (.inr ?_)
    have key:∀(r:List Ho) (a:Nat),RtOk r wide→r.length≤16→a≤u.length→u.take a=wrR r→
      (match bx wide ((60::u:List UInt8).drop (1+a)) with
       | .error (e,p)=>Except.error (e,1+a+p)
       | .ok ((l,h),n)=>if (60::u:List UInt8)[1+a+n]?=some 62 then (if 256<1+a+n+1∨256<(wrP ⟨3,r,l,h⟩).length then .error (93,0) else .ok (⟨3,r,l,h⟩,1+a+n+1)) else .error (93,1+a+n):Except (Nat×Nat) (Pt×Nat))=.ok (p,n)→
      (p.k=3∧RtOk p.r wide∧p.r.length≤16∧(wrP p).length≤256∧n≤256∧∃a b y,(60::u:List UInt8)=60::(wrR p.r++(a++64::(b++62::y)))∧n=1+(wrR p.r).length+(a.length+1+b.length)+1∧lcl wide (a++64::(b++62::y))=.ok (p.l,a.length)∧hst wide (b++62::y)=.ok (p.h,b.length)):=by
     intro r a hr h16 hau hut hm
     rw[Nat.add_comm 1 a,List.drop_succ_cons]at hm
     split at hm
     ·cases hm
     ·rename_i l h m hbx
      split at hm
      ·rename_i h62
       split at hm
       ·cases hm
       ·rename_i hlen
        injection hm with hm
        injection hm with e1 e2
        subst e1 e2
        obtain⟨x,b,y,hs,hn,hl,hh⟩:=bx_is hbx
        have eu:u=wrR r++(x++64::(b++y)):=by rw[←hs,←hut,List.take_append_drop]
        have ela:(wrR r).length=a:=by rw[←hut,List.length_take];omega
        rw[show a+1+m=(a+m)+1 from by omega,List.getElem?_cons_succ,eu,←ela,List.getElem?_append_right (by omega),Nat.add_sub_cancel_left,hn,List.getElem?_append_right (by omega),show x.length+1+b.length - x.length=b.length+1 from by omega,List.getElem?_cons_succ,List.getElem?_append_right (Nat.le_refl _),Nat.sub_self]at h62
        obtain⟨y',rfl⟩:∃y',y=62::y':=by
         cases y with
         |nil=>cases h62
         |cons c y=>rw[List.getElem?_cons_zero]at h62;injection h62 with e;exact⟨y,by rw[e]⟩
        rw[hs]at hl
        refine⟨rfl,hr,h16,by omega,by omega,x,b,y',by rw[eu],?_,hl,hh⟩
        rw[hn,ela]
        omega
      ·cases hm
    by_cases h64:(60::u:List UInt8)[1]?=some 64
    ·rw[if_pos h64,List.drop_succ_cons,List.drop_zero]at h
     cases hq:rte wide 16 u with
     |error e=>rw[hq]at h;obtain⟨e1,e2⟩:=e;cases h
     |ok x=>
      obtain⟨r,a⟩:=x
      rw[hq]at h
      obtain⟨a1,a2,a3,a4,a5⟩:=rte_is _ _ _ _ hq
      exact key r a a3 a5 a1 a2 h
    ·rw[if_neg h64]at h
     exact key [] 0 ⟨fun x hx=>by cases hx⟩ (by simp) (by omega) (by rw[List.take_zero];rfl) h
 ·cases h
end Go.Proofs.YtfjpkfhbmldmfaaGreatDoor
