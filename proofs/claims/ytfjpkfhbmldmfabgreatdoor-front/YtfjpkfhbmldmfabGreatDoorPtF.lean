/-
  What stands behind a path that was read changes nothing; cut off ahead of its end it is a fault; where faults lie.
-/
import Derived.Test.YtfjpkfhbmldmfabGreatDoorPtC
namespace Go.Proofs.YtfjpkfhbmldmfabGreatDoor
theorem split_at {s:List UInt8} {n:Nat} {c:UInt8} (h:(s.drop n).head?=some c):s=s.take n++c::s.drop (n+1)∧n<s.length:=by
 have hn:n<s.length:=by
  rcases Nat.lt_or_ge n s.length with h'|h'
  ·exact h'
  ·rw[List.drop_eq_nil_of_le h']at h
   cases h
 refine⟨?_,hn⟩
 rw[List.drop_eq_getElem_cons hn,List.head?_cons]at h
 injection h with h
 rw[←h,←List.drop_eq_getElem_cons hn,List.take_append_drop]
theorem name_text {wide:Bool} {t:List UInt8} {h:Ho} (hp:parse t wide=(h,(0,0))) (hk:h.k≠3):wrH h=t:=by
 obtain⟨b1,_⟩:=back_text t wide
 rw[hp]at b1
 have:=(b1 rfl).2.2.2.2 hk
 unfold wrH
 rw[this]
theorem host_ok {wide:Bool} {t:List UInt8} {h:Ho} (hp:parse t wide=(h,(0,0))):h.Ok∧check h wide=0:=by
 obtain⟨b1,_⟩:=back_text t wide
 rw[hp]at b1
 exact⟨(b1 rfl).2.2.2.1,(b1 rfl).2.2.1⟩
theorem rte_is {wide:Bool}:∀(k:Nat) (s:List UInt8) (r:List Ho) (n:Nat),rte wide k s=.ok (r,n)→n≤s.length∧s.take n=wrR r∧RtOk r wide∧r≠[]∧r.length≤k
 |0,s,r,n,h=>by
  rw[rte]at h
  split at h<;>cases h
 |k+1,s,r,n,h=>by
  rw[rte]at h
  split at h
  ·rename_i h64
   obtain⟨u,rfl⟩:∃u,s=64::u:=by
    cases s with
    |nil=>cases h64
    |cons c u=>rw[List.head?_cons]at h64;injection h64 with e;exact⟨u,by rw[e]⟩
   rw[List.drop_succ_cons,List.drop_zero]at h
   split at h
   ·cases h
   ·rename_i g m hg
    obtain⟨_,hm,hp,_⟩:=hst_is hg
    obtain⟨ok,hc⟩:=host_ok hp
    split at h
    ·rename_i hk
     have ht:=name_text hp (by omega)
     have e1:(64::u:List UInt8).drop (1+m)=u.drop m:=by rw[Nat.add_comm,List.drop_succ_cons]
     have e2:(64::u:List UInt8).drop (1+m+1)=u.drop (m+1):=by rw[Nat.add_comm 1,List.drop_succ_cons]
     rw[e1,e2]at h
     split at h
     ·rename_i h58
      injection h with h
      injection h with h1 h2
      subst h1 h2
      obtain⟨hs,hl⟩:=split_at h58
      refine⟨by rw[List.length_cons];omega,?_,⟨fun x hx=>?_⟩,by simp,by simp⟩
      ·have ex:u.take (m+1)=u.take m++[58]:=by
        conv=>lhs;rw[hs]
        rw[List.take_append,List.length_take,Nat.min_eq_left hm,List.take_of_length_le (by rw[List.length_take];omega),show m+1 - m=1 from by omega]
        rfl
       rw[Nat.add_comm 1,List.take_succ_cons,ex,←ht]
       rfl
      ·rw[List.mem_singleton]at hx
       subst hx
       exact⟨ok,hk,hc⟩
     ·split at h
      ·rename_i h44
       obtain⟨hs,hl⟩:=split_at h44
       cases hq:rte wide k (u.drop (m+1)) with
       |error e=>rw[hq]at h;obtain⟨e1,e2⟩:=e;cases h
       |ok x=>
        obtain⟨r',n'⟩:=x
        rw[hq,moreR]at h
        injection h with h
        injection h with h1 h2
        subst h1 h2
        obtain⟨a1,a2,a3,a4,a5⟩:=rte_is k _ _ _ hq
        rw[List.length_drop]at a1
        refine⟨by rw[List.length_cons];omega,?_,⟨fun x hx=>?_⟩,by simp,by rw[List.length_cons];omega⟩
        ·have ex:u.take (m+1+n')=u.take m++44::wrR r':=by
          rw[←a2]
          conv=>lhs;rw[hs]
          rw[List.take_append,List.length_take,Nat.min_eq_left hm,List.take_of_length_le (by rw[List.length_take];omega),show m+1+n' - m=n'+1 from by omega,List.take_succ_cons]
         rw[show 1+m+1+n'=(m+1+n')+1 from by omega,List.take_succ_cons,ex,←ht]
         cases r' with
         |nil=>exact absurd rfl a4
         |cons g' r'=>rfl
        ·rcases List.mem_cons.1 hx with e|hx
         ·rw[e];exact⟨ok,hk,hc⟩
         ·exact a3.ok x hx
      ·cases h
    ·cases h
  ·cases h
theorem bx_is {wide:Bool} {s l:List UInt8} {h:Ho} {n:Nat} (hb:bx wide s=.ok ((l,h),n)):∃a b y,s=a++64::(b++y)∧n=a.length+1+b.length∧lcl wide s=.ok (l,a.length)∧hst wide (b++y)=.ok (h,b.length):=by
 unfold bx at hb
 split at hb
 ·cases hb
 ·rename_i l' m hl
  split at hb
  ·rename_i h64
   split at hb
   ·cases hb
   ·rename_i h' k hh
    injection hb with hb
    injection hb with h1 h2
    injection h1 with h1 h3
    subst h1 h2 h3
    obtain⟨hs,hm⟩:=split_at h64
    obtain⟨_,hk,_,_⟩:=hst_is hh
    have el:(s.take m).length=m:=by rw[List.length_take];omega
    have eb:((s.drop (m+1)).take k).length=k:=by rw[List.length_take];omega
    refine⟨s.take m,(s.drop (m+1)).take k,(s.drop (m+1)).drop k,?_,by rw[el,eb],by rw[el];exact hl,?_⟩
    ·rw[List.take_append_drop];exact hs
    ·rw[List.take_append_drop,eb];exact hh
  ·cases hb
theorem lcl_form {wide:Bool} {a y l:List UInt8} (h:lcl wide (a++64::y)=.ok (l,a.length)):a≠[]∧(a.head?=some 34∨∀c∈a,atB c=true∨c=46):=by
 obtain⟨_,h0,_,hh⟩:=lcl_is h
 have hne:a≠[]:=fun e=>by rw[e]at h0;exact absurd h0 (by simp)
 refine⟨hne,?_⟩
 rcases hh with⟨h34,_⟩|⟨_,hr,_⟩
 ·left
  cases a with
  |nil=>exact absurd rfl hne
  |cons c a=>exact h34
 ·right
  rw[rowL_at]at hr
  unfold rowL at hr
  exact rowG_full a 0 0 false (Nat.le_refl _) (by omega)
theorem form_head {a r:List UInt8} (h:a≠[]∧(a.head?=some 34∨∀c∈a,atB c=true∨c=46)):(a++r).head?≠some 62∧(a++r).head?≠some 64:=by
 obtain⟨h1,h2⟩:=h
 cases a with
 |nil=>exact absurd rfl h1
 |cons c a=>
  rw[List.cons_append,List.head?_cons]
  rcases h2 with h2|h2
  ·rw[List.head?_cons]at h2
   rw[h2]
   decide
  ·have:=h2 c (List.mem_cons_self ..)
   refine⟨fun e=>?_,fun e=>?_⟩<;>(injection e with e;rw[e]at this;revert this;decide)
theorem form_pm {a u:List UInt8} (h:a≠[]∧(a.head?=some 34∨∀c∈a,atB c=true∨c=46)) (h1:sml ((a++64::u).take 10)=sml pmL) (h2:(a++64::u)[10]?=some 62):False:=by
 obtain⟨h0,hf⟩:=h
 rcases hf with hf|hf
 ·cases a with
  |nil=>exact absurd rfl h0
  |cons c a=>
   rw[List.head?_cons]at hf
   injection hf with hf
   subst hf
   rw[List.cons_append,List.take_succ_cons]at h1
   exact(pm_mem h1 (List.mem_cons_self ..)).2 rfl
 ·rcases Nat.lt_trichotomy a.length 10 with h|h|h
  ·have hm:(64:UInt8)∈(a++64::u).take 10:=by
    rw[List.take_append,List.mem_append]
    right
    obtain⟨k,hk⟩:∃k,10 - a.length=k+1:=⟨9 - a.length,by omega⟩
    rw[hk,List.take_succ_cons]
    exact List.mem_cons_self ..
   exact(pm_mem h1 hm).1 rfl
  ·rw[←h,List.getElem?_append_right (Nat.le_refl _),Nat.sub_self]at h2
   simp at h2
  ·rw[List.getElem?_append_left h]at h2
   have:=hf 62 (List.mem_of_getElem? h2)
   revert this
   decide
theorem pth_mk {wide:Bool} {r:List Ho} {a b l:List UInt8} {h:Ho} (hr:RtOk r wide) (h16:r.length≤16) (rest:List UInt8) (hl:lcl wide (a++64::(b++62::rest))=.ok (l,a.length)) (hh:hst wide (b++62::rest)=.ok (h,b.length))
  (hlen:1+(wrR r).length+(a.length+1+b.length)+1≤256) (hw:(wrP ⟨3,r,l,h⟩).length≤256) (back:Bool):
  pth wide back (60::(wrR r++(a++64::(b++62::rest))))=.ok (⟨3,r,l,h⟩,1+(wrR r).length+(a.length+1+b.length)+1):=by
 have hform:=lcl_form hl
 have hbx:bx wide (a++64::(b++62::rest))=.ok ((l,h),a.length+1+b.length):=by
  unfold bx
  rw[hl]
  dsimp only
  rw[head_app,if_pos rfl,drop_app,hh]
 generalize hS:a++64::(b++62::rest)=S at hl hbx
 have e1:(60::(wrR r++S):List UInt8)[1]?=(wrR r++S).head?:=by
  rw[List.getElem?_cons_succ,List.head?_eq_getElem?]
 have ed:(60::(wrR r++S):List UInt8).drop (1+(wrR r).length)=S:=by
  rw[Nat.add_comm,List.drop_succ_cons,List.drop_left]
 have e62:(60::(wrR r++S):List UInt8)[1+(wrR r).length+(a.length+1+b.length)]?=some 62:=by
  rw[show 1+(wrR r).length+(a.length+1+b.length)=(wrR r).length+(a.length+1+b.length)+1 from by omega,List.getElem?_cons_succ,List.getElem?_append_right (by omega),Nat.add_sub_cancel_left,←hS,List.getElem?_append_right (by omega),show a.length+1+b.length - a.length=b.length+1 from by omega,List.getElem?_cons_succ,List.getElem?_append_right (Nat.le_refl _),Nat.sub_self]
  rfl
 have hrt:(if (wrR r++S).head?=some 64 then rte wide 16 ((60::(wrR r++S):List UInt8).drop 1) else .ok ([],0))=.ok (r,(wrR r).length):=by
  cases r with
  |nil=>
   rw[if_neg (by show S.head?≠some 64;rw[←hS];exact(form_head hform).2)]
   rfl
  |cons g r=>
   obtain⟨t,ht⟩:=wrR_head (h:=g) (r:=r)
   rw[if_pos (by rw[ht];rfl),List.drop_succ_cons,List.drop_zero]
   exact rte_back _ _ _ hr (by simp) h16
 have hne:(wrR r++S).head?≠some 62:=by
  cases r with
  |nil=>show S.head?≠some 62;rw[←hS];exact(form_head hform).1
  |cons g r=>
   obtain⟨t,ht⟩:=wrR_head (h:=g) (r:=r)
   rw[ht]
   simp
 have hpm:¬(back=false∧sml (((60::(wrR r++S):List UInt8).drop 1).take 10)=sml pmL∧(60::(wrR r++S):List UInt8)[11]?=some 62):=by
  rintro ⟨_,h1,h2⟩
  rw[List.drop_succ_cons,List.drop_zero]at h1
  rw[List.getElem?_cons_succ]at h2
  cases r with
  |nil=>
   have e0:(wrR []++S:List UInt8)=S:=rfl
   rw[e0,←hS]at h1 h2
   exact form_pm hform h1 h2
  |cons g r=>
   obtain⟨t,ht⟩:=wrR_head (h:=g) (r:=r)
   rw[ht,List.cons_append,List.take_succ_cons]at h1
   exact(pm_mem h1 (List.mem_cons_self ..)).1 rfl
 unfold pth
 rw[if_pos List.head?_cons,if_neg (by rw[e1];exact fun e=>hne e.2),if_neg hpm,e1,hrt]
 dsimp only
 rw[ed,hbx]
 dsimp only
 rw[if_pos e62,if_neg (by omega)]
theorem pth_is {wide back:Bool} {s:List UInt8} {p:Pt} {n:Nat} (h:pth wide back s=.ok (p,n)):
  (back=true∧p=⟨1,[],[],ho0⟩∧n=2∧∃y,s=60::62::y)∨
  (back=false∧p=⟨2,[],[],ho0⟩∧n=12∧s.head?=some 60∧sml ((s.drop 1).take 10)=sml pmL∧s[11]?=some 62)∨
  (p.k=3∧RtOk p.r wide∧p.r.length≤16∧(wrP p).length≤256∧n≤256∧∃a b y,s=60::(wrR p.r++(a++64::(b++62::y)))∧n=1+(wrR p.r).length+(a.length+1+b.length)+1∧lcl wide (a++64::(b++62::y))=.ok (p.l,a.length)∧hst wide (b++62::y)=.ok (p.h,b.length)):=by
 unfold pth at h
 split at h
 ·rename_i h60
  obtain⟨u,rfl⟩:∃u,s=60::u:=by
   cases s with
   |nil=>cases h60
   |cons c u=>rw[List.head?_cons]at h60;injection h60 with e;exact⟨u,by rw[e]⟩
  split at h
  ·rename_i h1
   injection h with h
   injection h with e1 e2
   refine .inl ⟨h1.1,e1.symm,e2.symm,?_⟩
   have:=h1.2
   rw[List.getElem?_cons_succ]at this
   cases u with
   |nil=>cases this
   |cons c u=>rw[List.getElem?_cons_zero]at this;injection this with e;exact⟨u,by rw[e]⟩
  ·split at h
   ·rename_i h2
    injection h with h
    injection h with e1 e2
    exact .inr (.inl ⟨h2.1,e1.symm,e2.symm,h60,h2.2.1,h2.2.2⟩)
   ·refine .inr (.inr ?_)
    have key:∀(r:List Ho) (a:Nat),RtOk r wide→r.length≤16→a≤u.length→u.take a=wrR r→
      (match bx wide ((60::u:List UInt8).drop (1+a)) with
       | .error (e,p)=>Except.error (e,1+a+p)
       | .ok ((l,h),n)=>if (60::u:List UInt8)[1+a+n]?=some 62 then (if 256<1+a+n+1∨256<(wrP ⟨3,r,l,h⟩).length then .error (93,0) else .ok (⟨3,r,l,h⟩,1+a+n+1)) else .error (93,1+a+n):Except (Nat×Nat) (Pt×Nat))=.ok (p,n)→
      (p.k=3∧RtOk p.r wide∧p.r.length≤16∧(wrP p).length≤256∧n≤256∧∃a b y,(60::u:List UInt8)=60::(wrR p.r++(a++64::(b++62::y)))∧n=1+(wrR p.r).length+(a.length+1+b.length)+1∧lcl wide (a++64::(b++62::y))=.ok (p.l,a.length)∧hst wide (b++62::y)=.ok (p.h,b.length)):=by
     intro r a hr h16 hau hut hm
     rw[Nat.add_comm 1 a,List.drop_succ_cons]at hm
     split at hm
     ·cases hm
     ·rename_i l h m hbx
      split at hm
      ·rename_i h62
       split at hm
       ·cases hm
       ·rename_i hlen
        injection hm with hm
        injection hm with e1 e2
        subst e1 e2
        obtain⟨x,b,y,hs,hn,hl,hh⟩:=bx_is hbx
        have eu:u=wrR r++(x++64::(b++y)):=by rw[←hs,←hut,List.take_append_drop]
        have ela:(wrR r).length=a:=by rw[←hut,List.length_take];omega
        rw[show a+1+m=(a+m)+1 from by omega,List.getElem?_cons_succ,eu,←ela,List.getElem?_append_right (by omega),Nat.add_sub_cancel_left,hn,List.getElem?_append_right (by omega),show x.length+1+b.length - x.length=b.length+1 from by omega,List.getElem?_cons_succ,List.getElem?_append_right (Nat.le_refl _),Nat.sub_self]at h62
        obtain⟨y',rfl⟩:∃y',y=62::y':=by
         cases y with
         |nil=>cases h62
         |cons c y=>rw[List.getElem?_cons_zero]at h62;injection h62 with e;exact⟨y,by rw[e]⟩
        rw[hs]at hl
        refine⟨rfl,hr,h16,by omega,by omega,x,b,y',by rw[eu],?_,hl,hh⟩
        rw[hn,ela]
        omega
      ·cases hm
    by_cases h64:(60::u:List UInt8)[1]?=some 64
    ·rw[if_pos h64,List.drop_succ_cons,List.drop_zero]at h
     cases hq:rte wide 16 u with
     |error e=>rw[hq]at h;obtain⟨e1,e2⟩:=e;cases h
     |ok x=>
      obtain⟨r,a⟩:=x
      rw[hq]at h
      obtain⟨a1,a2,a3,a4,a5⟩:=rte_is _ _ _ _ hq
      exact key r a a3 a5 a1 a2 h
    ·rw[if_neg h64]at h
     exact key [] 0 ⟨fun x hx=>by cases hx⟩ (by simp) (by omega) (by rw[List.take_zero];rfl) h
 ·cases h
theorem pth_len {wide back:Bool} {s:List UInt8} {p:Pt} {n:Nat} (h:pth wide back s=.ok (p,n)):1≤n∧n≤s.length∧n≤256:=by
 rcases pth_is h with⟨_,_,rfl,y,rfl⟩|⟨_,_,rfl,_,_,h62⟩|⟨_,_,_,_,h256,a,b,y,rfl,hn,_⟩
 ·exact⟨by omega,by simp,by omega⟩
 ·have:11<s.length:=by
   rcases Nat.lt_or_ge 11 s.length with h'|h'
   ·exact h'
   ·rw[List.getElem?_eq_none h']at h62;cases h62
  exact⟨by omega,by omega,by omega⟩
 ·refine⟨by omega,?_,h256⟩
  simp
  omega
theorem pth_front {wide back:Bool} {s:List UInt8} {p:Pt} {n:Nat} (h:pth wide back s=.ok (p,n)) (rest:List UInt8):pth wide back (s.take n++rest)=.ok (p,n):=by
 rcases pth_is h with⟨rfl,rfl,rfl,y,rfl⟩|⟨rfl,rfl,rfl,h60,hpm,h62⟩|⟨hk,hr,h16,hw,h256,a,b,y,rfl,hn,hl,hh⟩
 ·show pth wide true (60::62::rest)=_
  unfold pth
  rw[if_pos List.head?_cons,if_pos ⟨rfl,rfl⟩]
 ·have hle:11<s.length:=by
   rcases Nat.lt_or_ge 11 s.length with h'|h'
   ·exact h'
   ·rw[List.getElem?_eq_none h']at h62;cases h62
  unfold pth
  have e1:(s.take 12++rest).head?=some 60:=by
   rw[List.head?_append,List.head?_take,if_neg (by decide),h60]
   rfl
  have e2:((s.take 12++rest).drop 1).take 10=(s.drop 1).take 10:=by
   rw[List.drop_append_of_le_length (by rw[List.length_take];omega),List.take_append_of_le_length (by rw[List.length_drop,List.length_take];omega),List.drop_take,List.take_take]
   rfl
  have e3:(s.take 12++rest)[11]?=some 62:=by
   rw[List.getElem?_append_left (by rw[List.length_take];omega),List.getElem?_take_of_lt (by decide),h62]
  rw[if_pos e1,if_neg (fun e=>absurd e.1 (by decide)),if_pos ⟨rfl,by rw[e2];exact hpm,e3⟩]
 ·obtain⟨k,r,l,hh'⟩:=p
  dsimp only at hk hr h16 hw hn hl hh ⊢
  subst hk
  have et:(60::(wrR r++(a++64::(b++62::y))):List UInt8).take n++rest=60::(wrR r++(a++64::(b++62::rest))):=by
   have ex:(60::(wrR r++(a++64::(b++62::y))):List UInt8)=(60::(wrR r++(a++64::(b++[62]))))++y:=by simp
   have el:n=(60::(wrR r++(a++64::(b++[62]))):List UInt8).length:=by simp;omega
   rw[ex,el,List.take_left]
   simp
  rw[et,hn]
  exact pth_mk hr h16 rest (lcl_front hl _) (hst_front hh (.inr ⟨62,rest,rfl,by decide⟩)) (by omega) hw back
theorem qtM_err:∀(s:List UInt8) (i:Nat) (b:Bool) (p:Nat),qtM i b s=.error (some p)→p≤i+s.length
 |[],i,b,p,h=>by cases b<;>cases h
 |c::s,i,true,p,h=>by
  rw[qtM]at h
  rw[List.length_cons]
  split at h
  ·cases hq:qtM (i+1) false s with
   |error e=>
    rw[hq,preQ]at h
    injection h with h
    subst h
    have:=qtM_err s (i+1) false p hq
    omega
   |ok x=>obtain⟨m,n⟩:=x;rw[hq]at h;cases h
  ·injection h with h
   injection h with h
   omega
 |c::s,i,false,p,h=>by
  rw[qtM]at h
  rw[List.length_cons]
  split at h
  ·cases h
  ·split at h
   ·have:=qtM_err s (i+1) true p h
    omega
   ·split at h
    ·cases hq:qtM (i+1) false s with
     |error e=>
      rw[hq,preQ]at h
      injection h with h
      subst h
      have:=qtM_err s (i+1) false p hq
      omega
     |ok x=>obtain⟨m,n⟩:=x;rw[hq]at h;cases h
    ·injection h with h
     injection h with h
     omega
theorem finL_err {wide:Bool} {b m:List UInt8} {f n e p:Nat} (h:finL wide b f m n=.error (e,p)):e≠0∧p≤f+b.length:=by
 unfold finL at h
 have h1:=spB_le loB b
 have h2:=badU_le b
 split at h
 ·injection h with h;injection h with h3 h4;omega
 ·split at h
  ·injection h with h;injection h with h3 h4;omega
  ·split at h
   ·injection h with h;injection h with h3 h4;omega
   ·cases h
theorem lcl_err {wide:Bool} {s:List UInt8} {e p:Nat} (h:lcl wide s=.error (e,p)):e≠0∧p≤s.length:=by
 unfold lcl at h
 split at h
 ·rename_i h34
  have hs:1≤s.length:=by
   cases s with
   |nil=>cases h34
   |cons c r=>simp
  split at h
  ·injection h with h;injection h with h1 h2;omega
  ·rename_i q hq
   injection h with h
   injection h with h1 h2
   have:=qtM_err _ _ _ _ hq
   rw[List.length_drop]at this
   omega
  ·have:=finL_err h
   rw[List.length_take,List.length_drop]at this
   omega
 ·split at h
  ·injection h with h;injection h with h1 h2;omega
  ·have:=finL_err h
   rw[List.length_take]at this
   omega
theorem hst_err {wide:Bool} {s:List UInt8} {e p:Nat} (h:hst wide s=.error (e,p)):e≠0∧p≤s.length:=by
 unfold hst at h
 split at h
 ·cases h
 ·rename_i h0
  injection h with h
  have:=((back_text (s.take (hstN s)) wide).2 h0).2
  rw[h]at this h0
  rw[List.length_take]at this
  exact⟨h0,by omega⟩
theorem bx_err {wide:Bool} {s:List UInt8} {e p:Nat} (h:bx wide s=.error (e,p)):e≠0∧p≤s.length:=by
 unfold bx at h
 split at h
 ·rename_i x hx
  injection h with h
  subst h
  exact lcl_err hx
 ·rename_i l n hl
  have:=(lcl_is hl).1
  split at h
  ·rename_i h64
   have hn:=(split_at h64).2
   split at h
   ·rename_i e' q hh
    injection h with h
    injection h with h1 h2
    have:=hst_err hh
    rw[List.length_drop]at this
    omega
   ·cases h
  ·injection h with h;injection h with h1 h2;omega
theorem rte_err {wide:Bool}:∀(k:Nat) (s:List UInt8) (e p:Nat),rte wide k s=.error (e,p)→e≠0∧p≤s.length
 |0,s,e,p,h=>by
  rw[rte]at h
  split at h<;>(injection h with h;injection h with h1 h2;omega)
 |k+1,s,e,p,h=>by
  rw[rte]at h
  split at h
  ·rename_i h64
   have hs:1≤s.length:=by
    cases s with
    |nil=>cases h64
    |cons c r=>simp
   split at h
   ·rename_i e' q hh
    injection h with h
    injection h with h1 h2
    have:=hst_err hh
    rw[List.length_drop]at this
    omega
   ·rename_i g m hg
    have hm:=(hst_is hg).2.1
    rw[List.length_drop]at hm
    split at h
    ·split at h
     ·cases h
     ·split at h
      ·rename_i h44
       have hn:=(split_at h44).2
       cases hq:rte wide k (s.drop (1+m+1)) with
       |error x=>
        obtain⟨e',q⟩:=x
        rw[hq,moreR]at h
        injection h with h
        injection h with h1 h2
        have:=rte_err k _ _ _ hq
        rw[List.length_drop]at this
        omega
       |ok x=>obtain⟨a,b⟩:=x;rw[hq,moreR]at h;cases h
      ·injection h with h;injection h with h1 h2;omega
    ·injection h with h;injection h with h1 h2;omega
  ·injection h with h;injection h with h1 h2;omega
theorem pth_err {wide back:Bool} {s:List UInt8} {e p:Nat} (h:pth wide back s=.error (e,p)):e≠0∧p≤s.length:=by
 unfold pth at h
 split at h
 ·rename_i h60
  have hs:1≤s.length:=by
   cases s with
   |nil=>cases h60
   |cons c r=>simp
  split at h
  ·cases h
  ·split at h
   ·cases h
   ·have key:∀(r:List Ho) (a:Nat),a≤s.length - 1→
      (match bx wide (s.drop (1+a)) with
       | .error (e,p)=>Except.error (e,1+a+p)
       | .ok ((l,h),n)=>if s[1+a+n]?=some 62 then (if 256<1+a+n+1∨256<(wrP ⟨3,r,l,h⟩).length then .error (93,0) else .ok (⟨3,r,l,h⟩,1+a+n+1)) else .error (93,1+a+n):Except (Nat×Nat) (Pt×Nat))=.error (e,p)→e≠0∧p≤s.length:=by
     intro r a ha hm
     split at hm
     ·rename_i e' q hb
      injection hm with hm
      injection hm with h1 h2
      have:=bx_err hb
      rw[List.length_drop]at this
      omega
     ·rename_i l h n hb
      obtain⟨x,b,y,hx,hn,_,_⟩:=bx_is hb
      have hl:=congrArg List.length hx
      simp only[List.length_drop,List.length_append,List.length_cons]at hl
      split at hm
      ·split at hm
       ·injection hm with hm;injection hm with h1 h2;omega
       ·cases hm
      ·injection hm with hm;injection hm with h1 h2;omega
    split at h
    ·rename_i e' q hq
     injection h with h
     injection h with h1 h2
     split at hq
     ·have:=rte_err _ _ _ _ hq
      rw[List.length_drop]at this
      omega
     ·cases hq
    ·rename_i r a hq
     refine key r a ?_ h
     split at hq
     ·have:=(rte_is _ _ _ _ hq).1
      rw[List.length_drop]at this
      exact this
     ·injection hq with hq
      injection hq with _ hq
      omega
 ·injection h with h;injection h with h1 h2;omega
theorem pth_cut {wide back:Bool} {s:List UInt8} {p:Pt} {n k:Nat} (h:pth wide back s=.ok (p,n)) (hk:k<n):∃e q,pth wide back (s.take k)=.error (e,q)∧e≠0∧q≤k:=by
 cases hq:pth wide back (s.take k) with
 |error x=>
  obtain⟨e,q⟩:=x
  obtain⟨a,b⟩:=pth_err hq
  rw[List.length_take]at b
  exact⟨e,q,rfl,a,by omega⟩
 |ok x=>
  exfalso
  obtain⟨p',m⟩:=x
  have hm:=(pth_len hq).2.1
  rw[List.length_take]at hm
  have hf:=pth_front hq (s.drop m)
  rw[List.take_take,Nat.min_eq_left (by omega),List.take_append_drop,h]at hf
  injection hf with hf
  injection hf with _ hf
  omega
end Go.Proofs.YtfjpkfhbmldmfabGreatDoor
