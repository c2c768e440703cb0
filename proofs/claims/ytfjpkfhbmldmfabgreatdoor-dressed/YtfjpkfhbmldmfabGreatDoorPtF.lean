/-
  What stands behind a path that was read changes nothing; cut off ahead of its end it is a fault; where faults lie.
-/
import Derived.Test.YtfjpkfhbmldmfabGreatDoorPtC
namespace Go.Proofs.YtfjpkfhbmldmfabGreatDoor
theorem split_at {s:List UInt8} {n:Nat} {c:UInt8} (h:(s.drop n).head?=some c):s=s.take n++c::s.drop (n+1)∧n<s.length:=by
 have hn:n<s.length:=by
  rcases Nat.lt_or_ge n s.length with h'|h'
  ·exact h'
  ·rw[List.drop_eq_nil_of_le h']at h
   cases h
 refine⟨?_,hn⟩
 rw[List.drop_eq_getElem_cons hn,List.head?_cons]at h
 injection h with h
 rw[←h,←List.drop_eq_getElem_cons hn,List.take_append_drop]
theorem name_text {wide:Bool} {t:List UInt8} {h:Ho} (hp:parse t wide=(h,(0,0))) (hk:h.k≠3):wrH h=t:=by
 obtain⟨b1,_⟩:=back_text t wide
 rw[hp]at b1
 have:=(b1 rfl).2.2.2.2 hk
 unfold wrH
 rw[this]
theorem host_ok {wide:Bool} {t:List UInt8} {h:Ho} (hp:parse t wide=(h,(0,0))):h.Ok∧check h wide=0:=by
 obtain⟨b1,_⟩:=back_text t wide
 rw[hp]at b1
 exact⟨(b1 rfl).2.2.2.1,(b1 rfl).2.2.1⟩
theorem rte_is {wide:Bool}:∀(k:Nat) (s:List UInt8) (r:List Ho) (n:Nat),rte wide k s=.ok (r,n)→n≤s.length∧s.take n=wrR r∧RtOk r wide∧r≠[]∧r.length≤k
 |0,s,r,n,h=>by
  rw[rte]at h
  split at h<;>cases h
 |k+1,s,r,n,h=>by
  rw[rte]at h
  split at h
  ·rename_i h64
   obtain⟨u,rfl⟩:∃u,s=64::u:=by
    cases s with
    |nil=>cases h64
    |cons c u=>rw[List.head?_cons]at h64;injection h64 with e;exact⟨u,by rw[e]⟩
   rw[List.drop_succ_cons,List.drop_zero]at h
   split at h
   ·cases h
   ·rename_i g m hg
    obtain⟨_,hm,hp,_⟩:=hst_is hg
    obtain⟨ok,hc⟩:=host_ok hp
    split at h
    ·rename_i hk
     have ht:=name_text hp (by omega)
     have e1:(64::u:List UInt8).drop (1+m)=u.drop m:=by rw[Nat.add_comm,List.drop_succ_cons]
     have e2:(64::u:List UInt8).drop (1+m+1)=u.drop (m+1):=by rw[Nat.add_comm 1,List.drop_succ_cons]
     rw[e1,e2]at h
     split at h
     ·rename_i h58
      injection h with h
      injection h with h1 h2
      subst h1 h2
      obtain⟨hs,hl⟩:=split_at h58
      refine⟨by rw[List.length_cons];omega,?_,⟨fun x hx=>?_⟩,by simp,by simp⟩
      ·have ex:u.take (m+1)=u.take m++[58]:=by
        conv=>lhs;rw[hs]
        rw[List.take_append,List.length_take,Nat.min_eq_left hm,List.take_of_length_le (by rw[List.length_take];omega),show m+1 - m=1 from by omega]
        rfl
       rw[Nat.add_comm 1,List.take_succ_cons,ex,←ht]
       rfl
      ·rw[List.mem_singleton]at hx
       subst hx
       exact⟨ok,hk,hc⟩
     ·split at h
      ·rename_i h44
       obtain⟨hs,hl⟩:=split_at h44
       cases hq:rte wide k (u.drop (m+1)) with
       |error e=>rw[hq]at h;obtain⟨e1,e2⟩:=e;cases h
       |ok x=>
        obtain⟨r',n'⟩:=x
        rw[hq,moreR]at h
        injection h with h
        injection h with h1 h2
        subst h1 h2
        obtain⟨a1,a2,a3,a4,a5⟩:=rte_is k _ _ _ hq
        rw[List.length_drop]at a1
        refine⟨by rw[List.length_cons];omega,?_,⟨fun x hx=>?_⟩,by simp,by rw[List.length_cons];omega⟩
        ·have ex:u.take (m+1+n')=u.take m++44::wrR r':=by
          rw[←a2]
          conv=>lhs;rw[hs]
          rw[List.take_append,List.length_take,Nat.min_eq_left hm,List.take_of_length_le (by rw[List.length_take];omega),show m+1+n' - m=n'+1 from by omega,List.take_succ_cons]
         rw[show 1+m+1+n'=(m+1+n')+1 from by omega,List.take_succ_cons,ex,←ht]
         cases r' with
         |nil=>exact absurd rfl a4
         |cons g' r'=>rfl
        ·rcases List.mem_cons.1 hx with e|hx
         ·rw[e];exact⟨ok,hk,hc⟩
         ·exact a3.ok x hx
      ·cases h
    ·cases h
  ·cases h
theorem bx_is {wide:Bool} {s l:List UInt8} {h:Ho} {n:Nat} (hb:bx wide s=.ok ((l,h),n)):∃a b y,s=a++64::(b++y)∧n=a.length+1+b.length∧lcl wide s=.ok (l,a.length)∧hst wide (b++y)=.ok (h,b.length):=by
 unfold bx at hb
 split at hb
 ·cases hb
 ·rename_i l' m hl
  split at hb
  ·rename_i h64
   split at hb
   ·cases hb
   ·rename_i h' k hh
    injection hb with hb
    injection hb with h1 h2
    injection h1 with h1 h3
    subst h1 h2 h3
    obtain⟨hs,hm⟩:=split_at h64
    obtain⟨_,hk,_,_⟩:=hst_is hh
    have el:(s.take m).length=m:=by rw[List.length_take];omega
    have eb:((s.drop (m+1)).take k).length=k:=by rw[List.length_take];omega
    refine⟨s.take m,(s.drop (m+1)).take k,(s.drop (m+1)).drop k,?_,by rw[el,eb],by rw[el];exact hl,?_⟩
    ·rw[List.take_append_drop];exact hs
    ·rw[List.take_append_drop,eb];exact hh
  ·cases hb
theorem pth_is {wide back:Bool} {s:List UInt8} {p:Pt} {n:Nat} (h:pth wide back s=.ok (p,n)):
  (back=true∧p=⟨1,[],[],ho0⟩∧n=2∧∃y,s=60::62::y)∨
  (back=false∧p=⟨2,[],[],ho0⟩∧n=12∧s.head?=some 60∧sml ((s.drop 1).take 10)=sml pmL∧s[11]?=some 62)∨
  (p.k=3∧RtOk p.r wide∧p.r.length≤16∧(wrP p).length≤256∧n≤256∧∃a b y,s=60::(wrR p.r++(a++64::(b++62::y)))∧n=1+(wrR p.r).length+(a.length+1+b.length)+1∧lcl wide (a++64::(b++62::y))=.ok (p.l,a.length)∧hst wide (b++62::y)=.ok (p.h,b.length)):=by
 unfold pth at h
 split at h
 ·rename_i h60
  obtain⟨u,rfl⟩:∃u,s=60::u:=by
   cases s with
   |nil=>cases h60
   |cons c u=>rw[List.head?_cons]at h60;injection h60 with e;exact⟨u,by rw[e]⟩
  split at h
  ·rename_i h1
   injection h with h
   injection h with e1 e2
   refine .inl ⟨h1.1,e1.symm,e2.symm,?_⟩
   have:=h1.2
   rw[List.getElem?_cons_succ]at this
   cases u with
   |nil=>cases this
   |cons c u=>rw[List.getElem?_cons_zero]at this;injection this with e;exact⟨u,by rw[e]⟩
  ·split at h
   ·rename_i h2
    injection h with h
    injection h with e1 e2
    exact .inr (.inl ⟨h2.1,e1.symm,e2.symm,h60,h2.2.1,h2.2.2⟩)
   ·refine .inr (.inr ?_)
    have key:∀(r:List Ho) (a:Nat),RtOk r wide→r.length≤16→a≤u.length→u.take a=wrR r→
      (match bx wide ((60::u:List UInt8).drop (1+a)) with
       | .error (e,p)=>Except.error (e,1+a+p)
       | .ok ((l,h),n)=>if (60::u:List UInt8)[1+a+n]?=some 62 then (if 256<1+a+n+1∨256<(wrP ⟨3,r,l,h⟩).length then .error (93,0) else .ok (⟨3,r,l,h⟩,1+a+n+1)) else .error (93,1+a+n):Except (Nat×Nat) (Pt×Nat))=.ok (p,n)→
      (p.k=3∧RtOk p.r wide∧p.r.length≤16∧(wrP p).length≤256∧n≤256∧∃a b y,(60::u:List UInt8)=60::(wrR p.r++(a++64::(b++62::y)))∧n=1+(wrR p.r).length+(a.length+1+b.length)+1∧lcl wide (a++64::(b++62::y))=.ok (p.l,a.length)∧hst wide (b++62::y)=.ok (p.h,b.length)):=by
     intro r a hr h16 hau hut hm
     rw[Nat.add_comm 1 a,List.drop_succ_cons]at hm
     split at hm
     ·cases hm
     ·rename_i l h m hbx
      split at hm
      ·rename_i h62
       split at hm
       ·cases hm
       ·rename_i hlen
        injection hm with hm
        injection hm with e1 e2
        subst e1 e2
        obtain⟨x,b,y,hs,hn,hl,hh⟩:=bx_is hbx
        have eu:u=wrR r++(x++64::(b++y)):=by rw[←hs,←hut,List.take_append_drop]
        have ela:(wrR r).length=a:=by rw[←hut,List.length_take];omega
        rw[show a+1+m=(a+m)+1 from by omega,List.getElem?_cons_succ,eu,←ela,List.getElem?_append_right (by omega),Nat.add_sub_cancel_left,hn,List.getElem?_append_right (by omega),show x.length+1+b.length - x.length=b.length+1 from by omega,List.getElem?_cons_succ,List.getElem?_append_right (Nat.le_refl _),Nat.sub_self]at h62
        obtain⟨y',rfl⟩:∃y',y=62::y':=by
         cases y with
         |nil=>cases h62
         |cons c y=>rw[List.getElem?_cons_zero]at h62;injection h62 with e;exact⟨y,by rw[e]⟩
        rw[hs]at hl
        refine⟨rfl,hr,h16,by omega,by omega,x,b,y',by rw[eu],?_,hl,hh⟩
        rw[hn,ela]
        omega
      ·cases hm
    by_cases h64:(60::u:List UInt8)[1]?=some 64
    ·rw[if_pos h64,List.drop_succ_cons,List.drop_zero]at h
     cases hq:rte wide 16 u with
     |error e=>rw[hq]at h;obtain⟨e1,e2⟩:=e;cases h
     |ok x=>
      obtain⟨r,a⟩:=x
      rw[hq]at h
      obtain⟨a1,a2,a3,a4,a5⟩:=rte_is _ _ _ _ hq
      exact key r a a3 a5 a1 a2 h
    ·rw[if_neg h64]at h
     exact key [] 0 ⟨fun x hx=>by cases hx⟩ (by simp) (by omega) (by rw[List.take_zero];rfl) h
 ·cases h
end Go.Proofs.YtfjpkfhbmldmfabGreatDoor
