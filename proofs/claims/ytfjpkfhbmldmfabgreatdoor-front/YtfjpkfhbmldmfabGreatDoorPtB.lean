/-
  What is written is read as it was: local parts, hosts, routes, mailboxes, paths, in plain mathematics.
-/
import Derived.Test.YtfjpkfhbmldmfabGreatDoorPtP
namespace Go.Proofs.YtfjpkfhbmldmfabGreatDoor
theorem rowG_at (r:List UInt8):∀(a:List UInt8) (e i:Nat) (b:Bool),rowG e i b (a++64::r)=rowG e i b a
 |[],e,i,b=>by
  show rowG e i b (64::r)=e
  rw[rowG,if_neg (by decide),if_neg (fun h=>absurd h.1 (by decide))]
 |c::a,e,i,b=>by
  rw[List.cons_append,rowG,rowG,rowG_at r a,rowG_at r a]
theorem rowL_at (a r:List UInt8):rowL (a++64::r)=rowL a:=rowG_at r a 0 0 false
theorem rowG_le:∀(s:List UInt8) (e i:Nat) (b:Bool),e≤i→rowG e i b s≤i+s.length
 |[],e,i,b,h=>by rw[rowG];exact h
 |c::r,e,i,b,h=>by
  rw[rowG,List.length_cons]
  split
  ·have:=rowG_le r (i+1) (i+1) true (Nat.le_refl _);omega
  ·split
   ·have:=rowG_le r e (i+1) false (by omega);omega
   ·omega
theorem rowL_le (s:List UInt8):rowL s≤s.length:=by
 have:=rowG_le s 0 0 false (Nat.le_refl _)
 unfold rowL
 omega
theorem plain_is {l:List UInt8} (h:plainL l=true):l≠[]∧rowL l=l.length:=by
 unfold plainL at h
 rw[Bool.and_eq_true,decide_eq_true_eq,decide_eq_true_eq]at h
 exact h
def lpB (c:UInt8):Bool:=decide (32≤c.toNat)&&!decide (c.toNat=127)
theorem qs8_92:∀q∈qs8,(stepQ q 92).isSome=true→q=q0:=by decide
theorem q0_mem:q0∈qs8:=by decide
theorem spB_full {f:UInt8→Bool}:∀{l:List UInt8},(∀c∈l,f c=true)→spB f l=l.length
 |[],_=>rfl
 |c::r,h=>by
  rw[spB,if_pos (h c (List.mem_cons_self ..)),spB_full (fun x hx=>h x (List.mem_cons_of_mem _ hx)),List.length_cons]
theorem spB_mem {f:UInt8→Bool}:∀{l:List UInt8},spB f l=l.length→∀c∈l,f c=true
 |[],_,c,hc=>by cases hc
 |d::r,h,c,hc=>by
  rw[spB]at h
  cases hd:f d with
  |false=>rw[hd,if_neg (by decide),List.length_cons]at h;omega
  |true=>
   rw[hd,if_pos rfl,List.length_cons]at h
   rcases List.mem_cons.1 hc with e|hc
   ·rw[e];exact hd
   ·exact spB_mem (by omega) c hc
theorem loB_iff (c:UInt8):loB c=true↔c.toNat<128:=by unfold loB;rw[decide_eq_true_eq]
theorem spB_till {f:UInt8→Bool} {c:UInt8} (hc:f c=false):∀(l r:List UInt8),(∀x∈l,f x=true)→spB f (l++c::r)=l.length
 |[],r,_=>by rw[List.nil_append,spB,if_neg (by rw[hc];decide)];rfl
 |d::l,r,h=>by
  rw[List.cons_append,spB,if_pos (h d (List.mem_cons_self ..)),spB_till hc l r (fun x hx=>h x (List.mem_cons_of_mem _ hx)),List.length_cons]
theorem ckL_is {l:List UInt8} {wide:Bool} (h:ckL l wide=0):l.all lpB=true∧(wrL l).length≤64∧(wide=false→∀c∈l,c.toNat<128)∧Wf l:=by
 unfold ckL at h
 split at h
 ·cases h
 ·rename_i h1
  split at h
  ·cases h
  ·rename_i h2
   have ha:l.all lpB=true:=by
    cases hq:l.all lpB with
    |true=>rfl
    |false=>exact absurd (Or.inl hq) h1
   refine⟨ha,by omega,fun hw c hc=>?_,?_⟩
   ·rw[←loB_iff]
    have hle:=spB_le loB l
    refine spB_mem ?_ c hc
    rcases Nat.lt_or_ge (spB loB l) l.length with h'|h'
    ·exact absurd (Or.inl ⟨h',hw⟩) h2
    ·omega
   ·have:=badU_le l
    unfold Wf
    omega
theorem finL_ok {wide:Bool} {b m:List UInt8} {f n:Nat} (h1:n≤64) (h2:wide=false→∀c∈b,c.toNat<128) (h3:Wf b):finL wide b f m n=.ok (m,n):=by
 unfold finL
 rw[if_neg (by omega),if_neg,if_neg]
 ·unfold Wf at h3;omega
 ·rintro ⟨hw,hl⟩
  rw[spB_full (fun c hc=>(loB_iff c).2 (h2 hw c hc))]at hl
  omega
def Stop (r:List UInt8):Prop:=r=[]∨∃c t,r=c::t∧stopB c=true
theorem wdGo_mem (f:Nat):∀(s:List UInt8) (a n:Nat) (h:Bool),wdGo f a n h s=none→∀c∈s,lbB c=true∨c=46∨128≤c.toNat
 |[],_,_,_,_,c,hc=>by cases hc
 |d::r,a,n,h,hw,c,hc=>by
  rw[wdGo]at hw
  by_cases h46:d=46
  ·rw[if_pos h46]at hw
   split at hw
   ·rcases List.mem_cons.1 hc with e|hc
    ·rw[e];exact .inr (.inl h46)
    ·exact wdGo_mem f r _ _ _ hw c hc
   ·cases hw
  ·rw[if_neg h46]at hw
   split at hw
   ·cases hw
   ·rename_i h1
    rcases List.mem_cons.1 hc with e|hc
    ·rw[e]
     have hst:stB f a n d=true:=by
      cases hq:stB f a n d with
      |true=>rfl
      |false=>exact absurd (Or.inr hq) h1
     rcases (stB_is hst).1 with h|h
     ·exact .inl h
     ·exact .inr (.inr h)
    ·exact wdGo_mem f r _ _ _ hw c hc
theorem lb_stop_fin:∀b:Fin 256,(lbB (UInt8.ofNat b.val)=true∨UInt8.ofNat b.val=46∨128≤(UInt8.ofNat b.val).toNat)→notB stopB (UInt8.ofNat b.val)=true∧UInt8.ofNat b.val≠93:=by decide+kernel
theorem of_fin {P:UInt8→Prop} (h:∀b:Fin 256,P (UInt8.ofNat b.val)) (c:UInt8):P c:=by
 have:=h ⟨c.toNat,c.toNat_lt⟩
 rw[UInt8.ofNat_toNat]at this
 exact this
theorem lb_stop (c:UInt8):(lbB c=true∨c=46∨128≤c.toNat)→notB stopB c=true∧c≠93:=of_fin (P:=fun c=>(lbB c=true∨c=46∨128≤c.toNat)→notB stopB c=true∧c≠93) lb_stop_fin c
theorem hexF_mem:∀(f n:Nat),∀c∈hexF f n,∃d:Fin 16,c=hexC d.val
 |0,n,c,hc=>by
  rw[hexF,List.mem_singleton]at hc
  exact⟨⟨n % 16,Nat.mod_lt _ (by decide)⟩,hc⟩
 |f+1,n,c,hc=>by
  rw[hexF]at hc
  split at hc
  ·rename_i h
   rw[List.mem_singleton]at hc
   exact⟨⟨n,h⟩,hc⟩
  ·rcases List.mem_append.1 hc with h|h
   ·exact hexF_mem f _ c h
   ·rw[List.mem_singleton]at h
    exact⟨⟨n % 16,Nat.mod_lt _ (by decide)⟩,h⟩
theorem hexC_93:∀d:Fin 16,hexC d.val≠93:=by decide
theorem joinL_memS (sep:List UInt8):∀(L:List (List UInt8)) (c:UInt8),c∈joinL sep L→c∈sep∨∃l∈L,c∈l
 |[],c,h=>by cases h
 |[x],c,h=>.inr ⟨x,List.mem_cons_self ..,h⟩
 |x::y::r,c,h=>by
  rw[joinL,List.mem_append,List.mem_append]at h
  rcases h with(h|h)|h
  ·exact .inr ⟨x,List.mem_cons_self ..,h⟩
  ·exact .inl h
  ·rcases joinL_memS sep (y::r) c h with h|⟨l,hl,h⟩
   ·exact .inl h
   ·exact .inr ⟨l,List.mem_cons_of_mem _ hl,h⟩
theorem join_hex {L:List Nat} {k:Nat} {c:UInt8} (hc:c∈joinL [58] ((L.map hexD).drop k)∨c∈joinL [58] ((L.map hexD).take k)):c≠93:=by
 have key:∀M:List (List UInt8),(∀l∈M,l∈L.map hexD)→c∈joinL [58] M→c≠93:=fun M hM hc=>by
  rcases joinL_memS [58] M c hc with h|⟨l,hl,h⟩
  ·rw[List.mem_singleton]at h;rw[h];decide
  ·obtain⟨n,_,rfl⟩:=List.mem_map.1 (hM l hl)
   obtain⟨d,rfl⟩:=hexF_mem 16 n c h
   exact hexC_93 d
 rcases hc with hc|hc
 ·exact key _ (fun l hl=>List.mem_of_mem_drop hl) hc
 ·exact key _ (fun l hl=>List.mem_of_mem_take hl) hc
theorem print6_93 (a:List Nat):∀c∈print6 a,c≠93:=fun c hc=>by
 unfold print6 at hc
 split at hc
 ·exact join_hex (k:=0) (.inl (by rw[List.drop_zero];exact hc))
 ·rcases List.mem_append.1 hc with h|h
  ·rcases List.mem_append.1 h with h|h
   ·exact join_hex (.inr h)
   ·rcases List.mem_cons.1 h with h|h
    ·rw[h];decide
    ·rw[List.mem_singleton]at h;rw[h];decide
  ·exact join_hex (.inl h)
theorem pl_93_fin:∀b:Fin 256,(lbB (UInt8.ofNat b.val)=true∨plB (UInt8.ofNat b.val)=true∨UInt8.ofNat b.val=58)→UInt8.ofNat b.val≠93:=by decide+kernel
theorem spB_take {f:UInt8→Bool}:∀(l:List UInt8),∀c∈l.take (spB f l),f c=true
 |[],c,hc=>by cases hc
 |d::r,c,hc=>by
  rw[spB]at hc
  cases hd:f d with
  |false=>rw[hd,if_neg (by decide),List.take_zero]at hc;cases hc
  |true=>
   rw[hd,if_pos rfl,List.take_succ_cons]at hc
   rcases List.mem_cons.1 hc with e|hc
   ·rw[e];exact hd
   ·exact spB_take r c hc
theorem tagged_93 {t:List UInt8} {k:Nat} (hk:colonAt t=some k) (h:(tagged t k).1=0):∀c∈t,c≠93:=fun c hc=>by
 obtain⟨h1,h2,h3⟩:=colonAt_some hk
 unfold tagged at h
 split at h
 ·cases h
 ·rename_i ha
  split at h
  ·cases h
  ·rename_i hb
   have e1:spB lbB (t.take k)=(t.take k).length:=by
    have:=spB_le lbB (t.take k)
    rw[List.length_take]at this ⊢
    omega
   have e2:spB plB (t.drop (k+1))=(t.drop (k+1)).length:=by
    have:=spB_le plB (t.drop (k+1))
    rw[List.length_drop]at this ⊢
    omega
   have hd:t=t.take k++58::t.drop (k+1):=by
    have hg:t[k]=58:=by rw[List.getElem?_eq_getElem h1]at h2;injection h2
    rw[←hg,←List.drop_eq_getElem_cons h1,List.take_append_drop]
   rw[hd]at hc
   refine of_fin (P:=fun c=>(lbB c=true∨plB c=true∨c=58)→c≠93) pl_93_fin c ?_
   rcases List.mem_append.1 hc with h|h
   ·exact .inl (spB_mem e1 c h)
   ·rcases List.mem_cons.1 h with h|h
    ·exact .inr (.inr h)
    ·exact .inr (.inl (spB_mem e2 c h))
theorem hstN_br {x:List UInt8} (h:∀c∈x,c≠93) (rest:List UInt8):hstN ([91]++x++[93]++rest)=([91]++x++[93]:List UInt8).length:=by
 have e:([91]++x++[93]++rest:List UInt8)=(91::x)++93::rest:=by simp
 have e2:spB (notB (· ==93)) ((91::x)++93::rest)=(91::x:List UInt8).length:=by
  refine spB_till (by decide) _ _ (fun c hc=>?_)
  unfold notB
  rw[Bool.not_eq_true',beq_eq_false_iff_ne]
  rcases List.mem_cons.1 hc with e|hc
  ·rw[e];decide
  ·exact h c hc
 unfold hstN
 rw[e,List.cons_append,if_pos List.head?_cons,←List.cons_append,e2,if_pos (by simp)]
 simp
theorem hstN_name {n:List UInt8} (h:∀c∈n,notB stopB c=true) (hh:n.head?≠some 91) {rest:List UInt8} (hr:Stop rest):hstN (n++rest)=n.length:=by
 unfold hstN
 have h91:(n++rest).head?≠some 91:=by
  cases n with
  |nil=>
   rw[List.nil_append]
   rcases hr with rfl|⟨c,t,rfl,hc⟩
   ·simp
   ·rw[List.head?_cons]
    intro e
    injection e with e
    rw[e]at hc
    revert hc
    decide
  |cons c r=>exact hh
 rw[if_neg h91]
 rcases hr with rfl|⟨c,t,rfl,hc⟩
 ·rw[List.append_nil,spB_full h]
 ·exact spB_till (by unfold notB;rw[hc];rfl) n t h
theorem print_form {h:Ho} {wide:Bool} (ok:h.Ok) (hc:check h wide=0):(h.k=1∧wrH h=h.n∧(wd wide h.n).1=0)∨(h.k≠1∧∃x,wrH h=[91]++x++[93]∧∀c∈x,c≠93):=by
 obtain⟨t,h1,h2,h3,h4⟩:=back_host h wide ok hc
 rcases check_kind hc with hk|hk|hk|hk
 ·refine .inl ⟨hk,?_,(check_name hk hc).2⟩
  unfold wrH print
  rw[if_pos h4,if_neg (by omega),if_neg (by omega),if_neg (by omega)]
 ·refine .inr ⟨by omega,print4 (h.a.take 4),?_,fun c hc=>?_⟩
  ·unfold wrH print
   rw[if_pos h4,if_pos hk]
  ·rcases print4_mem _ (fun n hn=>ok.byt n (List.mem_of_mem_take hn)) c hc with h|h
   ·obtain⟨a,b⟩:=dgB_is h
    intro e
    rw[e]at b
    revert b
    decide
   ·rw[h];decide
 ·refine .inr ⟨by omega,[73,80,118,54,58]++print6 h.a,?_,fun c hc=>?_⟩
  ·unfold wrH print
   rw[if_pos h4,if_neg (by omega),if_pos hk]
   simp
  ·rcases List.mem_append.1 hc with h|h
   ·exact(show ∀c∈([73,80,118,54,58]:List UInt8),c≠93 by decide) c h
   ·exact print6_93 _ c h
 ·refine .inr ⟨by omega,h.n,?_,?_⟩
  ·unfold wrH print
   rw[if_pos h4,if_neg (by omega),if_neg (by omega),if_pos hk]
  ·have:=(check_tag hk hc).2
   unfold chTag at this
   split at this
   ·cases this
   ·cases hco:colonAt h.n with
    |none=>rw[hco]at this;cases this
    |some k=>
     rw[hco]at this
     dsimp only at this
     split at this
     ·cases this
     ·exact tagged_93 hco this
theorem hst_back {h:Ho} {wide:Bool} (ok:h.Ok) (hc:check h wide=0) {rest:List UInt8} (hr:Stop rest):hst wide (wrH h++rest)=.ok (h,(wrH h).length):=by
 obtain⟨t,h1,h2,h3,h4⟩:=back_host h wide ok hc
 have e:wrH h=t:=by unfold wrH;rw[h1]
 have en:hstN (wrH h++rest)=(wrH h).length:=by
  rcases print_form ok hc with⟨_,a,b⟩|⟨_,x,a,b⟩
  ·rw[a]
   exact hstN_name (fun c hc=>(lb_stop c (wdGo_mem _ _ _ _ _ (wd_ok b).2.1 c hc)).1) (wd_head b) hr
  ·rw[a]
   exact hstN_br b rest
 unfold hst
 rw[en,List.take_left,e,h2]
 rfl
structure RtOk (r:List Ho) (wide:Bool):Prop where
 ok:∀h∈r,h.Ok∧h.k=1∧check h wide=0
theorem head_app {x:List UInt8} (c:UInt8) (r:List UInt8):((x++c::r).drop x.length).head?=some c:=by
 rw[List.drop_left,List.head?_cons]
theorem drop_app {x:List UInt8} (c:UInt8) (r:List UInt8):(x++c::r).drop (x.length+1)=r:=by
 rw[←List.drop_drop,List.drop_left,List.drop_succ_cons,List.drop_zero]
theorem rte_back {wide:Bool} (rest:List UInt8):∀(r:List Ho) (k:Nat),RtOk r wide→r≠[]→r.length≤k→rte wide k (wrR r++rest)=.ok (r,(wrR r).length)
 |[],_,_,h,_=>absurd rfl h
 |[h],0,_,_,hk=>by simp at hk
 |[h],k+1,hr,_,_=>by
  obtain⟨a,b,c⟩:=hr.ok h (List.mem_cons_self ..)
  have e:(wrR [h]++rest:List UInt8)=64::(wrH h++58::rest):=by simp[wrR]
  rw[e,rte,if_pos List.head?_cons,List.drop_succ_cons,List.drop_zero,hst_back a c (rest:=58::rest) (.inr ⟨58,rest,rfl,by decide⟩)]
  dsimp only
  rw[if_pos b,if_pos (by rw[Nat.add_comm,List.drop_succ_cons];exact head_app 58 rest)]
  simp[wrR]
  omega
 |h::g::r,0,_,_,hk=>by simp at hk
 |h::g::r,k+1,hr,_,hk=>by
  obtain⟨a,b,c⟩:=hr.ok h (List.mem_cons_self ..)
  have e:(wrR (h::g::r)++rest:List UInt8)=64::(wrH h++44::(wrR (g::r)++rest)):=by simp[wrR]
  have ih:=rte_back rest (g::r) k ⟨fun x hx=>hr.ok x (List.mem_cons_of_mem _ hx)⟩ (by simp) (by simp at hk ⊢;omega)
  rw[e,rte,if_pos List.head?_cons,List.drop_succ_cons,List.drop_zero,hst_back a c (rest:=44::(wrR (g::r)++rest)) (.inr ⟨44,_,rfl,by decide⟩)]
  dsimp only
  have e1:(64::(wrH h++44::(wrR (g::r)++rest)):List UInt8).drop (1+(wrH h).length)=(wrH h++44::(wrR (g::r)++rest)).drop (wrH h).length:=by rw[Nat.add_comm,List.drop_succ_cons]
  have e2:(64::(wrH h++44::(wrR (g::r)++rest)):List UInt8).drop (1+(wrH h).length+1)=wrR (g::r)++rest:=by rw[Nat.add_comm 1,List.drop_succ_cons,drop_app]
  rw[if_pos b,e1,head_app,if_neg (by decide),if_pos rfl,e2,ih,moreR]
  simp[wrR]
  omega
end Go.Proofs.YtfjpkfhbmldmfabGreatDoor
