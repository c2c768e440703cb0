/-
  Paths made of any bytes, dressed ones, and mailboxes that are alike, in plain mathematics; what is read is written no longer.
-/
import Derived.Test.YtfjpkfhbmldmfaaGreatDoorPtV
import Derived.Test.YtfjpkfhbmldmfaaGreatDoorRpP
namespace Go.Proofs.YtfjpkfhbmldmfaaGreatDoor
theorem wrP_len (r:List Ho) (l:List UInt8) (h:Ho):(wrP ⟨3,r,l,h⟩).length=1+(wrR r).length+((wrL l).length+1+(wrH h).length)+1:=by
 show(60::(wrR r++wrB l h++[62]):List UInt8).length=_
 unfold wrB
 simp only[List.length_cons,List.length_append,List.length_nil]
 omega
theorem low_wf:∀{l:List UInt8},Low l→Wf l:=by
 intro l h
 rw[wf_iff]
 induction l with
 |nil=>rfl
 |cons c r ih=>
  have:=low_cons.1 h
  rw[runQ,show stepQ q0 c.toNat=some q0 from by rw[show q0=(0,0,0) from rfl,stepQ_zero,begQ_one this.1],Option.bind_some]
  exact ih this.2
def ltrs (s:List UInt8) (most:Nat):List UInt8:=if (s.filter ldB).take most=[] then [120] else (s.filter ldB).take most
def shwn (s:List UInt8) (most:Nat):List UInt8:=(s.filter shB).take most
def tggd (s:List UInt8) (most:Nat):List UInt8:=if (s.filter plB).take most=[] then [121] else (s.filter plB).take most
def hostM (k:Int) (a:List Nat) (hst lcl:List UInt8):Ho:=
 if k=1 then ⟨2,[],a.take 4++List.replicate 12 0⟩
 else if k=2 then ⟨3,[],a⟩
 else if k=3 then ⟨4,[116,97,103,58]++tggd hst 20,z16⟩
 else ⟨1,ltrs hst 30++46::ltrs lcl 10,z16⟩
def madeP (k:Int) (a:List Nat) (hst lcl:List UInt8) (rt:List (List UInt8)):Pt:=
 ⟨3,(rt.take 10).map (fun t=>⟨1,ltrs t 9,z16⟩),shwn lcl 31,hostM k a hst lcl⟩
theorem ltrs_is (s:List UInt8) (m:Nat) (hm:1≤m):ltrs s m≠[]∧(ltrs s m).length≤m∧∀c∈ltrs s m,ldB c=true:=by
 unfold ltrs
 split
 ·refine⟨by simp,hm,fun c hc=>?_⟩
  rw[List.mem_singleton]at hc
  rw[hc]
  decide
 ·rename_i h
  refine⟨h,by rw[List.length_take];omega,fun c hc=>?_⟩
  exact(List.mem_filter.1 (List.mem_of_mem_take hc)).2
theorem tggd_is (s:List UInt8) (m:Nat) (hm:1≤m):tggd s m≠[]∧(tggd s m).length≤m∧∀c∈tggd s m,plB c=true:=by
 unfold tggd
 split
 ·refine⟨by simp,hm,fun c hc=>?_⟩
  rw[List.mem_singleton]at hc
  rw[hc]
  decide
 ·rename_i h
  refine⟨h,by rw[List.length_take];omega,fun c hc=>?_⟩
  exact(List.mem_filter.1 (List.mem_of_mem_take hc)).2
theorem shwn_is (s:List UInt8) (m:Nat):(shwn s m).length≤m∧∀c∈shwn s m,shB c=true:=by
 unfold shwn
 exact⟨by rw[List.length_take];omega,fun c hc=>(List.mem_filter.1 (List.mem_of_mem_take hc)).2⟩
theorem ldp_fin:∀b:Fin 256,ldB (UInt8.ofNat b.val)=true→lbB (UInt8.ofNat b.val)=true∧UInt8.ofNat b.val≠45∧UInt8.ofNat b.val≠46∧(UInt8.ofNat b.val).toNat<128:=by decide+kernel
theorem ldp_is {c:UInt8} (h:ldB c=true):lbB c=true∧c≠45∧c≠46∧c.toNat<128:=of_fin (P:=fun c=>ldB c=true→lbB c=true∧c≠45∧c≠46∧c.toNat<128) ldp_fin c h
theorem lab_of {x:List UInt8} (h0:x≠[]) (hl:x.length≤63) (hx:∀c∈x,ldB c=true):LabA x:=
 {ch:=fun c hc=>(ldp_is (hx c hc)).1,le:=hl,ne:=h0,hd:=fun e=>(ldp_is (hx 45 (List.mem_of_mem_head? e))).2.1 rfl,la:=fun e=>(ldp_is (hx 45 (List.mem_of_getLast? e))).2.1 rfl}
theorem wd_one {x:List UInt8} (h0:x≠[]) (hl:x.length≤63) (hx:∀c∈x,ldB c=true) (wide:Bool):wd wide x=(0,0):=
 wd_is (by omega) (wd_of_labels _ x 0 0 false x [] (splitD_none x fun c hc=>(ldp_is (hx c hc)).2.2.1) (lab_of h0 hl hx).rest (fun l hl=>by cases hl))
theorem wd_two {x y:List UInt8} (h0:x≠[]) (hl:x.length≤63) (hx:∀c∈x,ldB c=true) (g0:y≠[]) (gl:y.length≤63) (hy:∀c∈y,ldB c=true) (wide:Bool):wd wide (x++46::y)=(0,0):=
 wd_is (by simp only[List.length_append,List.length_cons];omega) (wd_of_labels _ (x++46::y) 0 0 false x [y] (by rw[splitD_dot x y (fun c hc=>(ldp_is (hx c hc)).2.2.1),splitD_none y fun c hc=>(ldp_is (hy c hc)).2.2.1]) (lab_of h0 hl hx).rest (fun l hl=>by rw[List.mem_singleton]at hl;rw[hl];exact lab_of g0 gl hy))
theorem chTag_tag {t:List UInt8} (h0:t≠[]) (hl:t.length≤20) (ht:∀c∈t,plB c=true):chTag ([116,97,103,58]++t)=0:=by
 have hc:colonAt ([116,97,103,58]++t)=some 3:=by simp[colonAt]
 have h6:sixB ([116,97,103,58]++t)=false:=by
  unfold sixB
  cases t with
  |nil=>exact absurd rfl h0
  |cons c r=>
   rw[Bool.and_eq_false_iff]
   right
   rw[decide_eq_false_iff_not]
   intro e
   have:sml ([116,97,103,58,c]:List UInt8)=[105,112,118,54,58]:=e
   have h2:=congrArg List.head? this
   revert h2
   show ¬(some (smB 116)=some 105)
   decide
 unfold chTag
 rw[if_neg (by simp only[List.length_append,List.length_cons,List.length_nil];omega),hc]
 dsimp only
 rw[if_neg (by rw[h6];decide)]
 unfold tagged
 have e1:spB lbB (([116,97,103,58]++t:List UInt8).take 3)=3:=by
  show spB lbB [116,97,103]=3
  decide
 have e2:([116,97,103,58]++t:List UInt8).drop (3+1)=t:=rfl
 have e3:spB plB t=t.length:=spB_full ht
 have h1:0<t.length:=List.length_pos_iff.2 h0
 rw[e1,e2,e3,if_neg,if_neg]
 ·simp only[List.length_append,List.length_cons,List.length_nil]
  omega
 ·rintro (h|h|h)
  ·omega
  ·omega
  ·revert h
   show ¬((103:UInt8)::(58::t))[0]?=some 45
   simp
theorem host_made (k:Int) (a:List Nat) (hl:a.length=16) (ha:∀n∈a,n<256) (hs lc:List UInt8) (wide:Bool):
  (hostM k a hs lc).Ok∧check (hostM k a hs lc) wide=0∧(wrH (hostM k a hs lc)).length≤46:=by
 have z16ok:∀(k:Int) (n:List UInt8),(⟨k,n,z16⟩:Ho).Ok:=fun k n=>⟨rfl,fun m hm=>by rw[(List.mem_replicate.1 hm).2];decide⟩
 obtain⟨x0,xl,hx⟩:=ltrs_is hs 30 (by omega)
 obtain⟨y0,yl,hy⟩:=ltrs_is lc 10 (by omega)
 obtain⟨t0,tl,ht⟩:=tggd_is hs 20 (by omega)
 unfold hostM
 by_cases k1:k=1
 ·rw[if_pos k1]
  have ok:(⟨2,[],a.take 4++List.replicate 12 0⟩:Ho).Ok:=⟨by simp[hl],fun m hm=>by
   rcases List.mem_append.1 hm with h|h
   ·exact ha m (List.mem_of_mem_take h)
   ·rw[(List.mem_replicate.1 h).2];decide⟩
  have et:(a.take 4++List.replicate 12 0).take 4=a.take 4:=by
   rw[List.take_append_of_le_length (by rw[List.length_take];omega),List.take_take]
   rfl
  have hc:∀w,check ⟨2,[],a.take 4++List.replicate 12 0⟩ w=0:=fun w=>by
   rw[check_v4 rfl]
   show _=fourH ((a.take 4++List.replicate 12 0).take 4)
   rw[et]
   rfl
  refine⟨ok,hc wide,?_⟩
  unfold wrH print
  rw[if_pos (hc true),if_pos rfl]
  dsimp only
  rw[et]
  obtain⟨p,q,r,s,e⟩:∃p q r s,a.take 4=[p,q,r,s]:=by
   have:(a.take 4).length=4:=by rw[List.length_take];omega
   match a.take 4,this with
   |[p,q,r,s],_=>exact⟨p,q,r,s,rfl⟩
  have:=print4_len p q r s
  rw[e]
  simp only[List.length_append,List.length_cons,List.length_nil]
  omega
 rw[if_neg k1]
 by_cases k2:k=2
 ·rw[if_pos k2]
  refine⟨⟨hl,ha⟩,(check_v6 rfl).2 rfl,?_⟩
  have h1:=(print6_wt a hl ha 0 0 (by omega) rfl).1
  have h2:∀G:List Nat,(∀n∈G,n<65536)→wtG G≤5*G.length:=by
   intro G
   induction G with
   |nil=>intro _;exact Nat.le_refl _
   |cons n r ih=>
    intro h
    have:=ih fun m hm=>h m (List.mem_cons_of_mem _ hm)
    have:=(hexD_ok n (h n (List.mem_cons_self ..))).2.2.2
    rw[wtG,List.length_cons]
    omega
  have h3:=h2 (grpsOf a) (grpsOf_lt a ha)
  rw[grpsOf_len,hl]at h3
  unfold wrH print
  rw[if_pos ((check_v6 rfl).2 rfl),if_neg (show ¬(3:Int)=2 by decide),if_pos rfl]
  dsimp only
  simp only[List.length_append,List.length_cons,List.length_nil]
  omega
 rw[if_neg k2]
 by_cases k3:k=3
 ·rw[if_pos k3]
  have hc:∀w,check ⟨4,[116,97,103,58]++tggd hs 20,z16⟩ w=0:=fun w=>check_tag' (chTag_tag t0 tl ht)
  refine⟨z16ok _ _,hc wide,?_⟩
  unfold wrH print
  rw[if_pos (hc true),if_neg (show ¬(4:Int)=2 by decide),if_neg (show ¬(4:Int)=3 by decide),if_pos rfl]
  dsimp only
  simp only[List.length_append,List.length_cons,List.length_nil]
  omega
 ·rw[if_neg k3]
  have hc:∀w,check ⟨1,ltrs hs 30++46::ltrs lc 10,z16⟩ w=0:=fun w=>check_name' (by rw[wd_two x0 (by omega) hx y0 (by omega) hy])
  refine⟨z16ok _ _,hc wide,?_⟩
  unfold wrH print
  rw[if_pos (hc true),if_neg (show ¬(1:Int)=2 by decide),if_neg (show ¬(1:Int)=3 by decide),if_neg (show ¬(1:Int)=4 by decide)]
  dsimp only
  simp only[List.length_append,List.length_cons]
  omega
theorem escL_two:∀l:List UInt8,(escL l).length≤2*l.length
 |[]=>Nat.le_refl _
 |c::r=>by
  have:=escL_two r
  rw[escL_cons]
  split<;>simp only[List.length_cons]<;>omega
theorem shw_ck {l:List UInt8} (hl:l.length≤31) (h:∀c∈l,shB c=true) (wide:Bool):ckL l wide=0∧(wrL l).length≤64:=by
 have hw:(wrL l).length≤64:=by
  unfold wrL
  have:=escL_two l
  split
  ·omega
  ·simp only[List.length_cons,List.length_append,List.length_nil]
   omega
 have low:Low l:=fun c hc=>sh_low (h c hc)
 exact⟨ckL_of (List.all_eq_true.2 fun c hc=>sh_lp (h c hc)) hw (fun _=>low) (low_wf low),hw⟩
theorem wrR_len:∀(r:List Ho),(∀h∈r,(wrH h).length≤9)→(wrR r).length≤11*r.length
 |[],_=>Nat.le_refl _
 |[h],hh=>by
  have:=hh h (List.mem_cons_self ..)
  simp only[wrR,List.length_cons,List.length_append,List.length_nil]
  omega
 |h::g::r,hh=>by
  have h1:=hh h (List.mem_cons_self ..)
  have h2:=wrR_len (g::r) fun x hx=>hh x (List.mem_cons_of_mem _ hx)
  simp only[wrR,List.length_cons,List.length_append]at h2 ⊢
  omega
theorem made_ok (k:Int) (a:List Nat) (hl:a.length=16) (ha:∀n∈a,n<256) (hs lc:List UInt8) (rt:List (List UInt8)) (wide:Bool):
  (madeP k a hs lc rt).Ok∧ckP (madeP k a hs lc rt) wide=0∧(wrP (madeP k a hs lc rt)).length≤256:=by
 obtain⟨ok,hc,hn⟩:=host_made k a hl ha hs lc wide
 obtain⟨sl,ss⟩:=shwn_is lc 31
 obtain⟨c1,c2⟩:=shw_ck sl ss wide
 have key:∀h∈(rt.take 10).map (fun t=>(⟨1,ltrs t 9,z16⟩:Ho)),h.Ok∧h.k=1∧check h wide=0∧(wrH h).length≤9:=fun h hh=>by
  obtain⟨t,_,rfl⟩:=List.mem_map.1 hh
  obtain⟨t0,tl,ht⟩:=ltrs_is t 9 (by omega)
  have hck:∀w,check ⟨1,ltrs t 9,z16⟩ w=0:=fun w=>check_name' (by rw[wd_one t0 (by omega) ht])
  refine⟨⟨rfl,fun m hm=>by rw[(List.mem_replicate.1 hm).2];decide⟩,rfl,hck wide,?_⟩
  unfold wrH print
  rw[if_pos (hck true),if_neg (show ¬(1:Int)=2 by decide),if_neg (show ¬(1:Int)=3 by decide),if_neg (show ¬(1:Int)=4 by decide)]
  exact tl
 have hr:=wrR_len _ fun h hh=>(key h hh).2.2.2
 have h10:((rt.take 10).map (fun t=>(⟨1,ltrs t 9,z16⟩:Ho))).length≤10:=by rw[List.length_map,List.length_take];omega
 have hlen:(wrP (madeP k a hs lc rt)).length≤256:=by
  unfold madeP
  rw[wrP_len]
  omega
 refine⟨⟨fun h hh=>(key h hh).1,ok⟩,?_,hlen⟩
 have hb:ckB (madeP k a hs lc rt) wide=0:=(ckB_box rfl).2 ⟨Nat.le_trans h10 (by decide),fun h hh=>⟨(key h hh).2.1,(key h hh).2.2.1⟩,c1,hc⟩
 unfold ckP
 rw[if_neg (by omega),hb]
theorem rowG_shift (k:Nat):∀(s:List UInt8) (e i:Nat) (b:Bool),rowG (e+k) (i+k) b s=rowG e i b s+k
 |[],_,_,_=>rfl
 |c::r,e,i,b=>by
  rw[rowG,rowG]
  have h1:=rowG_shift k r (i+1) (i+1) true
  have h2:=rowG_shift k r e (i+1) false
  rw[show i+1+k=i+k+1 from by omega]at h1 h2
  rw[h1,h2]
  split
  ·rfl
  ·split<;>rfl
def shQ (k:Nat):Except (Option Nat) (List UInt8×Nat)→Except (Option Nat) (List UInt8×Nat)
 | .ok (m,n)=>.ok (m,n+k)
 | .error none=>.error none
 | .error (some p)=>.error (some (p+k))
theorem shQ_pre (k:Nat) (c:UInt8) (x:Except (Option Nat) (List UInt8×Nat)):shQ k (preQ c x)=preQ c (shQ k x):=by
 match x with
 | .ok (m,n)=>rfl
 | .error none=>rfl
 | .error (some p)=>rfl
theorem qtM_shift (k:Nat):∀(s:List UInt8) (i:Nat) (b:Bool),1≤i→qtM (i+k) b s=shQ k (qtM i b s)
 |[],i,b,_=>by cases b<;>rfl
 |c::r,i,true,h=>by
  rw[qtM,qtM]
  split
  ·rw[shQ_pre,←qtM_shift k r (i+1) false (by omega),show i+1+k=i+k+1 from by omega]
  ·show Except.error (some (i+k - 1))=Except.error (some (i - 1+k))
   rw[show i+k - 1=i - 1+k from by omega]
 |c::r,i,false,h=>by
  rw[qtM,qtM]
  split
  ·show Except.ok ([],i+k+1)=Except.ok ([],i+1+k)
   rw[show i+k+1=i+1+k from by omega]
  ·split
   ·rw[←qtM_shift k r (i+1) true (by omega),show i+1+k=i+k+1 from by omega]
   ·split
    ·rw[shQ_pre,←qtM_shift k r (i+1) false (by omega),show i+1+k=i+k+1 from by omega]
    ·rfl
theorem step_34 (q:Q) (hq:q.1≠0→128≤q.2.1):stepQ q 34=if q.1=0 then some (0,0,0) else none:=by
 unfold stepQ
 by_cases h:q.1=0
 ·rw[if_pos h,if_pos h]
  rfl
 ·rw[if_neg h,if_neg h,if_pos (.inl (by have:=hq h;omega))]
theorem beg_low {b:Nat} {q:Q} (h:begQ b=some q):q.1≠0→128≤q.2.1:=by
 unfold begQ at h
 repeat' split at h
 all_goals first|(cases h;done)|(cases h;decide)
theorem step_low {q q':Q} {b:Nat} (h:stepQ q b=some q'):q'.1≠0→128≤q'.2.1:=by
 unfold stepQ at h
 split at h
 ·exact beg_low h
 ·split at h
  ·cases h
  ·split at h
   ·cases h;decide
   ·cases h;exact fun _=>Nat.le_refl _
theorem badUA_mark:∀(l:List UInt8) (q:Q) (n w:Nat),w≤n→(q.1=0↔w=n)→(q.1≠0→128≤q.2.1)→badUA q n w (l++[34])=if badUA q n w l=n+l.length then n+l.length+1 else badUA q n w l
 |[],q,n,w,hw,hq,hl=>by
  have e34:stepQ q (34:UInt8).toNat=if q.1=0 then some (0,0,0) else none:=step_34 q hl
  by_cases h:q.1=0
  ·have e:=hq.1 h
   subst e
   rw[if_pos h]at e34
   simp only[List.nil_append,badUA,e34,List.length_nil,Nat.add_zero,if_true]
  ·rw[if_neg h]at e34
   have hne:¬badUA q n w []=n+([]:List UInt8).length:=fun e=>h (hq.2 e)
   rw[if_neg hne]
   simp only[List.nil_append,badUA,e34]
 |b::t,q,n,w,hw,hq,hl=>by
  rw[List.cons_append,badUA,badUA]
  cases hs:stepQ q b.toNat with
  |none=>
   dsimp only
   rw[List.length_cons,if_neg (by omega)]
  |some q1=>
   dsimp only
   have:=badUA_mark t q1 (n+1) (if q1.1=0 then n+1 else w) (by split<;>omega) (by
    by_cases h:q1.1=0
    ·rw[if_pos h];exact⟨fun _=>rfl,fun _=>h⟩
    ·rw[if_neg h];exact⟨fun e=>absurd e h,fun e=>by omega⟩) (step_low hs)
   rw[this,List.length_cons]
   have e:n+1+t.length=n+(t.length+1):=by omega
   rw[e]
theorem badU_mark (l:List UInt8):badU (l++[34])=if badU l=l.length then l.length+1 else badU l:=by
 have:=badUA_mark l q0 0 0 (Nat.le_refl _) ⟨fun _=>rfl,fun _=>rfl⟩ (fun h=>absurd rfl h)
 rw[Nat.zero_add]at this
 exact this
theorem badU_low {c:UInt8} (h:c.toNat<128) (r:List UInt8):badU (c::r)=1+badU r:=by
 have h1:oneN (c::r)=some ((c.toNat:Int),1):=by
  show(if c.toNat<128 then _ else _)=_
  exact if_pos h
 rw[badU_some h1]
 rfl
theorem spB_mark (l:List UInt8):spB loB (l++[34])=if spB loB l=l.length then l.length+1 else spB loB l:=by
 induction l with
 |nil=>rfl
 |cons c r ih=>
  rw[List.cons_append,spB,spB,ih,List.length_cons]
  by_cases h:loB c=true
  ·rw[if_pos h,if_pos h]
   by_cases h2:spB loB r=r.length
   ·rw[if_pos h2,if_pos (by omega)]
   ·rw[if_neg h2,if_neg (by omega)]
  ·rw[if_neg h,if_neg h,if_neg (by omega)]
theorem lo_34:loB 34=true:=by decide
def fwL (wide:Bool) (l:List UInt8):Nat:=if wide=true then badU l else spB loB l
theorem fwL_le (wide:Bool) (l:List UInt8):fwL wide l≤l.length:=by
 unfold fwL
 split
 ·exact badU_le l
 ·exact spB_le loB l
theorem fwL_mark (wide:Bool) (l:List UInt8):fwL wide (34::(l++[34]))=if fwL wide l=l.length then l.length+2 else 1+fwL wide l:=by
 unfold fwL
 cases wide
 ·simp only[Bool.false_eq_true,if_false]
  rw[spB,if_pos lo_34,spB_mark]
  split<;>omega
 ·simp only[if_true]
  rw[badU_low (show(34:UInt8).toNat<128 by decide),badU_mark]
  split<;>omega
theorem badU_lows:∀(l:List UInt8),spB loB l=l.length→badU l=l.length
 |[],_=>rfl
 |c::r,h=>by
  rw[spB,List.length_cons]at h
  by_cases hc:loB c=true
  ·rw[if_pos hc]at h
   rw[badU_low (by unfold loB at hc;simpa using hc),badU_lows r (by omega),List.length_cons]
   omega
  ·rw[if_neg hc]at h
   omega
theorem finL_fw (wide:Bool) (b:List UInt8) (f:Nat) (m:List UInt8) (n:Nat):finL wide b f m n=if 64<n then .error (90,0) else if fwL wide b<b.length then .error (94,f+fwL wide b) else .ok (m,n):=by
 unfold finL fwL
 by_cases h:64<n
 ·rw[if_pos h,if_pos h]
 ·rw[if_neg h,if_neg h]
  cases wide
  ·rw[if_neg (show ¬(false=true) by decide)]
   by_cases h1:spB loB b<b.length
   ·rw[if_pos ⟨rfl,h1⟩,if_pos h1]
   ·rw[if_neg (fun x=>h1 x.2),if_neg h1]
    have h2:=badU_lows b (by have:=spB_le loB b;omega)
    rw[if_neg (by omega)]
  ·rw[if_neg (fun x=>by cases x.1),if_pos rfl]
def shE {α:Type} (a:Nat):Except (Nat×Nat) (α×Nat)→Except (Nat×Nat) (α×Nat)
 | .ok (x,n)=>.ok (x,a+n)
 | .error (e,p)=>.error (e,a+p)
def meL (s:List UInt8):Except (Nat×Nat) (List UInt8×Nat):=
 if s.head?=some 34 then (match qtM 1 false (s.drop 1) with
  | .ok (m,n)=>.ok (m,n)
  | .error none=>.error (91,0)
  | .error (some p)=>.error (90,p))
 else if rowL s=0 then .error (90,0)
 else .ok (s.take (rowL s),rowL s)
theorem qtM_ends:∀(s:List UInt8) (i:Nat) (b:Bool) (m:List UInt8) (n:Nat),qtM i b s=.ok (m,n)→i<n∧n - i≤s.length∧s.take (n - i)=s.take (n - 1 - i)++[34]
 |[],i,b,m,n,h=>by unfold qtM at h;cases h
 |c::r,i,true,m,n,h=>by
  rw[qtM]at h
  split at h
  ·obtain⟨m',rfl,h'⟩:=preQ_ok h
   obtain⟨h1,h2,h3⟩:=qtM_ends r (i+1) false m' n h'
   refine⟨by omega,by rw[List.length_cons];omega,?_⟩
   have e1:n - i=(n - (i+1))+1:=by omega
   have e2:n - 1 - i=(n - 1 - (i+1))+1:=by omega
   rw[e1,e2,List.take_succ_cons,List.take_succ_cons,h3,List.cons_append]
  ·cases h
 |c::r,i,false,m,n,h=>by
  rw[qtM]at h
  split at h
  ·rename_i hc
   injection h with h
   injection h with h1 h2
   subst h2
   refine⟨by omega,by rw[List.length_cons];omega,?_⟩
   have e1:i+1 - i=1:=by omega
   have e2:i+1 - 1 - i=0:=by omega
   rw[e1,e2,hc]
   rfl
  ·split at h
   ·obtain⟨h1,h2,h3⟩:=qtM_ends r (i+1) true m n h
    refine⟨by omega,by rw[List.length_cons];omega,?_⟩
    have h4:i+1≠n - 1∨True:=.inr trivial
    have e1:n - i=(n - (i+1))+1:=by omega
    by_cases hz:n - 1 - i=0
    ·have:n - (i+1)=0:=by omega
     omega
    ·have e2:n - 1 - i=(n - 1 - (i+1))+1:=by omega
     rw[e1,e2,List.take_succ_cons,List.take_succ_cons,h3,List.cons_append]
   ·split at h
    ·obtain⟨m',rfl,h'⟩:=preQ_ok h
     obtain⟨h1,h2,h3⟩:=qtM_ends r (i+1) false m' n h'
     refine⟨by omega,by rw[List.length_cons];omega,?_⟩
     have e1:n - i=(n - (i+1))+1:=by omega
     have e2:n - 1 - i=(n - 1 - (i+1))+1:=by omega
     rw[e1,e2,List.take_succ_cons,List.take_succ_cons,h3,List.cons_append]
    ·cases h
theorem lcl_me (wide:Bool) (s:List UInt8):lcl wide s=match meL s with
  | .error e=>.error e
  | .ok (m,n)=>if 64<n then .error (90,0) else if fwL wide (s.take n)<(s.take n).length then .error (94,fwL wide (s.take n)) else .ok (m,n):=by
 unfold lcl meL
 by_cases h:s.head?=some 34
 ·rw[if_pos h,if_pos h]
  cases hq:qtM 1 false (s.drop 1) with
  |error x=>
   cases x<;>rfl
  |ok x=>
   obtain⟨m,n⟩:=x
   obtain⟨h1,h2,h3⟩:=qtM_ends _ _ _ _ _ hq
   dsimp only
   rw[finL_fw]
   obtain⟨c,r,rfl⟩:∃c r,s=c::r:=by
    cases s with
    |nil=>cases h
    |cons c r=>exact⟨c,r,rfl⟩
   rw[List.head?_cons]at h
   injection h with h
   subst h
   rw[List.drop_succ_cons,List.drop_zero]at h2 h3 ⊢
   have e1:n=(n - 1)+1:=by omega
   have ht:(34::r).take n=34::(r.take (n - 2)++[34]):=by
    have e3:n - 1 - 1=n - 2:=by omega
    rw[e3]at h3
    conv=>lhs;rw[e1]
    rw[List.take_succ_cons,h3]
   rw[ht,fwL_mark]
   have hl:(r.take (n - 2)).length=n - 2:=by rw[List.length_take];omega
   have hle:=fwL_le wide (r.take (n - 2))
   rw[hl]at hle
   have hll:(34::(r.take (n - 2)++[34])).length=n:=by
    rw[List.length_cons,List.length_append,hl,List.length_singleton]
    omega
   rw[hll,hl]
   by_cases h6:64<n
   ·rw[if_pos h6,if_pos h6]
   ·rw[if_neg h6,if_neg h6]
    by_cases h7:fwL wide (r.take (n - 2))=n - 2
    ·rw[if_neg (by omega),if_pos h7,if_neg (by omega)]
    ·rw[if_pos (by omega),if_neg h7,if_pos (by omega)]
 ·rw[if_neg h,if_neg h]
  by_cases h0:rowL s=0
  ·rw[if_pos h0,if_pos h0]
  ·rw[if_neg h0,if_neg h0,finL_fw]
   dsimp only
   rw[Nat.zero_add]
theorem meL_le {s m:List UInt8} {n:Nat} (h:meL s=.ok (m,n)):n≤s.length:=by
 unfold meL at h
 split at h
 ·cases hq:qtM 1 false (s.drop 1) with
  |error x=>rw[hq]at h;cases x<;>cases h
  |ok x=>
   obtain⟨m',n'⟩:=x
   rw[hq]at h
   dsimp only at h
   injection h with h
   injection h with h1 h2
   subst h2
   obtain⟨h1,h2,_⟩:=qtM_ends _ _ _ _ _ hq
   rw[List.length_drop]at h2
   omega
 ·split at h
  ·cases h
  ·injection h with h
   injection h with h1 h2
   subst h2
   exact rowL_le s
end Go.Proofs.YtfjpkfhbmldmfaaGreatDoor
