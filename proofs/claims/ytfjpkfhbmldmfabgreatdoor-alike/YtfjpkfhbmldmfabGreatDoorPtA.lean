/-
  An address of the sixth kind is written in at most one byte more than it was read of.
-/
import Derived.Test.YtfjpkfhbmldmfabGreatDoorRpP
import Derived.Test.YtfjpkfhbmldmfabGreatDoorAdF
namespace Go.Proofs.YtfjpkfhbmldmfabGreatDoor
def wtG:List Nat→Nat
 |[]=>0
 |n::r=>(hexD n).length+1+wtG r
def wtP:List (List UInt8)→Nat
 |[]=>0
 |p::r=>p.length+1+wtP r
theorem wtP_append:∀x y:List (List UInt8),wtP (x++y)=wtP x+wtP y
 |[],y=>by rw[List.nil_append,wtP,Nat.zero_add]
 |p::x,y=>by rw[List.cons_append,wtP,wtP,wtP_append x y];omega
theorem wtP_map:∀G:List Nat,wtP (G.map hexD)=wtG G
 |[]=>rfl
 |n::r=>by rw[List.map_cons,wtP,wtG,wtP_map r]
theorem wt_join (d:UInt8):∀L:List (List UInt8),(joinL [d] L).length+(if L=[] then 0 else 1)=wtP L
 |[]=>rfl
 |[x]=>by rw[joinL,wtP,wtP,if_neg (by simp)]
 |x::y::r=>by
  have ih:=wt_join d (y::r)
  rw[if_neg (by simp)]at ih
  rw[joinL,wtP,if_neg (by simp),←ih,List.length_append,List.length_append,List.length_singleton]
  omega
theorem zr_max8:∀a b c d e f g h:Bool,∀i j:Fin 9,(((([a,b,c,d,e,f,g,h]:List Bool).drop i.val).take (j.val - i.val)).all id=true)→j.val≤8→j.val - i.val≤(zrB 0 0 0 0 [a,b,c,d,e,f,g,h]).2 - (zrB 0 0 0 0 [a,b,c,d,e,f,g,h]).1:=by decide+kernel
theorem zr_max (P:List Bool) (hP:P.length=8) (i z:Nat) (hz:i+z≤8) (ha:((P.drop i).take z).all id=true):z≤(zrB 0 0 0 0 P).2 - (zrB 0 0 0 0 P).1:=by
 match P,hP with
 |[a,b,c,d,e,f,g,h],_=>
  have:=zr_max8 a b c d e f g h ⟨i,by omega⟩ ⟨i+z,by omega⟩
  dsimp only at this
  rw[Nat.add_sub_cancel_left]at this
  exact this ha (by omega)
theorem wtP_mid (L:List (List UInt8)) (f t:Nat) (hft:f≤t) (ht:t≤L.length) (hz:∀k,f≤k→k<t→L[k]?=some [48]):wtP L=wtP (L.take f)+2*(t - f)+wtP (L.drop t):=by
 have key:∀(n:Nat) (M:List (List UInt8)),n≤M.length→(∀k,k<n→M[k]?=some [48])→wtP M=2*n+wtP (M.drop n):=by
  intro n
  induction n with
  |zero=>intro M _ _;rw[List.drop_zero];omega
  |succ n ih=>
   intro M hM hk
   cases M with
   |nil=>simp at hM
   |cons x M=>
    have h0:=hk 0 (by omega)
    rw[List.getElem?_cons_zero]at h0
    injection h0 with h0
    have:=ih M (by rw[List.length_cons]at hM;omega) (fun k hk'=>by have:=hk (k+1) (by omega);rw[List.getElem?_cons_succ]at this;exact this)
    rw[wtP,h0,List.drop_succ_cons,this,List.length_singleton]
    omega
 have h1:=key (t - f) (L.drop f) (by rw[List.length_drop];omega) (fun k hk=>by rw[List.getElem?_drop];exact hz (f+k) (by omega) (by omega))
 rw[List.drop_drop,show f+(t - f)=t from by omega]at h1
 have h2:=wtP_append (L.take f) (L.drop f)
 rw[List.take_append_drop]at h2
 omega
theorem print6_wt (a:List Nat) (ha:a.length=16) (la:∀x∈a,x<256) (i z:Nat) (hz:i+z≤8) (hr:((grpsOf a).drop i).take z=List.replicate z 0):
  (print6 a).length+1≤wtG (grpsOf a)∧(2≤z→∃f t,z≤t - f∧t≤8∧f≤t∧(print6 a).length+(if f=0 then 0 else 1)+(if t=8 then 0 else 1)+2*(t - f)=wtG (grpsOf a)+2):=by
 have hl:(grpsOf a).length=8:=by rw[grpsOf_len,ha]
 have hlt:=grpsOf_lt a la
 generalize hG:grpsOf a=G at hl hlt hr
 obtain⟨L,hL⟩:∃L,L=G.map hexD:=⟨_,rfl⟩
 have hLl:L.length=8:=by rw[hL,List.length_map,hl]
 have hw:wtP L=wtG G:=by rw[hL,wtP_map]
 obtain⟨z1,z2,z3⟩:=zeros_ok L
 have hmax:z≤(zeros L).2 - (zeros L).1:=by
  unfold zeros
  rw[zr_zrB]
  refine zr_max _ (by rw[List.length_map,hLl]) i z hz ?_
  rw[←List.map_drop,←List.map_take,hL,←List.map_drop,←List.map_take,hr,List.map_replicate,List.map_replicate,List.all_eq_true]
  intro x hx
  rw[(List.mem_replicate.1 hx).2]
  decide+kernel
 have hp:print6 a=if (zeros L).2 - (zeros L).1<2 then joinL [58] L else joinL [58] (L.take (zeros L).1)++[58,58]++joinL [58] (L.drop (zeros L).2):=by
  unfold print6
  rw[hG,←hL]
 have hm:=wtP_mid L _ _ z1 z2 z3
 have j1:=wt_join 58 L
 have j2:=wt_join 58 (L.take (zeros L).1)
 have j3:=wt_join 58 (L.drop (zeros L).2)
 rw[if_neg (by intro e;rw[e]at hLl;simp at hLl)]at j1
 generalize (zeros L).1=f at z1 z3 hmax hp hm j2
 generalize (zeros L).2=t at z1 z2 z3 hmax hp hm j3
 have c2:(L.take f=[])↔f=0:=by
  constructor
  ·intro e
   have:=congrArg List.length e
   rw[List.length_take,List.length_nil]at this
   omega
  ·rintro rfl;rfl
 have c3:(L.drop t=[])↔t=8:=by
  rw[List.drop_eq_nil_iff,hLl]
  omega
 simp only[c2]at j2
 simp only[c3]at j3
 rw[hp]
 by_cases hft:t - f<2
 ·rw[if_pos hft]
  exact⟨by omega,fun h=>by omega⟩
 ·rw[if_neg hft,List.length_append,List.length_append,show([58,58]:List UInt8).length=2 from rfl]
  refine⟨?_,fun _=>⟨f,t,hmax,by omega,z1,?_⟩⟩
  ·split at j2<;>split at j3<;>omega
  ·generalize (if f=0 then 0 else 1)=A at j2 ⊢
   generalize (if t=8 then 0 else 1)=B at j3 ⊢
   omega
theorem wrP_len (r:List Ho) (l:List UInt8) (h:Ho):(wrP ⟨3,r,l,h⟩).length=1+(wrR r).length+((wrL l).length+1+(wrH h).length)+1:=by
 show(60::(wrR r++wrB l h++[62]):List UInt8).length=_
 unfold wrB
 simp only[List.length_cons,List.length_append,List.length_nil]
 omega
theorem low_wf:∀{l:List UInt8},Low l→Wf l:=by
 intro l h
 rw[wf_iff]
 induction l with
 |nil=>rfl
 |cons c r ih=>
  have:=low_cons.1 h
  rw[runQ,show stepQ q0 c.toNat=some q0 from by rw[show q0=(0,0,0) from rfl,stepQ_zero,begQ_one this.1],Option.bind_some]
  exact ih this.2
def ltrs (s:List UInt8) (most:Nat):List UInt8:=if (s.filter ldB).take most=[] then [120] else (s.filter ldB).take most
def shwn (s:List UInt8) (most:Nat):List UInt8:=(s.filter shB).take most
def tggd (s:List UInt8) (most:Nat):List UInt8:=if (s.filter plB).take most=[] then [121] else (s.filter plB).take most
def hostM (k:Int) (a:List Nat) (hst lcl:List UInt8):Ho:=
 if k=1 then ⟨2,[],a.take 4++List.replicate 12 0⟩
 else if k=2 then ⟨3,[],a⟩
 else if k=3 then ⟨4,[116,97,103,58]++tggd hst 20,z16⟩
 else ⟨1,ltrs hst 30++46::ltrs lcl 10,z16⟩
def madeP (k:Int) (a:List Nat) (hst lcl:List UInt8) (rt:List (List UInt8)):Pt:=
 ⟨3,(rt.take 10).map (fun t=>⟨1,ltrs t 9,z16⟩),shwn lcl 31,hostM k a hst lcl⟩
theorem ltrs_is (s:List UInt8) (m:Nat) (hm:1≤m):ltrs s m≠[]∧(ltrs s m).length≤m∧∀c∈ltrs s m,ldB c=true:=by
 unfold ltrs
 split
 ·refine⟨by simp,hm,fun c hc=>?_⟩
  rw[List.mem_singleton]at hc
  rw[hc]
  decide
 ·rename_i h
  refine⟨h,by rw[List.length_take];omega,fun c hc=>?_⟩
  exact(List.mem_filter.1 (List.mem_of_mem_take hc)).2
theorem tggd_is (s:List UInt8) (m:Nat) (hm:1≤m):tggd s m≠[]∧(tggd s m).length≤m∧∀c∈tggd s m,plB c=true:=by
 unfold tggd
 split
 ·refine⟨by simp,hm,fun c hc=>?_⟩
  rw[List.mem_singleton]at hc
  rw[hc]
  decide
 ·rename_i h
  refine⟨h,by rw[List.length_take];omega,fun c hc=>?_⟩
  exact(List.mem_filter.1 (List.mem_of_mem_take hc)).2
theorem shwn_is (s:List UInt8) (m:Nat):(shwn s m).length≤m∧∀c∈shwn s m,shB c=true:=by
 unfold shwn
 exact⟨by rw[List.length_take];omega,fun c hc=>(List.mem_filter.1 (List.mem_of_mem_take hc)).2⟩
theorem ldp_fin:∀b:Fin 256,ldB (UInt8.ofNat b.val)=true→lbB (UInt8.ofNat b.val)=true∧UInt8.ofNat b.val≠45∧UInt8.ofNat b.val≠46∧(UInt8.ofNat b.val).toNat<128:=by decide+kernel
theorem ldp_is {c:UInt8} (h:ldB c=true):lbB c=true∧c≠45∧c≠46∧c.toNat<128:=of_fin (P:=fun c=>ldB c=true→lbB c=true∧c≠45∧c≠46∧c.toNat<128) ldp_fin c h
theorem lab_of {x:List UInt8} (h0:x≠[]) (hl:x.length≤63) (hx:∀c∈x,ldB c=true):LabA x:=
 {ch:=fun c hc=>(ldp_is (hx c hc)).1,le:=hl,ne:=h0,hd:=fun e=>(ldp_is (hx 45 (List.mem_of_mem_head? e))).2.1 rfl,la:=fun e=>(ldp_is (hx 45 (List.mem_of_getLast? e))).2.1 rfl}
theorem wd_one {x:List UInt8} (h0:x≠[]) (hl:x.length≤63) (hx:∀c∈x,ldB c=true) (wide:Bool):wd wide x=(0,0):=
 wd_is (by omega) (wd_of_labels _ x 0 0 false x [] (splitD_none x fun c hc=>(ldp_is (hx c hc)).2.2.1) (lab_of h0 hl hx).rest (fun l hl=>by cases hl))
theorem wd_two {x y:List UInt8} (h0:x≠[]) (hl:x.length≤63) (hx:∀c∈x,ldB c=true) (g0:y≠[]) (gl:y.length≤63) (hy:∀c∈y,ldB c=true) (wide:Bool):wd wide (x++46::y)=(0,0):=
 wd_is (by simp only[List.length_append,List.length_cons];omega) (wd_of_labels _ (x++46::y) 0 0 false x [y] (by rw[splitD_dot x y (fun c hc=>(ldp_is (hx c hc)).2.2.1),splitD_none y fun c hc=>(ldp_is (hy c hc)).2.2.1]) (lab_of h0 hl hx).rest (fun l hl=>by rw[List.mem_singleton]at hl;rw[hl];exact lab_of g0 gl hy))
theorem chTag_tag {t:List UInt8} (h0:t≠[]) (hl:t.length≤20) (ht:∀c∈t,plB c=true):chTag ([116,97,103,58]++t)=0:=by
 have hc:colonAt ([116,97,103,58]++t)=some 3:=by simp[colonAt]
 have h6:sixB ([116,97,103,58]++t)=false:=by
  unfold sixB
  cases t with
  |nil=>exact absurd rfl h0
  |cons c r=>
   rw[Bool.and_eq_false_iff]
   right
   rw[decide_eq_false_iff_not]
   intro e
   have:sml ([116,97,103,58,c]:List UInt8)=[105,112,118,54,58]:=e
   have h2:=congrArg List.head? this
   revert h2
   show ¬(some (smB 116)=some 105)
   decide
 unfold chTag
 rw[if_neg (by simp only[List.length_append,List.length_cons,List.length_nil];omega),hc]
 dsimp only
 rw[if_neg (by rw[h6];decide)]
 unfold tagged
 have e1:spB lbB (([116,97,103,58]++t:List UInt8).take 3)=3:=by
  show spB lbB [116,97,103]=3
  decide
 have e2:([116,97,103,58]++t:List UInt8).drop (3+1)=t:=rfl
 have e3:spB plB t=t.length:=spB_full ht
 have h1:0<t.length:=List.length_pos_iff.2 h0
 rw[e1,e2,e3,if_neg,if_neg]
 ·simp only[List.length_append,List.length_cons,List.length_nil]
  omega
 ·rintro (h|h|h)
  ·omega
  ·omega
  ·revert h
   show ¬((103:UInt8)::(58::t))[0]?=some 45
   simp
theorem host_made (k:Int) (a:List Nat) (hl:a.length=16) (ha:∀n∈a,n<256) (hs lc:List UInt8) (wide:Bool):
  (hostM k a hs lc).Ok∧check (hostM k a hs lc) wide=0∧(wrH (hostM k a hs lc)).length≤46:=by
 have z16ok:∀(k:Int) (n:List UInt8),(⟨k,n,z16⟩:Ho).Ok:=fun k n=>⟨rfl,fun m hm=>by rw[(List.mem_replicate.1 hm).2];decide⟩
 obtain⟨x0,xl,hx⟩:=ltrs_is hs 30 (by omega)
 obtain⟨y0,yl,hy⟩:=ltrs_is lc 10 (by omega)
 obtain⟨t0,tl,ht⟩:=tggd_is hs 20 (by omega)
 unfold hostM
 by_cases k1:k=1
 ·rw[if_pos k1]
  have ok:(⟨2,[],a.take 4++List.replicate 12 0⟩:Ho).Ok:=⟨by simp[hl],fun m hm=>by
   rcases List.mem_append.1 hm with h|h
   ·exact ha m (List.mem_of_mem_take h)
   ·rw[(List.mem_replicate.1 h).2];decide⟩
  have et:(a.take 4++List.replicate 12 0).take 4=a.take 4:=by
   rw[List.take_append_of_le_length (by rw[List.length_take];omega),List.take_take]
   rfl
  have hc:∀w,check ⟨2,[],a.take 4++List.replicate 12 0⟩ w=0:=fun w=>by
   rw[check_v4 rfl]
   show _=fourH ((a.take 4++List.replicate 12 0).take 4)
   rw[et]
   rfl
  refine⟨ok,hc wide,?_⟩
  unfold wrH print
  rw[if_pos (hc true),if_pos rfl]
  dsimp only
  rw[et]
  obtain⟨p,q,r,s,e⟩:∃p q r s,a.take 4=[p,q,r,s]:=by
   have:(a.take 4).length=4:=by rw[List.length_take];omega
   match a.take 4,this with
   |[p,q,r,s],_=>exact⟨p,q,r,s,rfl⟩
  have:=print4_len p q r s
  rw[e]
  simp only[List.length_append,List.length_cons,List.length_nil]
  omega
 rw[if_neg k1]
 by_cases k2:k=2
 ·rw[if_pos k2]
  refine⟨⟨hl,ha⟩,(check_v6 rfl).2 rfl,?_⟩
  have h1:=(print6_wt a hl ha 0 0 (by omega) rfl).1
  have h2:∀G:List Nat,(∀n∈G,n<65536)→wtG G≤5*G.length:=by
   intro G
   induction G with
   |nil=>intro _;exact Nat.le_refl _
   |cons n r ih=>
    intro h
    have:=ih fun m hm=>h m (List.mem_cons_of_mem _ hm)
    have:=(hexD_ok n (h n (List.mem_cons_self ..))).2.2.2
    rw[wtG,List.length_cons]
    omega
  have h3:=h2 (grpsOf a) (grpsOf_lt a ha)
  rw[grpsOf_len,hl]at h3
  unfold wrH print
  rw[if_pos ((check_v6 rfl).2 rfl),if_neg (show ¬(3:Int)=2 by decide),if_pos rfl]
  dsimp only
  simp only[List.length_append,List.length_cons,List.length_nil]
  omega
 rw[if_neg k2]
 by_cases k3:k=3
 ·rw[if_pos k3]
  have hc:∀w,check ⟨4,[116,97,103,58]++tggd hs 20,z16⟩ w=0:=fun w=>check_tag' (chTag_tag t0 tl ht)
  refine⟨z16ok _ _,hc wide,?_⟩
  unfold wrH print
  rw[if_pos (hc true),if_neg (show ¬(4:Int)=2 by decide),if_neg (show ¬(4:Int)=3 by decide),if_pos rfl]
  dsimp only
  simp only[List.length_append,List.length_cons,List.length_nil]
  omega
 ·rw[if_neg k3]
  have hc:∀w,check ⟨1,ltrs hs 30++46::ltrs lc 10,z16⟩ w=0:=fun w=>check_name' (by rw[wd_two x0 (by omega) hx y0 (by omega) hy])
  refine⟨z16ok _ _,hc wide,?_⟩
  unfold wrH print
  rw[if_pos (hc true),if_neg (show ¬(1:Int)=2 by decide),if_neg (show ¬(1:Int)=3 by decide),if_neg (show ¬(1:Int)=4 by decide)]
  dsimp only
  simp only[List.length_append,List.length_cons]
  omega
theorem escL_two:∀l:List UInt8,(escL l).length≤2*l.length
 |[]=>Nat.le_refl _
 |c::r=>by
  have:=escL_two r
  rw[escL_cons]
  split<;>simp only[List.length_cons]<;>omega
theorem shw_ck {l:List UInt8} (hl:l.length≤31) (h:∀c∈l,shB c=true) (wide:Bool):ckL l wide=0∧(wrL l).length≤64:=by
 have hw:(wrL l).length≤64:=by
  unfold wrL
  have:=escL_two l
  split
  ·omega
  ·simp only[List.length_cons,List.length_append,List.length_nil]
   omega
 have low:Low l:=fun c hc=>sh_low (h c hc)
 exact⟨ckL_of (List.all_eq_true.2 fun c hc=>sh_lp (h c hc)) hw (fun _=>low) (low_wf low),hw⟩
theorem wrR_len:∀(r:List Ho),(∀h∈r,(wrH h).length≤9)→(wrR r).length≤11*r.length
 |[],_=>Nat.le_refl _
 |[h],hh=>by
  have:=hh h (List.mem_cons_self ..)
  simp only[wrR,List.length_cons,List.length_append,List.length_nil]
  omega
 |h::g::r,hh=>by
  have h1:=hh h (List.mem_cons_self ..)
  have h2:=wrR_len (g::r) fun x hx=>hh x (List.mem_cons_of_mem _ hx)
  simp only[wrR,List.length_cons,List.length_append]at h2 ⊢
  omega
theorem made_ok (k:Int) (a:List Nat) (hl:a.length=16) (ha:∀n∈a,n<256) (hs lc:List UInt8) (rt:List (List UInt8)) (wide:Bool):
  (madeP k a hs lc rt).Ok∧ckP (madeP k a hs lc rt) wide=0∧(wrP (madeP k a hs lc rt)).length≤256:=by
 obtain⟨ok,hc,hn⟩:=host_made k a hl ha hs lc wide
 obtain⟨sl,ss⟩:=shwn_is lc 31
 obtain⟨c1,c2⟩:=shw_ck sl ss wide
 have key:∀h∈(rt.take 10).map (fun t=>(⟨1,ltrs t 9,z16⟩:Ho)),h.Ok∧h.k=1∧check h wide=0∧(wrH h).length≤9:=fun h hh=>by
  obtain⟨t,_,rfl⟩:=List.mem_map.1 hh
  obtain⟨t0,tl,ht⟩:=ltrs_is t 9 (by omega)
  have hck:∀w,check ⟨1,ltrs t 9,z16⟩ w=0:=fun w=>check_name' (by rw[wd_one t0 (by omega) ht])
  refine⟨⟨rfl,fun m hm=>by rw[(List.mem_replicate.1 hm).2];decide⟩,rfl,hck wide,?_⟩
  unfold wrH print
  rw[if_pos (hck true),if_neg (show ¬(1:Int)=2 by decide),if_neg (show ¬(1:Int)=3 by decide),if_neg (show ¬(1:Int)=4 by decide)]
  exact tl
 have hr:=wrR_len _ fun h hh=>(key h hh).2.2.2
 have h10:((rt.take 10).map (fun t=>(⟨1,ltrs t 9,z16⟩:Ho))).length≤10:=by rw[List.length_map,List.length_take];omega
 have hlen:(wrP (madeP k a hs lc rt)).length≤256:=by
  unfold madeP
  rw[wrP_len]
  omega
 refine⟨⟨fun h hh=>(key h hh).1,ok⟩,?_,hlen⟩
 have hb:ckB (madeP k a hs lc rt) wide=0:=(ckB_box rfl).2 ⟨Nat.le_trans h10 (by decide),fun h hh=>⟨(key h hh).2.1,(key h hh).2.2.1⟩,c1,hc⟩
 unfold ckP
 rw[if_neg (by omega),hb]
theorem same_caps (f:List UInt8→List UInt8) {n n':List UInt8} (h:sml n=sml n') (h1:check ⟨1,n,z16⟩ true=0) (h2:check ⟨1,n',z16⟩ true=0):same f ⟨1,n,z16⟩ ⟨1,n',z16⟩=true:=by
 have ea:asciiD f n=asciiD f n':=by unfold asciiD;rw[h]
 have e:ascii f ⟨1,n,z16⟩=ascii f ⟨1,n',z16⟩:=by
  unfold ascii
  rw[if_pos h1,if_pos h2]
  dsimp only
  rw[if_pos rfl,if_pos rfl,ea]
 rw[same_iff]
 refine⟨rfl,h1,h2,?_⟩
 rw[e]
 by_cases h0:(ascii f ⟨1,n',z16⟩).2=0
 ·exact .inl ⟨h0,h0,rfl⟩
 ·exact .inr ⟨fun h=>h0 h.1,h⟩
end Go.Proofs.YtfjpkfhbmldmfabGreatDoor
