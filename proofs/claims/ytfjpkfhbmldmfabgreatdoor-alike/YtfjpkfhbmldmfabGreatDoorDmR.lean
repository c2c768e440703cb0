/-
  P8.9 in plain mathematics: what is read may be, is written, and is read again as the same; so is a host that may be.
-/
import Derived.Test.YtfjpkfhbmldmfabGreatDoorDmQ
namespace Go.Proofs.YtfjpkfhbmldmfabGreatDoor
theorem joinL_len (sep:List UInt8) (k:Nat) (hs:sep.length=1):∀l:List (List UInt8),(∀x∈l,x.length≤k)→(joinL sep l).length≤l.length*(k+1)
 |[],_=>by simp[joinL]
 |[x],h=>by
  have:=h x (by simp)
  simp[joinL]
  omega
 |x::y::r,h=>by
  have h1:=h x (by simp)
  have h2:=joinL_len sep k hs (y::r) fun z hz=>h z (by simp[hz])
  rw[joinL,List.length_append,List.length_append,hs]
  simp only[List.length_cons]at h2 ⊢
  rw[Nat.add_mul (r.length+1) 1]
  omega
theorem print6_len (a:List Nat) (ha:a.length=16) (hb:∀n∈a,n<256):(print6 a).length≤82:=by
 obtain⟨_,hl,hg⟩:=two_grps a (by rw[ha]) hb
 rw[ha]at hl
 have hx:∀x∈(grpsOf a).map hexD,x.length≤4:=fun x hx=>by
  obtain⟨n,hn,rfl⟩:=List.mem_map.1 hx
  exact(hexD_ok n (hg n hn)).2.2.2
 have hml:((grpsOf a).map hexD).length=8:=by rw[List.length_map];omega
 unfold print6
 generalize (grpsOf a).map hexD=L at hx hml ⊢
 split
 ·have:=joinL_len [58] 4 rfl L hx
  rw[hml]at this
  omega
 ·have h1:=joinL_len [58] 4 rfl (L.take (zeros L).1) fun x h=>hx x (List.mem_of_mem_take h)
  have h2:=joinL_len [58] 4 rfl (L.drop (zeros L).2) fun x h=>hx x (List.mem_of_mem_drop h)
  rw[List.length_take]at h1
  rw[List.length_drop]at h2
  simp only[List.length_append,List.length_cons,List.length_nil]
  have:min (zeros L).1 L.length*(4+1)≤8*5:=by
   rw[hml]
   omega
  have:(L.length - (zeros L).2)*(4+1)≤8*5:=by
   rw[hml]
   omega
  omega
theorem lit_inner (x:List UInt8) (h:x.length≤253):lit ([91]++x++[93])=if sixB x=true then told 6 ⟨3,[],addrOf 16 (v6 (x.drop 5))⟩ (spotOf (v6 (x.drop 5)))
  else match colonAt x with
  |some k=>told 1 ⟨4,x,z16⟩ (tagged x k)
  |none=>told 1 (fourH (addrOf 4 (v4 x))) (spotOf (v4 x)):=by
 unfold lit
 rw[if_neg (by simp;omega),bracket_last,if_neg (by simp),bracket_inner]
 rfl
theorem parse_br (x:List UInt8) (wide:Bool):parse ([91]++x++[93]) wide=lit ([91]++x++[93]):=by
 unfold parse
 rw[if_pos (by simp)]
structure Ho.Ok (h:Ho):Prop where
 len:h.a.length=16
 byt:∀n∈h.a,n<256
theorem back_host (h:Ho) (wide:Bool) (ok:h.Ok) (hc:check h wide=0):∃t,print h=(t,0)∧parse t wide=(h,(0,0))∧t.length≤255∧check h true=0:=by
 have len:=ok.len
 have byt:=ok.byt
 obtain⟨k,n,a⟩:=h
 dsimp only at len byt
 unfold check at hc
 dsimp only at hc
 by_cases h1:k=1
 ·subst h1
  rw[if_pos rfl]at hc
  by_cases ha:a=z16
  ·rw[if_pos ha]at hc
   subst ha
   have hw:=wd_wide hc
   have hck:check ⟨1,n,z16⟩ true=0:=by unfold check;rw[if_pos rfl,if_pos rfl,hw]
   refine⟨n,?_,?_,(wd_ok hc).1,hck⟩
   ·unfold print
    rw[if_pos hck]
    rfl
   ·unfold parse
    rw[if_neg (wd_head hc),if_pos hc]
  ·rw[if_neg ha]at hc;cases hc
 ·rw[if_neg h1]at hc
  by_cases h2:k=2
  ·subst h2
   rw[if_pos rfl]at hc
   by_cases hf:(⟨2,n,a⟩:Ho)=fourH (a.take 4)
   ·have hn:n=[]:=by unfold fourH at hf;injection hf
    have ha:a=a.take 4++List.replicate 12 0:=by unfold fourH at hf;injection hf
    obtain⟨w,x,y,z,hwx⟩:∃w x y z,a.take 4=[w,x,y,z]:=by
     have:(a.take 4).length=4:=by rw[List.length_take];omega
     match a.take 4,this with
     |[w,x,y,z],_=>exact⟨w,x,y,z,rfl⟩
    have hb:∀m∈[w,x,y,z],m<256:=fun m hm=>by rw[←hwx]at hm;exact byt m (List.mem_of_mem_take hm)
    have hck:check ⟨2,n,a⟩ true=0:=by unfold check;rw[if_neg (show ¬(2:Int)=1 by decide),if_pos rfl,if_pos hf]
    refine⟨[91]++print4 (a.take 4)++[93],?_,?_,?_,hck⟩
    ·unfold print
     rw[if_pos hck]
     rfl
    ·rw[hwx,parse_br,lit_inner _ (by have:=print4_len w x y z;omega),not_six (print4_mem _ hb),if_neg (by decide),colonAt_none (fun c hc=>?_)]
     ·have:=v4_print w x y z (hb w (by simp)) (hb x (by simp)) (hb y (by simp)) (hb z (by simp))
      dsimp only
      rw[this]
      show(fourH [w,x,y,z],((0,0):Nat×Nat))=_
      rw[←hwx,←hf]
     ·rcases print4_mem _ hb c hc with h|h
      ·obtain⟨h1,h2⟩:=dgB_is h
       intro e
       rw[e]at h2
       revert h2
       decide
      ·rw[h];decide
    ·rw[hwx]
     have:=print4_len w x y z
     simp only[List.length_append,List.length_cons,List.length_nil]
     omega
   ·rw[if_neg hf]at hc;cases hc
  ·rw[if_neg h2]at hc
   by_cases h3:k=3
   ·subst h3
    rw[if_pos rfl]at hc
    by_cases hn:n=[]
    ·subst hn
     have hck:check ⟨3,[],a⟩ true=0:=rfl
     have hl:=print6_len a len byt
     have e:([91,73,80,118,54,58]++print6 a++[93]:List UInt8)=[91]++([73,80,118,54,58]++print6 a)++[93]:=by simp
     refine⟨[91,73,80,118,54,58]++print6 a++[93],?_,?_,by simp;omega,hck⟩
     ·unfold print
      rw[if_pos hck]
      rfl
     ·rw[e,parse_br,lit_inner _ (by simp;omega),if_pos ?_]
      ·rw[show([73,80,118,54,58]++print6 a:List UInt8).drop 5=print6 a from rfl,v6_print a len byt]
       rfl
      ·show(decide (5≤([73,80,118,54,58]++print6 a:List UInt8).length)&&decide (sml [73,80,118,54,58]=[105,112,118,54,58]))=true
       rw[decide_eq_true (by simp),Bool.true_and]
       decide
    ·rw[if_neg hn]at hc;cases hc
   ·rw[if_neg h3]at hc
    by_cases h4:k=4
    ·subst h4
     rw[if_pos rfl]at hc
     by_cases ha:a=z16
     ·subst ha
      rw[if_pos rfl]at hc
      have hck:check ⟨4,n,z16⟩ true=0:=by unfold check;rw[if_neg (show ¬(4:Int)=1 by decide),if_neg (show ¬(4:Int)=2 by decide),if_neg (show ¬(4:Int)=3 by decide),if_pos rfl,if_pos rfl,hc]
      unfold chTag at hc
      by_cases hl:253<n.length
      ·rw[if_pos hl]at hc;cases hc
      ·rw[if_neg hl]at hc
       cases hk:colonAt n with
       |none=>rw[hk]at hc;cases hc
       |some j=>
        rw[hk]at hc
        dsimp only at hc
        by_cases h6:sixB n=true
        ·rw[if_pos h6]at hc;cases hc
        ·rw[if_neg h6]at hc
         refine⟨[91]++n++[93],?_,?_,by simp;omega,hck⟩
         ·unfold print
          rw[if_pos hck]
          rfl
         ·rw[parse_br,lit_inner _ (by omega),if_neg h6,hk]
          dsimp only
          unfold told
          rw[if_pos hc]
     ·rw[if_neg ha]at hc;cases hc
    ·rw[if_neg h4]at hc;cases hc
theorem told_zero {p:Nat} {h:Ho} {e:Nat×Nat} (h0:(told p h e).2.1=0):e.1=0∧told p h e=(h,(0,0)):=by
 unfold told at*
 by_cases he:e.1=0
 ·rw[if_pos he];exact⟨he,rfl⟩
 ·rw[if_neg he]at h0;exact absurd h0 he
theorem told_err {p:Nat} {h:Ho} {e:Nat×Nat} (h0:(told p h e).2.1≠0):(told p h e).1=ho0∧(told p h e).2.2=p+e.2:=by
 unfold told at*
 by_cases he:e.1=0
 ·rw[if_pos he]at h0;exact absurd rfl h0
 ·rw[if_neg he];exact⟨rfl,rfl⟩
theorem bracket_of {s:List UInt8} (h1:s.head?=some 91) (h2:s.getLast?=some 93):s=[91]++(s.drop 1).take (s.length - 2)++[93]:=by
 match s,h1 with
 |c::r,h1=>
  simp at h1
  subst h1
  have hr:r≠[]:=fun h=>by rw[h]at h2;simp at h2
  rw[List.getLast?_cons,List.getLast?_eq_some_getLast hr]at h2
  simp at h2
  have:=List.dropLast_concat_getLast hr
  rw[h2]at this
  rw[List.drop_one,List.tail_cons,List.length_cons,show r.length+1 - 2=r.length - 1 from by omega,←List.dropLast_eq_take]
  rw[List.append_assoc,this]
  rfl
theorem v4Go_le':∀(k:Nat) (l:List Nat) (a:Nat) (s:List UInt8) (p:Nat),v4Go k l a s=.error p→p≤a+s.length
 |0,l,a,s,p,h=>by
  rw[v4Go]at h
  split at h
  ·cases h
  ·injection h with h;omega
 |k+1,l,a,s,p,h=>by
  have h1:=numGo_le s 0 0 (by omega)
  have h2:=numGo_le (s.drop 1) 0 0 (by omega)
  rw[v4Go]at h
  split at h
  ·split at h
   ·injection h with h;omega
   ·have:=v4Go_le' k _ _ _ p h
    rw[List.length_drop]at this
    omega
  ·split at h
   ·have hs:1≤s.length:=by
     cases s with
     |nil=>rename_i h3;cases h3
     |cons c r=>simp
    rw[List.length_drop]at h2
    split at h
    ·injection h with h;omega
    ·have:=v4Go_le' k _ _ _ p h
     rw[List.length_drop,List.length_drop]at this
     omega
   ·injection h with h;omega
theorem v4_le' (s:List UInt8) (p:Nat) (h:v4 s=.error p):p≤s.length:=by
 have:=v4Go_le' 4 [] 0 s p h
 omega
theorem v4Go_ok':∀(k:Nat) (l:List Nat) (a:Nat) (s:List UInt8) (x:List Nat),(∀n∈l,n<256)→v4Go k l a s=.ok x→x.length=l.length+k∧∀n∈x,n<256
 |0,l,a,s,x,hl,h=>by
  rw[v4Go]at h
  split at h
  ·injection h with h;subst h;exact⟨rfl,hl⟩
  ·cases h
 |k+1,l,a,s,x,hl,h=>by
  have h1:=numGo_le s 0 0 (by omega)
  have h2:=numGo_le (s.drop 1) 0 0 (by omega)
  have key:∀m,m≤255→∀n∈l++[m],n<256:=fun m hm n hn=>by
   rcases List.mem_append.1 hn with hn|hn
   ·exact hl n hn
   ·rw[List.mem_singleton.1 hn];omega
  rw[v4Go]at h
  split at h
  ·split at h
   ·cases h
   ·have:=v4Go_ok' k _ _ _ x (key _ h1.1) h
    rw[List.length_append,List.length_singleton]at this
    exact⟨by omega,this.2⟩
  ·split at h
   ·split at h
    ·cases h
    ·have:=v4Go_ok' k _ _ _ x (key _ h2.1) h
     rw[List.length_append,List.length_singleton]at this
     exact⟨by omega,this.2⟩
   ·cases h
theorem v4_four' (s:List UInt8) (x:List Nat) (h:v4 s=.ok x):∃a b c d,x=[a,b,c,d]∧a<256∧b<256∧c<256∧d<256:=by
 obtain⟨h1,h2⟩:=v4Go_ok' 4 [] 0 s x (fun n hn=>by cases hn) h
 match x,h1 with
 |[a,b,c,d],_=>exact⟨a,b,c,d,rfl,h2 a (by simp),h2 b (by simp),h2 c (by simp),h2 d (by simp)⟩
structure Gs.Fit (g:Gs):Prop where
 lt:∀n∈g.l,n<65536
 le:g.gap=none→g.l.length≤8
 gp:∀k,g.gap=some k→k≤g.l.length∧g.l.length≤6
theorem Gs.Fit.put {g:Gs} {n:Nat} (h:g.Fit) (hn:n<65536) (hr:0<g.room):(g.put n).Fit:=by
 refine⟨fun m hm=>?_,fun e=>?_,fun k e=>?_⟩
 ·rcases List.mem_append.1 hm with hm|hm
  ·exact h.lt m hm
  ·rw[List.mem_singleton.1 hm];exact hn
 ·have e':g.gap=none:=e
  unfold Gs.room at hr
  rw[e']at hr
  simp at hr
  simp[Gs.put]
  omega
 ·have e':g.gap=some k:=e
  have:=h.gp k e'
  unfold Gs.room at hr
  rw[e']at hr
  simp at hr
  simp[Gs.put]
  omega
theorem Gs.Fit.open' {g:Gs} (h:g.Fit) (ho:g.mayOpen=true):g.open'.Fit:=by
 unfold Gs.mayOpen at ho
 simp at ho
 refine⟨h.lt,fun e=>(by cases e),fun k e=>?_⟩
 have:g.l.length=k:=by injection e
 subst this
 exact⟨Nat.le_refl _,ho.2⟩
theorem twoB_len:∀l:List Nat,(twoB l).length=2*l.length
 |[]=>rfl
 |n::r=>by rw[twoB];simp[twoB_len r];omega
theorem twoB_lt:∀l:List Nat,(∀n∈l,n<65536)→∀n∈twoB l,n<256
 |[],_,n,hn=>by cases hn
 |m::r,h,n,hn=>by
  have hm:=h m (by simp)
  rw[twoB]at hn
  rcases List.mem_cons.1 hn with rfl|hn
  ·omega
  ·rcases List.mem_cons.1 hn with rfl|hn
   ·omega
   ·exact twoB_lt r (fun x hx=>h x (by simp[hx])) n hn
theorem Gs.Fit.addr {g:Gs} (h:g.Fit) (hf:g.gap=none→g.l.length=8):g.addr.length=16∧∀n∈g.addr,n<256:=by
 unfold Gs.addr
 have key:g.all.length=8∧∀n∈g.all,n<65536:=by
  unfold Gs.all
  cases hg:g.gap with
  |none=>exact⟨hf hg,h.lt⟩
  |some k=>
   have:=h.gp k hg
   refine⟨by simp;omega,fun n hn=>?_⟩
   simp only[List.mem_append]at hn
   rcases hn with(hn|hn)|hn
   ·exact h.lt n (List.mem_of_mem_take hn)
   ·rw[(List.mem_replicate.1 hn).2];decide
   ·exact h.lt n (List.mem_of_mem_drop hn)
 exact⟨by rw[twoB_len,key.1],twoB_lt _ key.2⟩
theorem hxV_lt:∀c:UInt8,hxB c=true→hxV c<16:=fun c h=>by
 unfold hxB dgB at h
 unfold hxV
 simp only[Bool.or_eq_true,Bool.and_eq_true,decide_eq_true_eq]at h
 split
 ·omega
 ·split<;>omega
theorem hexN_small:∀(l:List UInt8) (n:Nat),(∀c∈l,hxB c=true)→hexN n l<(n+1)*16 ^ l.length
 |[],n,_=>by simp[hexN]
 |c::r,n,h=>by
  have h1:=hxV_lt c (h c (by simp))
  have h2:=hexN_small r (16*n+hxV c) fun x hx=>h x (by simp[hx])
  rw[hexN,List.length_cons,Nat.pow_succ]
  refine Nat.lt_of_lt_of_le h2 ?_
  rw[Nat.mul_comm (16 ^ r.length) 16,←Nat.mul_assoc]
  exact Nat.mul_le_mul_right _ (by omega)
theorem hexSp_hx:∀(l:List UInt8) (k:Nat),k≤hexSp l→∀c∈l.take k,hxB c=true
 |[],k,_,c,hc=>by simp at hc
 |x::r,0,_,c,hc=>by simp at hc
 |x::r,k+1,h,c,hc=>by
  rw[hexSp]at h
  by_cases hx:hxB x=true
  ·rw[if_pos hx]at h
   rw[List.take_succ_cons]at hc
   rcases List.mem_cons.1 hc with rfl|hc
   ·exact hx
   ·exact hexSp_hx r k (by omega) c hc
  ·rw[if_neg hx]at h;omega
theorem hexSp_leP:∀l:List UInt8,hexSp l≤l.length
 |[]=>Nat.le_refl _
 |c::r=>by
  rw[hexSp,List.length_cons]
  have:=hexSp_leP r
  split<;>omega
theorem grpN_lt' (s:List UInt8):grpN s<65536:=by
 unfold grpN
 have h:=hexN_small (s.take (grpL s)) 0 (hexSp_hx s _ (by unfold grpL;omega))
 have hl:(s.take (grpL s)).length≤4:=by rw[List.length_take];unfold grpL;omega
 have hp:16 ^ (s.take (grpL s)).length≤16 ^ 4:=Nat.pow_le_pow_right (by decide) hl
 have:(16:Nat) ^ 4=65536:=by decide
 rw[this]at hp
 rw[Nat.zero_add,Nat.one_mul]at h
 omega
theorem grpL_le (s:List UInt8):grpL s≤s.length:=by
 have:=hexSp_leP s
 unfold grpL
 omega
theorem pairN_lt {s:List UInt8} {x:List Nat} (h:v4 s=.ok x) (k:Nat):pairN x k<65536:=by
 obtain⟨_,h2⟩:=v4Go_ok' 4 [] 0 s x (fun n hn=>by cases hn) h
 have key:∀j,x.getD j 0<256:=fun j=>by
  rw[List.getD_eq_getElem?_getD]
  cases hj:x[j]? with
  |none=>decide
  |some v=>exact h2 v (List.mem_of_getElem? hj)
 have h1:=key k
 have h3:=key (k+1)
 unfold pairN
 omega
theorem whole_full {g:Gs} (h:g.Fit) (hw:g.whole 0=true):g.gap=none→g.l.length=8:=fun hg=>by
 have hle:=h.le hg
 unfold Gs.whole Gs.room at hw
 rw[hg]at hw
 simp at hw
 omega
theorem v6Go_ok:∀(f:Nat) (g:Gs) (a:Nat) (s:List UInt8) (x:List Nat),g.Fit→v6Go f g a s=.ok x→x.length=16∧∀n∈x,n<256
 |0,_,_,_,_,_,h=>by rw[v6Go]at h;cases h
 |f+1,g,a,s,x,hg,h=>by
  rw[v6Go]at h
  split at h
  ·cases h
  ·rename_i h0
   have hr:0<g.room:=by omega
   have hp:(g.put (grpN s)).Fit:=hg.put (grpN_lt' s) hr
   split at h
   ·rename_i hw
    cases hv:v4 s with
    |error p=>rw[hv]at h;cases h
    |ok y=>
     rw[hv]at h
     injection h with h
     subst h
     have hw2:=hw.1
     unfold Gs.whole at hw2
     have h1:(g.put (pairN y 0)).Fit:=hg.put (pairN_lt hv 0) hr
     have hr2:2≤g.room:=by
      simp at hw2
      omega
     refine(h1.put (pairN_lt hv 2) (by rw[Gs.room_put];omega)).addr fun e=>?_
     have e':g.gap=none:=e
     have hle:=hg.le e'
     unfold Gs.room at hw2
     rw[e']at hw2
     simp at hw2
     simp[Gs.put]
     omega
   ·split at h
    ·rename_i hw
     injection h with h
     subst h
     exact hp.addr (whole_full hp hw.2)
    ·split at h
     ·cases h
     ·split at h
      ·split at h
       ·rename_i ho
        have hf:=hp.open' ho
        split at h
        ·injection h with h
         subst h
         exact hf.addr fun e=>by cases e
        ·exact v6Go_ok f _ _ _ x hf h
       ·cases h
      ·exact v6Go_ok f _ _ _ x hp h
theorem v6_ok (s:List UInt8) (x:List Nat) (h:v6 s=.ok x):x.length=16∧∀n∈x,n<256:=by
 unfold v6 at h
 have h0:(⟨[],some 0⟩:Gs).Fit:=⟨fun n hn=>(by cases hn),fun e=>(by cases e),fun k e=>(by injection e with e;subst e;exact⟨Nat.le_refl _,Nat.zero_le _⟩)⟩
 have h1:(⟨[],none⟩:Gs).Fit:=⟨fun n hn=>(by cases hn),fun e=>Nat.zero_le _,fun k e=>(by cases e)⟩
 split at h
 ·split at h
  ·injection h with h
   subst h
   exact h0.addr fun e=>by cases e
  ·exact v6Go_ok _ _ _ _ x h0 h
 ·split at h
  ·cases h
  ·exact v6Go_ok _ _ _ _ x h1 h
theorem v6Go_le:∀(f:Nat) (g:Gs) (a:Nat) (s:List UInt8) (p:Nat),v6Go f g a s=.error p→p≤a+s.length
 |0,_,_,_,_,h=>by rw[v6Go]at h;injection h with h;omega
 |f+1,g,a,s,p,h=>by
  have hl:=grpL_le s
  rw[v6Go]at h
  split at h
  ·injection h with h;omega
  ·split at h
   ·cases hv:v4 s with
    |error q=>
     rw[hv]at h
     injection h with h
     have:=v4_le' s q hv
     omega
    |ok y=>rw[hv]at h;cases h
   ·split at h
    ·cases h
    ·split at h
     ·injection h with h;omega
     ·rename_i h58
      have h1:grpL s+1≤s.length:=by
       rcases Nat.lt_or_ge (grpL s) s.length with h|h
       ·exact h
       ·rw[List.drop_eq_nil_of_le h]at h58
        simp at h58
      split at h
      ·rename_i h59
       have h2:grpL s+2≤s.length:=by
        rcases Nat.lt_or_ge (grpL s+1) s.length with h|h
        ·exact h
        ·rw[List.drop_eq_nil_of_le h]at h59
         simp at h59
       split at h
       ·split at h
        ·cases h
        ·have:=v6Go_le f _ _ _ p h
         rw[List.length_drop]at this
         omega
       ·injection h with h;omega
      ·have:=v6Go_le f _ _ _ p h
       rw[List.length_drop]at this
       omega
theorem v6_le (s:List UInt8) (p:Nat) (h:v6 s=.error p):p≤s.length:=by
 unfold v6 at h
 split at h
 ·rename_i h2
  have hl:2≤s.length:=by
   have:=congrArg List.length h2
   rw[List.length_take]at this
   simp at this
   omega
  split at h
  ·cases h
  ·have:=v6Go_le _ _ _ _ p h
   rw[List.length_drop]at this
   omega
 ·split at h
  ·rename_i h1
   injection h with h
   cases s with
   |nil=>cases h1
   |cons c r=>rw[List.length_cons];omega
  ·have:=v6Go_le _ _ _ _ p h
   omega
theorem tagged_le (t:List UInt8) (k:Nat) (hk:k<t.length):(tagged t k).2≤t.length:=by
 unfold tagged
 have h1:=spB_le lbB (t.take k)
 have h2:=spB_le plB (t.drop (k+1))
 rw[List.length_take]at h1
 rw[List.length_drop]at h2
 split
 ·dsimp only;omega
 ·split
  ·dsimp only;omega
  ·exact Nat.zero_le _
theorem back_text (s:List UInt8) (wide:Bool):((parse s wide).2.1=0→(parse s wide).2=(0,0)∧s.length≤255∧check (parse s wide).1 wide=0∧(parse s wide).1.Ok∧((parse s wide).1.k≠3→print (parse s wide).1=(s,0)))∧((parse s wide).2.1≠0→(parse s wide).1=ho0∧(parse s wide).2.2≤s.length):=by
 have z16ok:∀(k:Int) (n:List UInt8),(⟨k,n,z16⟩:Ho).Ok:=fun k n=>⟨rfl,fun m hm=>by rw[(List.mem_replicate.1 hm).2];decide⟩
 by_cases h91:s.head?=some 91
 ·have hp:parse s wide=lit s:=by unfold parse;rw[if_pos h91]
  rw[hp]
  by_cases hl:255<s.length
  ·have:lit s=(ho0,(82,255)):=by unfold lit;rw[if_pos hl]
   rw[this]
   exact⟨fun h=>absurd h (by decide),fun _=>⟨rfl,Nat.le_of_lt hl⟩⟩
  ·by_cases h93:s.getLast?=some 93
   ·have hbr:=bracket_of h91 h93
    obtain⟨t,ht⟩:∃t,t=(s.drop 1).take (s.length - 2):=⟨_,rfl⟩
    rw[←ht]at hbr
    clear ht
    subst hbr
    have hlt:t.length≤253:=by simp at hl;omega
    have hle:([91]++t++[93]:List UInt8).length=t.length+2:=by simp
    rw[lit_inner t hlt,hle]
    clear hp h91 hl h93
    by_cases h6:sixB t=true
    ·have h5:5≤t.length:=by
      unfold sixB at h6
      simp at h6
      exact h6.1
     rw[if_pos h6]
     cases hv:v6 (t.drop 5) with
     |ok x=>
      obtain⟨h16,hx⟩:=v6_ok _ x hv
      refine⟨fun _=>⟨rfl,by omega,rfl,⟨h16,hx⟩,fun h=>absurd rfl h⟩,fun h=>absurd rfl h⟩
     |error p=>
      have:=v6_le _ p hv
      rw[List.length_drop]at this
      refine⟨fun h=>absurd h (show ¬(82:Nat)=0 by decide),fun _=>⟨rfl,?_⟩⟩
      show 6+p≤_
      omega
    ·rw[if_neg h6]
     cases hk:colonAt t with
     |some k=>
      obtain⟨hk1,hk2,_⟩:=colonAt_some hk
      have hta:=tagged_le t k hk1
      dsimp only
      refine⟨fun h=>?_,fun h=>?_⟩
      ·obtain⟨h0,e⟩:=told_zero h
       rw[e]
       have hct:chTag t=0:=by
        unfold chTag
        rw[if_neg (by omega),hk]
        dsimp only
        rw[if_neg h6,h0]
       have hck:∀b,check ⟨4,t,z16⟩ b=0:=fun b=>by unfold check;rw[if_neg (show ¬(4:Int)=1 by decide),if_neg (show ¬(4:Int)=2 by decide),if_neg (show ¬(4:Int)=3 by decide),if_pos rfl,if_pos rfl,hct]
       refine⟨rfl,by omega,hck wide,z16ok _ _,fun _=>?_⟩
       show print ⟨4,t,z16⟩=_
       unfold print
       rw[if_pos (hck true)]
       rfl
      ·obtain⟨e1,e2⟩:=told_err h
       rw[e1,e2]
       exact⟨rfl,by omega⟩
     |none=>
      dsimp only
      cases hv:v4 t with
      |ok x=>
       obtain⟨a,b,c,d,rfl,ha,hb,hc,hd⟩:=v4_four' t x hv
       have hbk:=v4_back t _ hv
       have hck:∀w,check (fourH [a,b,c,d]) w=0:=fun w=>by
        unfold check
        rw[if_neg (show ¬(fourH [a,b,c,d]).k=1 from(show ¬(2:Int)=1 by decide)),if_pos (show(fourH [a,b,c,d]).k=2 from rfl),if_pos (show fourH [a,b,c,d]=fourH ((fourH [a,b,c,d]).a.take 4) from rfl)]
       refine⟨fun _=>⟨rfl,by omega,hck wide,⟨rfl,fun n hn=>?_⟩,fun _=>?_⟩,fun h=>absurd rfl h⟩
       ·have hn':n∈[a,b,c,d]++List.replicate 12 0:=hn
        simp at hn'
        omega
       ·show print (fourH [a,b,c,d])=_
        unfold print
        rw[if_pos (hck true),←hbk]
        rfl
      |error p=>
       have:=v4_le' t p hv
       refine⟨fun h=>absurd h (show ¬(82:Nat)=0 by decide),fun _=>⟨rfl,?_⟩⟩
       show 1+p≤_
       omega
   ·have:lit s=(ho0,(82,s.length)):=by unfold lit;rw[if_neg hl,if_pos h93]
    rw[this]
    exact⟨fun h=>absurd h (by simp),fun _=>⟨rfl,Nat.le_refl _⟩⟩
 ·by_cases hw:(wd wide s).1=0
  ·have hp:parse s wide=(⟨1,s,z16⟩,(0,0)):=by unfold parse;rw[if_neg h91,if_pos hw]
   rw[hp]
   have hck:∀b,(wd b s).1=0→check ⟨1,s,z16⟩ b=0:=fun b h=>by unfold check;rw[if_pos rfl,if_pos rfl,h]
   refine⟨fun _=>⟨rfl,(wd_ok hw).1,hck wide hw,z16ok _ _,fun _=>?_⟩,fun h=>absurd rfl h⟩
   show print ⟨1,s,z16⟩=_
   unfold print
   rw[if_pos (hck true (by rw[wd_wide hw]))]
   rfl
  ·have hp:parse s wide=(ho0,wd wide s):=by unfold parse;rw[if_neg h91,if_neg hw]
   rw[hp]
   exact⟨fun h=>absurd h hw,fun _=>⟨rfl,wd_le wide s⟩⟩
end Go.Proofs.YtfjpkfhbmldmfabGreatDoor
