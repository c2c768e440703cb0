/-
  How far a text begins an address of the sixth kind is where V6 tells that it is wrong: the document's V6 is the program's.
-/
import Derived.Test.YtfjpkfhbmldmfaaGreatDoorAdF
namespace Go.Proofs.YtfjpkfhbmldmfaaGreatDoor
theorem hexSp_local:∀(s t:List UInt8) (m:Nat),t.take m=s.take m→hexSp s<m→hexSp t=hexSp s
 |[],t,m,h,hm=>by
  cases m with
  |zero=>omega
  |succ m=>
   rw[List.take_nil]at h
   have:t=[]:=by
    cases t with
    |nil=>rfl
    |cons c r=>simp at h
   rw[this]
 |c::s,t,m,h,hm=>by
  cases m with
  |zero=>omega
  |succ m=>
   cases t with
   |nil=>simp at h
   |cons d t=>
    rw[List.take_succ_cons,List.take_succ_cons]at h
    injection h with h1 h2
    subst h1
    rw[hexSp]at hm ⊢
    rw[hexSp]
    by_cases hx:hxB d=true
    ·rw[if_pos hx]at hm ⊢
     rw[if_pos hx,hexSp_local s t m h2 (by omega)]
    ·rw[if_neg hx,if_neg hx]
theorem hexSp_ge:∀(s t:List UInt8) (m:Nat),t.take m=s.take m→m≤hexSp s→m≤hexSp t
 |_,_,0,_,_=>Nat.zero_le _
 |[],t,m+1,h,hm=>by rw[hexSp]at hm;omega
 |c::s,t,m+1,h,hm=>by
  cases t with
  |nil=>simp at h
  |cons d t=>
   rw[List.take_succ_cons,List.take_succ_cons]at h
   injection h with h1 h2
   subst h1
   rw[hexSp]at hm ⊢
   by_cases hx:hxB d=true
   ·rw[if_pos hx]at hm ⊢
    have:=hexSp_ge s t m h2 (by omega)
    omega
   ·rw[if_neg hx]at hm;omega
theorem take_less {s t:List UInt8} {m k:Nat} (h:t.take m=s.take m) (hk:k≤m):t.take k=s.take k:=by
 have:=congrArg (List.take k) h
 rw[List.take_take,List.take_take,Nat.min_eq_left hk]at this
 exact this
theorem get_local {s t:List UInt8} {m:Nat} (h:t.take m=s.take m) (k:Nat) (hk:k<m):t[k]?=s[k]?:=by
 have:(t.take m)[k]?=(s.take m)[k]?:=by rw[h]
 rw[List.getElem?_take,List.getElem?_take,if_pos hk,if_pos hk]at this
 exact this
theorem grpL_local (s t:List UInt8) (m:Nat) (h:t.take m=s.take m) (hm:grpL s<m):grpL t=grpL s∧grpN t=grpN s:=by
 have e:grpL t=grpL s:=by
  unfold grpL at*
  by_cases h4:hexSp s<4
  ·rw[hexSp_local s t m h (by omega)]
  ·have:=hexSp_ge s t 4 (take_less h (by omega)) (by omega)
   omega
 refine⟨e,?_⟩
 unfold grpN
 rw[e,take_less h (by omega)]
theorem v6Go_ge:∀(f:Nat) (g:Gs) (a:Nat) (s:List UInt8) (p:Nat),v6Go f g a s=.error p→a≤p
 |0,_,_,_,_,h=>by rw[v6Go]at h;injection h with h;omega
 |f+1,g,a,s,p,h=>by
  rw[v6Go]at h
  split at h
  ·injection h with h;omega
  ·split at h
   ·cases hv:v4 s with
    |error q=>rw[hv]at h;injection h with h;omega
    |ok y=>rw[hv]at h;cases h
   ·split at h
    ·cases h
    ·split at h
     ·injection h with h;omega
     ·split at h
      ·split at h
       ·split at h
        ·cases h
        ·have:=v6Go_ge f _ _ _ p h;omega
       ·injection h with h;omega
      ·have:=v6Go_ge f _ _ _ p h;omega
theorem drop_nil_get {s:List UInt8} {k:Nat}:s.drop k=[]↔s[k]?=none:=by
 rw[List.drop_eq_nil_iff,List.getElem?_eq_none_iff]
theorem v6Go_local:∀(f:Nat) (g:Gs) (a:Nat) (s:List UInt8) (p:Nat),v6Go f g a s=.error p→p<a+s.length→∀t,t.take (p - a+1)=s.take (p - a+1)→v6Go f g a t=.error p
 |0,_,_,_,_,h,_,t,_=>by rw[v6Go]at h ⊢;exact h
 |f+1,g,a,s,p,h,hp,t,ht=>by
  have hge:=v6Go_ge _ _ _ _ _ h
  rw[v6Go]at h
  by_cases h0:grpL s=0∨g.room=0
  ·rw[if_pos h0]at h
   injection h with h
   rw[v6Go,if_pos,h]
   rcases h0 with h0|h0
   ·left
    rw[(grpL_local s t _ ht (by omega)).1,h0]
   ·exact Or.inr h0
  rw[if_neg h0]at h
  have hL:a+grpL s≤p:=by
   split at h
   ·cases hv:v4 s with
    |error q=>rw[hv]at h;injection h with h;omega
    |ok y=>rw[hv]at h;cases h
   ·split at h
    ·cases h
    ·split at h
     ·injection h with h;omega
     ·split at h
      ·split at h
       ·split at h
        ·cases h
        ·have:=v6Go_ge _ _ _ _ _ h;omega
       ·injection h with h;omega
      ·have:=v6Go_ge _ _ _ _ _ h;omega
  obtain⟨e1,e2⟩:=grpL_local s t _ ht (by omega)
  obtain⟨L,hLL⟩:∃L,L=grpL s:=⟨_,rfl⟩
  rw[v6Go,e1,e2,if_neg h0]
  rw[←hLL]at h hL h0 ⊢
  have g0:t[L]?=s[L]?:=get_local ht L (by omega)
  have tlen:p - a+1≤t.length:=by
   have:=congrArg List.length ht
   rw[List.length_take,List.length_take]at this
   omega
  rw[g0]
  split at h
  ·rename_i h4
   rw[if_pos h4]
   cases hv:v4 s with
   |error q=>
    rw[hv]at h
    injection h with h
    have:=v4_local s q hv (by omega) t (take_less ht (by omega))
    rw[this]
    dsimp only
    rw[h]
   |ok y=>rw[hv]at h;cases h
  ·rename_i h4
   rw[if_neg h4]
   split at h
   ·cases h
   ·rw[if_neg (fun e=>by have:=drop_nil_get.1 e.1;rw[List.getElem?_eq_none_iff]at this;omega)]
    rw[List.head?_drop]at h ⊢
    rw[g0]
    split at h
    ·rename_i h5
     rw[if_pos h5]
     exact h
    ·rename_i h5
     rw[if_neg h5]
     rw[List.head?_drop]at h ⊢
     split at h
     ·rename_i h6
      by_cases h7:(g.put (grpN s)).mayOpen=true
      ·rw[if_pos h7]at h ⊢
       split at h
       ·cases h
       ·have hge2:=v6Go_ge _ _ _ _ _ h
        rw[if_pos (by rw[get_local ht (L+1) (by omega)];exact h6),if_neg (fun e=>by have:=drop_nil_get.1 e;rw[List.getElem?_eq_none_iff]at this;omega)]
        refine v6Go_local f _ _ _ p h (by rw[List.length_drop];omega) _ ?_
        have:=take_drop_eq (L+2) ht
        rw[show p - a+1 - (L+2)=p - (a+L+2)+1 from by omega]at this
        exact this
      ·rw[if_neg h7]at h ⊢
       injection h with h
       rw[if_pos (by rw[get_local ht (L+1) (by omega)];exact h6),h]
     ·rename_i h6
      have hge2:=v6Go_ge _ _ _ _ _ h
      rw[if_neg (by rw[get_local ht (L+1) (by omega)];exact h6)]
      have hs1:L+1≤s.length:=by omega
      refine v6Go_local f _ _ _ p h (by rw[List.length_drop];omega) _ ?_
      have:=take_drop_eq (L+1) ht
      rw[show p - a+1 - (L+1)=p - (a+L+1)+1 from by omega]at this
      exact this
theorem v6_local (s:List UInt8) (p:Nat) (h:v6 s=.error p) (hp:p<s.length) (t:List UInt8) (ht:t.take (p+1)=s.take (p+1)):v6 t=.error p:=by
 have tlen:p+1≤t.length:=by
  have:=congrArg List.length ht
  rw[List.length_take,List.length_take]at this
  omega
 unfold v6 at h
 by_cases h2:s.take 2=[58,58]
 ·rw[if_pos h2]at h
  split at h
  ·cases h
  ·have hge:=v6Go_ge _ _ _ _ _ h
   unfold v6
   rw[if_pos (by rw[take_less ht (by omega)];exact h2),if_neg (by omega)]
   have sl:2≤s.length:=by omega
   refine v6Go_local _ _ _ _ p h (by rw[List.length_drop];omega) _ ?_
   have:=take_drop_eq 2 ht
   rw[show p+1 - 2=p - 2+1 from by omega]at this
   exact this
 ·rw[if_neg h2]at h
  by_cases h1:s.head?=some 58
  ·rw[if_pos h1]at h
   injection h with h
   unfold v6
   rw[if_neg (by rw[take_less ht (by omega)];exact h2),if_pos (by rw[head_local ht (by omega)];exact h1),h]
  ·rw[if_neg h1]at h
   unfold v6
   have hh:¬t.head?=some 58:=by rw[head_local ht (by omega)];exact h1
   rw[if_neg (fun e=>by
    cases t with
    |nil=>simp at e
    |cons c r=>
     rw[List.take_succ_cons]at e
     injection e with e _
     exact hh (by rw[e];rfl)),if_neg hh]
   exact v6Go_local _ _ _ _ p h (by omega) t (by simpa using ht)
def Ends (e:List UInt8):Prop:=∃nx∈([[],[48],[58],[58,58]]:List (List UInt8)),∃k,k<8∧(e=nx++rep 58 k∨e=nx++rep 46 (k % 4))
theorem gtx_zero:∀r,gtx (List.replicate (r+1) 0)=48::rep 58 r
 |0=>rfl
 |r+1=>by
  have:=gtx_zero r
  rw[List.replicate_succ,List.replicate_succ,gtx_cons,←List.replicate_succ,this]
  rfl
theorem add_l (g:Gs) (l:List Nat):(g.add l).l=g.l++l∧(g.add l).gap=g.gap:=⟨rfl,rfl⟩
theorem zeros_goes (f:Nat) (g:Gs) (a:Nat) (hf:g.Fit) (hr:0<g.room) (hl:g.room≤f):∃r,r<8∧∃x,v6Go f g a (48::rep 58 r)=.ok x:=by
 cases hg:g.gap with
 |some k=>
  have hkl:=hf.gp k hg
  refine⟨0,by omega,(g.add (List.replicate (0+1) 0)).addr,?_⟩
  rw[←gtx_zero]
  refine v6_row _ f g a (by simp) (fun n hn=>by rw[(List.mem_replicate.1 hn).2];decide) (by simp;omega) (by simp;omega) ?_
  unfold Gs.whole
  rw[(add_l g _).2,hg]
  simp
 |none=>
  have hle:=hf.le hg
  have hroom:g.room=8 - g.l.length:=by unfold Gs.room;rw[hg];rfl
  refine⟨g.room - 1,by omega,(g.add (List.replicate (g.room - 1+1) 0)).addr,?_⟩
  rw[←gtx_zero]
  refine v6_row _ f g a (by simp) (fun n hn=>by rw[(List.mem_replicate.1 hn).2];decide) (by rw[List.length_replicate];omega) (by rw[List.length_replicate];omega) ?_
  unfold Gs.whole Gs.room
  rw[(add_l g _).2,hg,(add_l g _).1]
  simp
  omega
theorem take_grp (s:List UInt8) (h:grpL s≠0):∃b,dGrp (s.take (grpL s))=some b∧hexN 0 (s.take (grpL s))=grpN s∧(s.take (grpL s)).length=grpL s∧∀c∈s.take (grpL s),c≠58:=by
 have hl:=grpL_le s
 have hlen:(s.take (grpL s)).length=grpL s:=by rw[List.length_take];omega
 have hx:=hexSp_hx s (grpL s) (by unfold grpL;omega)
 have h4:grpL s≤4:=by unfold grpL;omega
 have hg:dGrp (s.take (grpL s))=some [hexN 0 (s.take (grpL s)) / 256,hexN 0 (s.take (grpL s)) % 256]:=by
  unfold dGrp
  rw[if_pos ⟨by omega,by omega,List.all_eq_true.2 hx⟩]
 refine⟨_,hg,rfl,hlen,fun c hc e=>?_⟩
 ·have:=hx c hc
  rw[e]at this
  revert this
  decide
theorem step_end {f:Nat} {g:Gs} {a:Nat} {p:List UInt8} {b:List Nat} (hd:dGrp p=some b) (hr:g.room≠0) (hw:(g.put (hexN 0 p)).whole 0=true):v6Go (f+1) g a p=.ok (g.put (hexN 0 p)).addr:=by
 obtain⟨d1,d2,d3,d4⟩:=grp_piece hd [] (Or.inl rfl)
 rw[List.append_nil]at d1 d2 d3
 have hlen:=(dGrp_some hd).1
 rw[v6Go,d1,d2,if_neg (by omega),if_neg (by rw[d3];simp),if_pos ⟨List.drop_eq_nil_of_le (Nat.le_refl _),hw⟩]
theorem step_colon {f:Nat} {g:Gs} {a:Nat} {p r:List UInt8} {b:List Nat} (hd:dGrp p=some b) (hr:g.room≠0) (hr1:(g.put (hexN 0 p)).room≠0) (hh:r.head?≠some 58):v6Go (f+1) g a (p++58::r)=v6Go f (g.put (hexN 0 p)) (a+p.length+1) r:=by
 obtain⟨d1,d2,d3,d4⟩:=grp_piece hd (58::r) (Or.inr rfl)
 have hlen:=(dGrp_some hd).1
 have hdrop:(p++58::r).drop p.length=58::r:=List.drop_left
 have hdrop1:(p++58::r).drop (p.length+1)=r:=by rw[←List.drop_drop,hdrop];rfl
 rw[v6Go,d1,d2,if_neg (by omega),if_neg (by rw[d3];simp),hdrop,if_neg (by simp),if_neg (by simp;exact hr1),hdrop1,if_neg hh]
theorem step_open {f:Nat} {g:Gs} {a:Nat} {p t:List UInt8} {b:List Nat} (hd:dGrp p=some b) (hr:g.room≠0) (hr1:(g.put (hexN 0 p)).room≠0) (hm:(g.put (hexN 0 p)).mayOpen=true):v6Go (f+1) g a (p++58::58::t)=if t=[] then .ok (g.put (hexN 0 p)).open'.addr else v6Go f (g.put (hexN 0 p)).open' (a+p.length+2) t:=by
 obtain⟨d1,d2,d3,d4⟩:=grp_piece hd (58::58::t) (Or.inr rfl)
 have hlen:=(dGrp_some hd).1
 have hdrop:(p++58::58::t).drop p.length=58::58::t:=List.drop_left
 have hdrop1:(p++58::58::t).drop (p.length+1)=58::t:=by rw[←List.drop_drop,hdrop];rfl
 have hdrop2:(p++58::58::t).drop (p.length+2)=t:=by rw[←List.drop_drop,hdrop];rfl
 rw[v6Go,d1,d2,if_neg (by omega),if_neg (by rw[d3];simp),hdrop,if_neg (by simp),if_neg (by simp;exact hr1),hdrop1,if_pos (show(58::t).head?=some 58 from rfl),if_pos hm,hdrop2]
theorem step_four {f:Nat} {g:Gs} {a:Nat} {s:List UInt8} {x:List Nat} (hr:g.room≠0) (hw:g.whole 2=true) (hv:v4 s=.ok x):∃y,v6Go (f+1) g a s=.ok y:=by
 obtain⟨w1,w2,_,_⟩:=four_piece ((whole4_v4 s x).2 hv)
 rw[v6Go,if_neg (by omega),if_pos ⟨hw,w2⟩,hv]
 exact⟨_,rfl⟩
theorem v6Go_no58 {f:Nat} {g:Gs} {a:Nat} {s:List UInt8} {x:List Nat} (h:v6Go f g a s=.ok x):s.head?≠some 58∧s≠[]:=by
 cases f with
 |zero=>rw[v6Go]at h;cases h
 |succ f=>
  have key:grpL s=0→False:=fun e=>by
   rw[v6Go,if_pos (Or.inl e)]at h
   cases h
  refine⟨fun e=>key ?_,fun e=>key (by rw[e];rfl)⟩
  match s,e with
  |c::r,e=>
   simp at e
   subst e
   unfold grpL
   rw[hexSp,if_neg (by decide)]
   rfl
theorem ends_rep (r:Nat) (h:r<8):Ends (rep 58 r):=⟨[],by simp,r,h,Or.inl rfl⟩
theorem ends_zero (r:Nat) (h:r<8):Ends (48::rep 58 r):=⟨[48],by simp,r,h,Or.inl rfl⟩
theorem ends_nil:Ends []:=⟨[],by simp,0,by omega,Or.inl rfl⟩
theorem grp_goes (f:Nat) (g:Gs) (a:Nat) (hf:g.Fit) {p:List UInt8} {b:List Nat} (hd:dGrp p=some b) (hr:g.room≠0) (hl:g.room≤f+1):∃e,Ends e∧∃x,v6Go (f+1) g a (p++e)=.ok x:=by
 obtain⟨_,_,_,d4⟩:=grp_piece hd [] (Or.inl rfl)
 have hfit:=hf.put d4 (by omega)
 have hrp:=Gs.room_put g (hexN 0 p)
 by_cases hr1:(g.put (hexN 0 p)).room=0
 ·refine⟨[],ends_nil,(g.put (hexN 0 p)).addr,?_⟩
  rw[List.append_nil]
  refine step_end hd hr ?_
  unfold Gs.whole
  rw[hr1]
  simp
 ·obtain⟨r,h8,x,hx⟩:=zeros_goes f (g.put (hexN 0 p)) (a+p.length+1) hfit (by omega) (by omega)
  cases hg:g.gap with
  |some k=>
   refine⟨[],ends_nil,(g.put (hexN 0 p)).addr,?_⟩
   rw[List.append_nil]
   refine step_end hd hr ?_
   unfold Gs.whole
   have:(g.put (hexN 0 p)).gap=some k:=hg
   rw[this]
   simp
  |none=>
   have hle:=hf.le hg
   have hroom:g.room=8 - g.l.length:=by unfold Gs.room;rw[hg];rfl
   have hg1:(g.put (hexN 0 p)).gap=none:=hg
   have hle1:=hfit.le hg1
   refine⟨rep 58 ((g.put (hexN 0 p)).room),ends_rep _ (by omega),(((g.put (hexN 0 p)).add (List.replicate ((g.put (hexN 0 p)).room - 1+1) 0))).addr,?_⟩
   have e:rep 58 ((g.put (hexN 0 p)).room)=58::gtx (List.replicate ((g.put (hexN 0 p)).room - 1+1) 0):=by
    rw[gtx_zero,show(g.put (hexN 0 p)).room=(g.put (hexN 0 p)).room - 1+1 from by omega,rep]
    rfl
   rw[e,step_colon hd hr hr1 (by rw[gtx_zero];simp)]
   have hlr:(g.put (hexN 0 p)).room=8 - (g.put (hexN 0 p)).l.length:=by unfold Gs.room;rw[hg1];rfl
   refine v6_row _ f _ _ (by simp) (fun n hn=>by rw[(List.mem_replicate.1 hn).2];decide) (by rw[List.length_replicate];omega) (by rw[List.length_replicate];omega) ?_
   unfold Gs.whole Gs.room
   rw[(add_l _ _).2,hg1,(add_l _ _).1]
   simp
   omega
theorem v6Go_goes:∀(f:Nat) (g:Gs) (a:Nat) (s:List UInt8) (p:Nat),g.Fit→g.room≤f→v6Go f g a s=.error p→(g.room=0∧p=a)∨∃e,Ends e∧∃x,v6Go f g a (s.take (p - a)++e)=.ok x
 |0,g,a,s,p,hf,hl,h=>by
  rw[v6Go]at h
  injection h with h
  exact Or.inl ⟨by omega,h.symm⟩
 |f+1,g,a,s,p,hf,hl,h=>by
  have hge:=v6Go_ge _ _ _ _ _ h
  rw[v6Go]at h
  by_cases hr:g.room=0
  ·rw[if_pos (Or.inr hr)]at h
   injection h with h
   exact Or.inl ⟨hr,h.symm⟩
  right
  by_cases h0:grpL s=0
  ·rw[if_pos (Or.inl h0)]at h
   injection h with h
   obtain⟨r,h8,x,hx⟩:=zeros_goes (f+1) g a hf (by omega) hl
   refine⟨48::rep 58 r,ends_zero r h8,x,?_⟩
   rw[←h,Nat.sub_self,List.take_zero,List.nil_append]
   exact hx
  rw[if_neg (by omega)]at h
  obtain⟨b,hd,hn,hlen,h58⟩:=take_grp s h0
  have hfit:(g.put (grpN s)).Fit:=hf.put (grpN_lt' s) (by omega)
  have hrp:=Gs.room_put g (grpN s)
  split at h
  ·rename_i h4
   cases hv:v4 s with
   |ok y=>rw[hv]at h;cases h
   |error q=>
    rw[hv]at h
    injection h with h
    by_cases hq:q≤grpL s
    ·obtain⟨e,he,x,hx⟩:=grp_goes f g a hf hd hr hl
     refine⟨e,he,x,?_⟩
     rw[show p - a=grpL s from by omega]
     exact hx
    ·obtain⟨_,nx,hnx,k,hk,x,hx⟩:=v4_goes s q hv
     obtain⟨y,hy⟩:=step_four (f:=f) (g:=g) (a:=a) hr h4.1 hx
     refine⟨nx++rep 46 k,⟨nx,?_,k,by omega,Or.inr (by rw[Nat.mod_eq_of_lt hk])⟩,y,?_⟩
     ·simp at hnx ⊢
      rcases hnx with hnx|hnx
      ·exact Or.inl hnx
      ·exact Or.inr (Or.inl hnx)
     ·rw[show p - a=q from by omega,←List.append_assoc]
      exact hy
  ·split at h
   ·cases h
   ·split at h
    ·injection h with h
     obtain⟨e,he,x,hx⟩:=grp_goes f g a hf hd hr hl
     refine⟨e,he,x,?_⟩
     rw[show p - a=grpL s from by omega]
     exact hx
    ·rename_i h5
     have hc:(s.drop (grpL s)).head?=some 58:=by
      cases hh:decide ((s.drop (grpL s)).head?=some 58) with
      |true=>exact of_decide_eq_true hh
      |false=>exact absurd (Or.inl (of_decide_eq_false hh)) h5
     have hr1:(g.put (grpN s)).room≠0:=fun e=>h5 (Or.inr e)
     have hsp:s=s.take (grpL s)++58::s.drop (grpL s+1):=by
      conv=>lhs;rw[←List.take_append_drop (grpL s) s]
      congr 1
      rw[←List.drop_drop]
      cases hx:s.drop (grpL s) with
      |nil=>rw[hx]at hc;cases hc
      |cons c r=>
       rw[hx]at hc
       simp at hc
       rw[hc]
       rfl
     have htk:∀q,grpL s+1≤q→s.take q=s.take (grpL s)++58::(s.drop (grpL s+1)).take (q - (grpL s+1)):=fun q hq=>by
      conv=>lhs;rw[hsp]
      rw[List.take_append,List.take_of_length_le (by omega),hlen,show q - grpL s=q - (grpL s+1)+1 from by omega,List.take_succ_cons]
     split at h
     ·rename_i h6
      have hsp2:s.drop (grpL s+1)=58::s.drop (grpL s+2):=by
       rw[show s.drop (grpL s+2)=(s.drop (grpL s+1)).drop 1 from by rw[List.drop_drop]]
       cases hx:s.drop (grpL s+1) with
       |nil=>rw[hx]at h6;cases h6
       |cons c r=>
        rw[hx]at h6
        simp at h6
        rw[h6]
        rfl
      split at h
      ·rename_i h7
       rw[←hn]at h7 h hr1 hfit
       split at h
       ·cases h
       ·have hge2:=v6Go_ge _ _ _ _ _ h
        have ho:=hfit.open' h7
        have hrl:((g.put (hexN 0 (s.take (grpL s)))).open').room≤f:=by
         rw[←hn]at hrp
         have hmo:=h7
         unfold Gs.mayOpen at hmo
         simp at hmo
         have hgn:g.gap=none:=hmo.1
         have hroom:g.room=8 - g.l.length:=by unfold Gs.room;rw[hgn];rfl
         have hle:=hf.le hgn
         unfold Gs.room
         show(if (some (g.put (hexN 0 (s.take (grpL s)))).l.length).isSome=true then 6 - (g.put (hexN 0 (s.take (grpL s)))).l.length else _)≤f
         rw[put_len]
         simp
         omega
        have htk2:∀q,grpL s+2≤q→s.take q=s.take (grpL s)++58::58::(s.drop (grpL s+2)).take (q - (grpL s+2)):=fun q hq=>by
         rw[htk q (by omega),hsp2,show q - (grpL s+1)=q - (grpL s+2)+1 from by omega,List.take_succ_cons]
        rcases v6Go_goes f _ _ _ p ho hrl h with⟨_,hpa⟩|⟨e,he,x,hx⟩
        ·refine⟨[],ends_nil,(g.put (hexN 0 (s.take (grpL s)))).open'.addr,?_⟩
         rw[List.append_nil,htk2 (p - a) (by omega),show p - a - (grpL s+2)=0 from by omega,List.take_zero,step_open hd hr hr1 h7,if_pos rfl]
        ·refine⟨e,he,x,?_⟩
         rw[htk2 (p - a) (by omega),List.append_assoc,List.cons_append,List.cons_append,step_open hd hr hr1 h7,hlen,show p - a - (grpL s+2)=p - (a+grpL s+2) from by omega,if_neg (v6Go_no58 hx).2]
         exact hx
      ·injection h with h
       rw[←hn]at hr1 hfit hrp
       obtain⟨r,h8,x,hx⟩:=zeros_goes f (g.put (hexN 0 (s.take (grpL s)))) (a+(s.take (grpL s)).length+1) hfit (by omega) (by omega)
       refine⟨48::rep 58 r,ends_zero r h8,x,?_⟩
       rw[htk (p - a) (by omega),show p - a - (grpL s+1)=0 from by omega,List.take_zero,List.append_assoc,List.singleton_append,step_colon hd hr hr1 (by simp)]
       exact hx
     ·rename_i h6
      have hge2:=v6Go_ge _ _ _ _ _ h
      rcases v6Go_goes f _ _ _ p hfit (by omega) h with⟨hz,_⟩|⟨e,he,x,hx⟩
      ·exact absurd hz hr1
      ·refine⟨e,he,x,?_⟩
       rw[←hn]at hx hr1
       rw[htk (p - a) (by omega),List.append_assoc,List.cons_append,show p - a - (grpL s+1)=p - (a+grpL s+1) from by omega,step_colon hd hr hr1 (v6Go_no58 hx).1,hlen]
       exact hx
theorem v6_goes (s:List UInt8) (p:Nat) (h:v6 s=.error p):∃e,Ends e∧∃x,v6 (s.take p++e)=.ok x:=by
 unfold v6 at h
 by_cases h2:s.take 2=[58,58]
 ·rw[if_pos h2]at h
  split at h
  ·cases h
  ·have hge:=v6Go_ge _ _ _ _ _ h
   rcases v6Go_goes 9 _ _ _ p fit0 (by decide) h with⟨hz,_⟩|⟨e,he,x,hx⟩
   ·exact absurd hz (by decide)
   ·refine⟨e,he,x,?_⟩
    have e1:s.take p=[58,58]++(s.drop 2).take (p - 2):=by
     rw[←h2]
     have:=List.take_add (l:=s) (i:=2) (j:=p - 2)
     rw[show 2+(p - 2)=p from by omega]at this
     exact this
    have hne:=(v6Go_no58 hx).2
    unfold v6
    rw[e1,List.append_assoc,if_pos (by simp),if_neg (fun hl=>hne (by
     have:((s.drop 2).take (p - 2)++e).length=0:=by
      rw[List.length_append]at hl
      simp only[List.length_cons,List.length_nil]at hl
      omega
     exact List.eq_nil_of_length_eq_zero this))]
    exact hx
 ·rw[if_neg h2]at h
  by_cases h1:s.head?=some 58
  ·rw[if_pos h1]at h
   injection h with h
   refine⟨[58],⟨[58],by simp,0,by omega,Or.inl rfl⟩,Gs.addr ⟨[],some 0⟩,?_⟩
   match s,h1 with
   |c::r,h1=>
    simp at h1
    subst h1
    rw[←h]
    rfl
  ·rw[if_neg h1]at h
   rcases v6Go_goes 9 _ _ _ p fit1 (by decide) h with⟨hz,_⟩|⟨e,he,x,hx⟩
   ·exact absurd hz (by decide)
   ·refine⟨e,he,x,?_⟩
    rw[Nat.sub_zero]at hx
    have hh:=(v6Go_no58 hx).1
    unfold v6
    rw[if_neg (fun e=>by
     generalize s.take p++_=t at hh e
     cases t with
     |nil=>simp at e
     |cons c r=>
      rw[List.take_succ_cons]at e
      injection e with e _
      exact hh (by rw[e];rfl)),if_neg hh]
    exact hx
theorem v6Go_bd:∀(f:Nat) (g:Gs) (a:Nat) (s:List UInt8) (p:Nat),g.Fit→(g.gap=none→a≤5*g.l.length)→(g.gap≠none→a≤5*g.l.length+2)→v6Go f g a s=.error p→p≤46
 |0,g,a,s,p,hf,h1,h2,h=>by
  rw[v6Go]at h
  injection h with h
  cases hg:g.gap with
  |none=>have:=hf.le hg;have:=h1 hg;omega
  |some k=>have:=(hf.gp k hg).2;have:=h2 (by rw[hg];simp);omega
 |f+1,g,a,s,p,hf,h1,h2,h=>by
  have h4:grpL s≤4:=by unfold grpL;omega
  have hb:(g.gap=none∧g.room=8 - g.l.length∧g.l.length≤8∧a≤5*g.l.length)∨(g.gap≠none∧g.room=6 - g.l.length∧g.l.length≤6∧a≤5*g.l.length+2):=by
   cases hg:g.gap with
   |none=>exact Or.inl ⟨rfl,by unfold Gs.room;rw[hg];rfl,hf.le hg,h1 hg⟩
   |some k=>exact Or.inr ⟨by simp,by unfold Gs.room;rw[hg];rfl,(hf.gp k hg).2,h2 (by rw[hg];simp)⟩
  rw[v6Go]at h
  split at h
  ·injection h with h;omega
  ·rename_i h0
   have hfit:(g.put (grpN s)).Fit:=hf.put (grpN_lt' s) (by omega)
   split at h
   ·rename_i hw
    cases hv:v4 s with
    |ok y=>rw[hv]at h;cases h
    |error q=>
     rw[hv]at h
     injection h with h
     have hq:=(v4_goes s q hv).1
     have hw2:=hw.1
     unfold Gs.whole at hw2
     rcases hb with⟨b1,b2,b3,b4⟩|⟨b1,b2,b3,b4⟩
     ·rw[b1,b2]at hw2
      simp at hw2
      omega
     ·rw[b2]at hw2
      simp at hw2
      omega
   ·split at h
    ·cases h
    ·split at h
     ·injection h with h;omega
     ·split at h
      ·split at h
       ·rename_i ho
        split at h
        ·cases h
        ·refine v6Go_bd f _ _ _ p (hfit.open' ho) (fun e=>by cases e) (fun _=>?_) h
         show _≤5*(g.put (grpN s)).l.length+2
         rw[put_len]
         unfold Gs.mayOpen at ho
         simp at ho
         have hgn:g.gap=none:=ho.1
         have:=h1 hgn
         omega
       ·injection h with h;omega
      ·refine v6Go_bd f _ _ _ p hfit (fun e=>?_) (fun e=>?_) h
       ·rw[put_len]
        have:=h1 e
        omega
       ·rw[put_len]
        have:=h2 e
        omega
theorem v6_bd (s:List UInt8) (p:Nat) (h:v6 s=.error p):p≤46:=by
 unfold v6 at h
 split at h
 ·split at h
  ·cases h
  ·exact v6Go_bd _ _ _ _ p fit0 (fun e=>by cases e) (fun _=>by simp) h
 ·split at h
  ·injection h with h;omega
  ·exact v6Go_bd _ _ _ _ p fit1 (fun _=>by simp) (fun e=>absurd rfl e) h
def begins6 (s:List UInt8):Bool:=[[],[48],[58],[58,58]].any fun nx=>(List.range 8).any fun k=>(whole6 (s++nx++rep 58 k)).isSome||(whole6 (s++nx++rep 46 (k % 4))).isSome
theorem begins6_iff (s:List UInt8):begins6 s=true↔∃e,Ends e∧∃x,v6 (s++e)=.ok x:=by
 unfold begins6 Ends
 rw[List.any_eq_true]
 constructor
 ·rintro ⟨nx,h1,h2⟩
  rw[List.any_eq_true]at h2
  obtain⟨k,hk,h3⟩:=h2
  rw[Bool.or_eq_true,Option.isSome_iff_exists,Option.isSome_iff_exists]at h3
  rcases h3 with⟨x,h3⟩|⟨x,h3⟩
  ·exact⟨nx++rep 58 k,⟨nx,h1,k,List.mem_range.1 hk,Or.inl rfl⟩,x,by rw[←List.append_assoc];exact(whole6_v6 _ _).1 h3⟩
  ·exact⟨nx++rep 46 (k % 4),⟨nx,h1,k,List.mem_range.1 hk,Or.inr rfl⟩,x,by rw[←List.append_assoc];exact(whole6_v6 _ _).1 h3⟩
 ·rintro ⟨e,⟨nx,h1,k,hk,he⟩,x,h3⟩
  refine⟨nx,h1,List.any_eq_true.2 ⟨k,List.mem_range.2 hk,?_⟩⟩
  rcases he with rfl|rfl
  ·rw[←List.append_assoc]at h3
   rw[(whole6_v6 _ _).2 h3]
   rfl
  ·rw[←List.append_assoc]at h3
   rw[(whole6_v6 _ _).2 h3,Bool.or_eq_true]
   exact Or.inr rfl
def dV6 (s:List UInt8):Except Nat (List Nat):=match whole6 s with
 |some x=>.ok x
 |none=>.error (longest begins6 s)
theorem long6 (s:List UInt8) (p:Nat) (h:v6 s=.error p):longest begins6 s=p:=by
 have hle:=v6_le s p h
 have h46:=v6_bd s p h
 refine longGo_is begins6 s p _ (by omega) (Or.inr ((begins6_iff _).2 (v6_goes s p h))) fun m h1 h2=>?_
 cases hb:begins6 (s.take m) with
 |false=>rfl
 |true=>
  obtain⟨e,_,x,hx⟩:=(begins6_iff _).1 hb
  have:=v6_local s p h (by omega) (s.take m++e) (by
   rw[List.take_append_of_le_length (by rw[List.length_take];omega),List.take_take,Nat.min_eq_left (by omega)])
  rw[hx]at this
  cases this
theorem dV6_is (s:List UInt8):dV6 s=v6 s:=by
 unfold dV6
 cases h:v6 s with
 |ok x=>rw[(whole6_v6 s x).2 h]
 |error p=>
  have:whole6 s=none:=by
   cases hw:whole6 s with
   |none=>rfl
   |some x=>rw[(whole6_v6 s x).1 hw]at h;cases h
  rw[this,long6 s p h]
end Go.Proofs.YtfjpkfhbmldmfaaGreatDoor
