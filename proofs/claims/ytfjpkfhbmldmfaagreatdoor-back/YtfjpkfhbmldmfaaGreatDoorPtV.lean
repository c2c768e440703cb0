/-
  What V6 reads is a whole address of the sixth kind, as the document has it.
-/
import Derived.Test.YtfjpkfhbmldmfaaGreatDoorAdE
import Derived.Test.YtfjpkfhbmldmfaaGreatDoorRpP
namespace Go.Proofs.YtfjpkfhbmldmfaaGreatDoor
def Rst (g:Gs) (s:List UInt8) (x:List Nat):Prop:=
 (cut2 s=none∧∃b,dGrps true (splitB 58 s)=some b∧2*g.l.length+b.length=16∧x=twoB g.l++b)∨
 ∃h t b c,cut2 s=some (h,t)∧dGrps false (splitB 58 h)=some b∧groupsD t true=some c∧2*g.l.length+b.length+c.length≤12∧x=twoB g.l++b++List.replicate (16 - 2*g.l.length - b.length - c.length) 0++c
theorem Rst.room {g:Gs} {s:List UInt8} {x:List Nat} (h:Rst g s x):g.l.length<8:=by
 rcases h with⟨_,b,h1,h2,_⟩|⟨h,t,b,c,_,h1,_,h2,_⟩
 ·have:=dGrps_len true _ b (splitB_ne 58 s) h1
  omega
 ·have:=dGrps_len false _ b (splitB_ne 58 h) h1
  omega
theorem twoB_put (g:Gs) (n:Nat):twoB (g.put n).l=twoB g.l++[n / 256,n % 256]:=by
 unfold Gs.put
 rw[twoB_appendP]
 rfl
theorem put_len (g:Gs) (n:Nat):(g.put n).l.length=g.l.length+1:=by simp[Gs.put]
theorem Rst.cons {g:Gs} {p r:List UInt8} {x b:List Nat} (hp:∀c∈p,c≠58) (hd:dGrp p=some b) (hr:r.head?≠some 58):Rst g (p++58::r) x↔Rst (g.put (hexN 0 p)) r x:=by
 have hb:=(dGrp_some hd).2.2.2
 have hbl:b.length=2:=by rw[hb];rfl
 unfold Rst
 rw[cut2_one p r hp hr,splitB_at 58 p r hp,dGrps_cons true p _ (splitB_ne 58 r),hd,twoB_put,put_len,←hb]
 dsimp only
 constructor
 ·rintro (⟨h1,b',h2,h3,h4⟩|⟨h,t,b',c,h1,h2,h3,h4,h5⟩)
  ·left
   have hcn:cut2 r=none:=by
    cases hc:cut2 r with
    |none=>rfl
    |some y=>rw[hc]at h1;cases h1
   refine⟨hcn,?_⟩
   cases hrr:dGrps true (splitB 58 r) with
   |none=>rw[hrr]at h2;cases h2
   |some c=>
    rw[hrr]at h2
    have e:some (b++c)=some b':=h2
    injection e with e
    subst e
    rw[List.length_append]at h3
    exact⟨c,rfl,by omega,by rw[h4,List.append_assoc]⟩
  ·right
   cases hc:cut2 r with
   |none=>rw[hc]at h1;cases h1
   |some y=>
    obtain⟨h',t'⟩:=y
    rw[hc]at h1
    have e:some (p++58::h',t')=some (h,t):=h1
    injection e with e
    injection e with e1 e2
    subst e1 e2
    rw[splitB_at 58 p h' hp,dGrps_cons false p _ (splitB_ne 58 h'),hd]at h2
    dsimp only at h2
    cases hrr:dGrps false (splitB 58 h') with
    |none=>rw[hrr]at h2;cases h2
    |some c'=>
     rw[hrr]at h2
     have e:some (b++c')=some b':=h2
     injection e with e
     subst e
     rw[List.length_append]at h4 h5
     refine⟨h',t',c',c,rfl,hrr,h3,by omega,?_⟩
     rw[h5,show 16 - 2*(g.l.length+1) - c'.length - c.length=16 - 2*g.l.length - (b.length+c'.length) - c.length from by omega]
     simp
 ·rintro (⟨h1,c,h2,h3,h4⟩|⟨h,t,b',c,h1,h2,h3,h4,h5⟩)
  ·left
   refine⟨by rw[h1];rfl,b++c,by rw[h2];rfl,by rw[List.length_append];omega,by rw[h4,List.append_assoc]⟩
  ·right
   refine⟨p++58::h,t,b++b',c,by rw[h1];rfl,?_,h3,by rw[List.length_append];omega,?_⟩
   ·rw[splitB_at 58 p h hp,dGrps_cons false p _ (splitB_ne 58 h),hd]
    dsimp only
    rw[h2]
    rfl
   ·rw[h5,List.length_append,show 16 - 2*(g.l.length+1) - b'.length - c.length=16 - 2*g.l.length - (b.length+b'.length) - c.length from by omega]
    simp
theorem Rst.no {g:Gs} {p r:List UInt8} {x:List Nat} (hp:∀c∈p,c≠58) (hd:dGrp p=none):¬Rst g (p++58::r) x:=by
 rintro (⟨h1,b',h2,_⟩|⟨h,t,b',c,h1,h2,_⟩)
 ·rw[splitB_at 58 p r hp,dGrps_cons true p _ (splitB_ne 58 r),hd]at h2
  cases h2
 ·by_cases hr:r.head?=some 58
  ·match r,hr with
   |d::r',hr=>
    simp at hr
    subst hr
    rw[cut2_dd p r' hp]at h1
    injection h1 with h1
    injection h1 with e1 e2
    subst e1
    rw[splitB_none 58 p hp]at h2
    have:dGrp p=some b':=h2
    rw[hd]at this
    cases this
  ·rw[cut2_one p r hp hr]at h1
   cases hc:cut2 r with
   |none=>rw[hc]at h1;cases h1
   |some y=>
    obtain⟨h',t'⟩:=y
    rw[hc]at h1
    have e:some (p++58::h',t')=some (h,t):=h1
    injection e with e
    injection e with e1 e2
    subst e1
    rw[splitB_at 58 p h' hp,dGrps_cons false p _ (splitB_ne 58 h'),hd]at h2
    cases h2
theorem Rst.last {g:Gs} {p:List UInt8} {x:List Nat} (hp:∀c∈p,c≠58):Rst g p x↔∃b,dGrps true [p]=some b∧2*g.l.length+b.length=16∧x=twoB g.l++b:=by
 unfold Rst
 rw[cut2_none p hp,splitB_none 58 p hp]
 constructor
 ·rintro (⟨_,h⟩|⟨_,_,_,_,h,_⟩)
  ·exact h
  ·cases h
 ·intro h
  exact Or.inl ⟨rfl,h⟩
def wtG:List Nat→Nat
 |[]=>0
 |n::r=>(hexD n).length+1+wtG r
def wtP:List (List UInt8)→Nat
 |[]=>0
 |p::r=>p.length+1+wtP r
theorem wtP_append:∀x y:List (List UInt8),wtP (x++y)=wtP x+wtP y
 |[],y=>by rw[List.nil_append,wtP,Nat.zero_add]
 |p::x,y=>by rw[List.cons_append,wtP,wtP,wtP_append x y];omega
theorem wtP_map:∀G:List Nat,wtP (G.map hexD)=wtG G
 |[]=>rfl
 |n::r=>by rw[List.map_cons,wtP,wtG,wtP_map r]
theorem wt_join (d:UInt8):∀L:List (List UInt8),(joinL [d] L).length+(if L=[] then 0 else 1)=wtP L
 |[]=>rfl
 |[x]=>by rw[joinL,wtP,wtP,if_neg (by simp)]
 |x::y::r=>by
  have ih:=wt_join d (y::r)
  rw[if_neg (by simp)]at ih
  rw[joinL,wtP,if_neg (by simp),←ih,List.length_append,List.length_append,List.length_singleton]
  omega
theorem zr_max8:∀a b c d e f g h:Bool,∀i j:Fin 9,(((([a,b,c,d,e,f,g,h]:List Bool).drop i.val).take (j.val - i.val)).all id=true)→j.val≤8→j.val - i.val≤(zrB 0 0 0 0 [a,b,c,d,e,f,g,h]).2 - (zrB 0 0 0 0 [a,b,c,d,e,f,g,h]).1:=by decide+kernel
theorem zr_max (P:List Bool) (hP:P.length=8) (i z:Nat) (hz:i+z≤8) (ha:((P.drop i).take z).all id=true):z≤(zrB 0 0 0 0 P).2 - (zrB 0 0 0 0 P).1:=by
 match P,hP with
 |[a,b,c,d,e,f,g,h],_=>
  have:=zr_max8 a b c d e f g h ⟨i,by omega⟩ ⟨i+z,by omega⟩
  dsimp only at this
  rw[Nat.add_sub_cancel_left]at this
  exact this ha (by omega)
theorem wtP_mid (L:List (List UInt8)) (f t:Nat) (hft:f≤t) (ht:t≤L.length) (hz:∀k,f≤k→k<t→L[k]?=some [48]):wtP L=wtP (L.take f)+2*(t - f)+wtP (L.drop t):=by
 have key:∀(n:Nat) (M:List (List UInt8)),n≤M.length→(∀k,k<n→M[k]?=some [48])→wtP M=2*n+wtP (M.drop n):=by
  intro n
  induction n with
  |zero=>intro M _ _;rw[List.drop_zero];omega
  |succ n ih=>
   intro M hM hk
   cases M with
   |nil=>simp at hM
   |cons x M=>
    have h0:=hk 0 (by omega)
    rw[List.getElem?_cons_zero]at h0
    injection h0 with h0
    have:=ih M (by rw[List.length_cons]at hM;omega) (fun k hk'=>by have:=hk (k+1) (by omega);rw[List.getElem?_cons_succ]at this;exact this)
    rw[wtP,h0,List.drop_succ_cons,this,List.length_singleton]
    omega
 have h1:=key (t - f) (L.drop f) (by rw[List.length_drop];omega) (fun k hk=>by rw[List.getElem?_drop];exact hz (f+k) (by omega) (by omega))
 rw[List.drop_drop,show f+(t - f)=t from by omega]at h1
 have h2:=wtP_append (L.take f) (L.drop f)
 rw[List.take_append_drop]at h2
 omega
theorem print6_wt (a:List Nat) (ha:a.length=16) (la:∀x∈a,x<256) (i z:Nat) (hz:i+z≤8) (hr:((grpsOf a).drop i).take z=List.replicate z 0):
  (print6 a).length+1≤wtG (grpsOf a)∧(2≤z→∃f t,z≤t - f∧t≤8∧f≤t∧(print6 a).length+(if f=0 then 0 else 1)+(if t=8 then 0 else 1)+2*(t - f)=wtG (grpsOf a)+2):=by
 have hl:(grpsOf a).length=8:=by rw[grpsOf_len,ha]
 have hlt:=grpsOf_lt a la
 generalize hG:grpsOf a=G at hl hlt hr
 obtain⟨L,hL⟩:∃L,L=G.map hexD:=⟨_,rfl⟩
 have hLl:L.length=8:=by rw[hL,List.length_map,hl]
 have hw:wtP L=wtG G:=by rw[hL,wtP_map]
 obtain⟨z1,z2,z3⟩:=zeros_ok L
 have hmax:z≤(zeros L).2 - (zeros L).1:=by
  unfold zeros
  rw[zr_zrB]
  refine zr_max _ (by rw[List.length_map,hLl]) i z hz ?_
  rw[←List.map_drop,←List.map_take,hL,←List.map_drop,←List.map_take,hr,List.map_replicate,List.map_replicate,List.all_eq_true]
  intro x hx
  rw[(List.mem_replicate.1 hx).2]
  decide+kernel
 have hp:print6 a=if (zeros L).2 - (zeros L).1<2 then joinL [58] L else joinL [58] (L.take (zeros L).1)++[58,58]++joinL [58] (L.drop (zeros L).2):=by
  unfold print6
  rw[hG,←hL]
 have hm:=wtP_mid L _ _ z1 z2 z3
 have j1:=wt_join 58 L
 have j2:=wt_join 58 (L.take (zeros L).1)
 have j3:=wt_join 58 (L.drop (zeros L).2)
 rw[if_neg (by intro e;rw[e]at hLl;simp at hLl)]at j1
 generalize (zeros L).1=f at z1 z3 hmax hp hm j2
 generalize (zeros L).2=t at z1 z2 z3 hmax hp hm j3
 have c2:(L.take f=[])↔f=0:=by
  constructor
  ·intro e
   have:=congrArg List.length e
   rw[List.length_take,List.length_nil]at this
   omega
  ·rintro rfl;rfl
 have c3:(L.drop t=[])↔t=8:=by
  rw[List.drop_eq_nil_iff,hLl]
  omega
 simp only[c2]at j2
 simp only[c3]at j3
 rw[hp]
 by_cases hft:t - f<2
 ·rw[if_pos hft]
  exact⟨by omega,fun h=>by omega⟩
 ·rw[if_neg hft,List.length_append,List.length_append,show([58,58]:List UInt8).length=2 from rfl]
  refine⟨?_,fun _=>⟨f,t,hmax,by omega,z1,?_⟩⟩
  ·split at j2<;>split at j3<;>omega
  ·generalize (if f=0 then 0 else 1)=A at j2 ⊢
   generalize (if t=8 then 0 else 1)=B at j3 ⊢
   omega
end Go.Proofs.YtfjpkfhbmldmfaaGreatDoor
