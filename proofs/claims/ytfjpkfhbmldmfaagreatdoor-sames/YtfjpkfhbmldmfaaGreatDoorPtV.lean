/-
  What V6 reads is a whole address of the sixth kind, as the document has it.
-/
import Derived.Test.YtfjpkfhbmldmfaaGreatDoorAdE
import Derived.Test.YtfjpkfhbmldmfaaGreatDoorRpP
namespace Go.Proofs.YtfjpkfhbmldmfaaGreatDoor
def Rst (g:Gs) (s:List UInt8) (x:List Nat):Prop:=
 (cut2 s=none∧∃b,dGrps true (splitB 58 s)=some b∧2*g.l.length+b.length=16∧x=twoB g.l++b)∨
 ∃h t b c,cut2 s=some (h,t)∧dGrps false (splitB 58 h)=some b∧groupsD t true=some c∧2*g.l.length+b.length+c.length≤12∧x=twoB g.l++b++List.replicate (16 - 2*g.l.length - b.length - c.length) 0++c
theorem Rst.room {g:Gs} {s:List UInt8} {x:List Nat} (h:Rst g s x):g.l.length<8:=by
 rcases h with⟨_,b,h1,h2,_⟩|⟨h,t,b,c,_,h1,_,h2,_⟩
 ·have:=dGrps_len true _ b (splitB_ne 58 s) h1
  omega
 ·have:=dGrps_len false _ b (splitB_ne 58 h) h1
  omega
theorem twoB_put (g:Gs) (n:Nat):twoB (g.put n).l=twoB g.l++[n / 256,n % 256]:=by
 unfold Gs.put
 rw[twoB_appendP]
 rfl
theorem put_len (g:Gs) (n:Nat):(g.put n).l.length=g.l.length+1:=by simp[Gs.put]
theorem Rst.cons {g:Gs} {p r:List UInt8} {x b:List Nat} (hp:∀c∈p,c≠58) (hd:dGrp p=some b) (hr:r.head?≠some 58):Rst g (p++58::r) x↔Rst (g.put (hexN 0 p)) r x:=by
 have hb:=(dGrp_some hd).2.2.2
 have hbl:b.length=2:=by rw[hb];rfl
 unfold Rst
 rw[cut2_one p r hp hr,splitB_at 58 p r hp,dGrps_cons true p _ (splitB_ne 58 r),hd,twoB_put,put_len,←hb]
 dsimp only
 constructor
 ·rintro (⟨h1,b',h2,h3,h4⟩|⟨h,t,b',c,h1,h2,h3,h4,h5⟩)
  ·left
   have hcn:cut2 r=none:=by
    cases hc:cut2 r with
    |none=>rfl
    |some y=>rw[hc]at h1;cases h1
   refine⟨hcn,?_⟩
   cases hrr:dGrps true (splitB 58 r) with
   |none=>rw[hrr]at h2;cases h2
   |some c=>
    rw[hrr]at h2
    have e:some (b++c)=some b':=h2
    injection e with e
    subst e
    rw[List.length_append]at h3
    exact⟨c,rfl,by omega,by rw[h4,List.append_assoc]⟩
  ·right
   cases hc:cut2 r with
   |none=>rw[hc]at h1;cases h1
   |some y=>
    obtain⟨h',t'⟩:=y
    rw[hc]at h1
    have e:some (p++58::h',t')=some (h,t):=h1
    injection e with e
    injection e with e1 e2
    subst e1 e2
    rw[splitB_at 58 p h' hp,dGrps_cons false p _ (splitB_ne 58 h'),hd]at h2
    dsimp only at h2
    cases hrr:dGrps false (splitB 58 h') with
    |none=>rw[hrr]at h2;cases h2
    |some c'=>
     rw[hrr]at h2
     have e:some (b++c')=some b':=h2
     injection e with e
     subst e
     rw[List.length_append]at h4 h5
     refine⟨h',t',c',c,rfl,hrr,h3,by omega,?_⟩
     rw[h5,show 16 - 2*(g.l.length+1) - c'.length - c.length=16 - 2*g.l.length - (b.length+c'.length) - c.length from by omega]
     simp
 ·rintro (⟨h1,c,h2,h3,h4⟩|⟨h,t,b',c,h1,h2,h3,h4,h5⟩)
  ·left
   refine⟨by rw[h1];rfl,b++c,by rw[h2];rfl,by rw[List.length_append];omega,by rw[h4,List.append_assoc]⟩
  ·right
   refine⟨p++58::h,t,b++b',c,by rw[h1];rfl,?_,h3,by rw[List.length_append];omega,?_⟩
   ·rw[splitB_at 58 p h hp,dGrps_cons false p _ (splitB_ne 58 h),hd]
    dsimp only
    rw[h2]
    rfl
   ·rw[h5,List.length_append,show 16 - 2*(g.l.length+1) - b'.length - c.length=16 - 2*g.l.length - (b.length+b'.length) - c.length from by omega]
    simp
theorem Rst.no {g:Gs} {p r:List UInt8} {x:List Nat} (hp:∀c∈p,c≠58) (hd:dGrp p=none):¬Rst g (p++58::r) x:=by
 rintro (⟨h1,b',h2,_⟩|⟨h,t,b',c,h1,h2,_⟩)
 ·rw[splitB_at 58 p r hp,dGrps_cons true p _ (splitB_ne 58 r),hd]at h2
  cases h2
 ·by_cases hr:r.head?=some 58
  ·match r,hr with
   |d::r',hr=>
    simp at hr
    subst hr
    rw[cut2_dd p r' hp]at h1
    injection h1 with h1
    injection h1 with e1 e2
    subst e1
    rw[splitB_none 58 p hp]at h2
    have:dGrp p=some b':=h2
    rw[hd]at this
    cases this
  ·rw[cut2_one p r hp hr]at h1
   cases hc:cut2 r with
   |none=>rw[hc]at h1;cases h1
   |some y=>
    obtain⟨h',t'⟩:=y
    rw[hc]at h1
    have e:some (p++58::h',t')=some (h,t):=h1
    injection e with e
    injection e with e1 e2
    subst e1
    rw[splitB_at 58 p h' hp,dGrps_cons false p _ (splitB_ne 58 h'),hd]at h2
    cases h2
theorem Rst.last {g:Gs} {p:List UInt8} {x:List Nat} (hp:∀c∈p,c≠58):Rst g p x↔∃b,dGrps true [p]=some b∧2*g.l.length+b.length=16∧x=twoB g.l++b:=by
 unfold Rst
 rw[cut2_none p hp,splitB_none 58 p hp]
 constructor
 ·rintro (⟨_,h⟩|⟨_,_,_,_,h,_⟩)
  ·exact h
  ·cases h
 ·intro h
  exact Or.inl ⟨rfl,h⟩
end Go.Proofs.YtfjpkfhbmldmfaaGreatDoor
