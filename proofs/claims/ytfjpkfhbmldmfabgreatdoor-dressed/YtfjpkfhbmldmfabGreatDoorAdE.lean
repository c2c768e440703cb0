/-
  The document's addresses of the sixth kind, in plain mathematics: what is a whole one is what V6 reads.
-/
import Derived.Test.YtfjpkfhbmldmfabGreatDoorAdD
namespace Go.Proofs.YtfjpkfhbmldmfabGreatDoor
def dGrp (p:List UInt8):Option (List Nat):=if 1≤p.length∧p.length≤4∧p.all hxB=true then some [hexN 0 p / 256,hexN 0 p % 256] else none
def dGrps (last:Bool):List (List UInt8)→Option (List Nat)
 |[]=>some []
 |[p]=>if last=true then (match whole4 p with|some v=>some v|none=>dGrp p) else dGrp p
 |p::q::r=>match dGrp p with
  |none=>none
  |some b=>(dGrps last (q::r)).map (b++·)
def groupsD (s:List UInt8) (last:Bool):Option (List Nat):=if s=[] then some [] else dGrps last (splitB 58 s)
def cut2:List UInt8→Option (List UInt8×List UInt8)
 |[]=>none
 |[_]=>none
 |c::d::r=>if c=58∧d=58 then some ([],r) else (cut2 (d::r)).map fun x=>(c::x.1,x.2)
theorem dGrp_some {p:List UInt8} {b:List Nat} (h:dGrp p=some b):1≤p.length∧p.length≤4∧(∀c∈p,hxB c=true)∧b=[hexN 0 p / 256,hexN 0 p % 256]:=by
 unfold dGrp at h
 split at h
 ·rename_i hc
  injection h with h
  exact⟨hc.1,hc.2.1,List.all_eq_true.1 hc.2.2,h.symm⟩
 ·cases h
theorem dGrps_cons (last:Bool) (p:List UInt8) (L:List (List UInt8)) (hL:L≠[]):dGrps last (p::L)=match dGrp p with
  |none=>none
  |some b=>(dGrps last L).map (b++·):=by
 cases L with
 |nil=>exact absurd rfl hL
 |cons q r=>rw[dGrps]
theorem whole4_len {p:List UInt8} {v:List Nat} (h:whole4 p=some v):v.length=4:=by
 obtain⟨a,b,c,d,rfl,_⟩:=whole4_is h
 rfl
theorem dGrps_len (last:Bool):∀(L:List (List UInt8)) (b:List Nat),L≠[]→dGrps last L=some b→2≤b.length
 |[],_,h,_=>absurd rfl h
 |[p],b,_,h=>by
  rw[dGrps]at h
  have key:dGrp p=some b→2≤b.length:=fun h=>by
   rw[(dGrp_some h).2.2.2]
   simp
  split at h
  ·split at h
   ·rename_i v hv
    injection h with h
    subst h
    rw[whole4_len hv]
    decide
   ·exact key h
  ·exact key h
 |p::q::r,b,_,h=>by
  rw[dGrps]at h
  cases hp:dGrp p with
  |none=>rw[hp]at h;cases h
  |some b1=>
   rw[hp]at h
   cases hr:dGrps last (q::r) with
   |none=>rw[hr]at h;cases h
   |some b2=>
    rw[hr]at h
    have e:b=b1++b2:=by
     have:some (b1++b2)=some b:=h
     injection this with this
     exact this.symm
    have:=(dGrp_some hp).2.2.2
    rw[e,this]
    simp
theorem cut2_none:∀p:List UInt8,(∀c∈p,c≠58)→cut2 p=none
 |[],_=>rfl
 |[_],_=>rfl
 |c::d::r,h=>by
  rw[cut2,if_neg (fun e=>h c (by simp) e.1),cut2_none (d::r) fun x hx=>h x (by simp[hx])]
  rfl
theorem cut2_dd:∀(p r:List UInt8),(∀c∈p,c≠58)→cut2 (p++58::58::r)=some (p,r)
 |[],r,_=>by rw[List.nil_append,cut2,if_pos ⟨rfl,rfl⟩]
 |[c],r,h=>by
  have hc:=h c (by simp)
  show cut2 (c::58::58::r)=_
  rw[cut2,if_neg (fun e=>hc e.1),cut2,if_pos ⟨rfl,rfl⟩]
  rfl
 |c::d::p,r,h=>by
  have hc:=h c (by simp)
  have ih:=cut2_dd (d::p) r fun x hx=>h x (by simp[hx])
  show cut2 (c::d::(p++58::58::r))=_
  rw[cut2,if_neg (fun e=>hc e.1)]
  have e:d::(p++58::58::r)=d::p++58::58::r:=rfl
  rw[e,ih]
  rfl
theorem cut2_one:∀(p r:List UInt8),(∀c∈p,c≠58)→r.head?≠some 58→cut2 (p++58::r)=(cut2 r).map fun x=>(p++58::x.1,x.2)
 |[],[],_,_=>rfl
 |[],c::r,_,h=>by
  rw[List.nil_append,cut2,if_neg (fun e=>h (by rw[e.2];rfl))]
  rfl
 |[c],r,h,hr=>by
  have hc:=h c (by simp)
  have ih:=cut2_one [] r (fun x hx=>by cases hx) hr
  show cut2 (c::58::r)=_
  rw[cut2,if_neg (fun e=>hc e.1)]
  rw[List.nil_append]at ih
  rw[ih]
  cases cut2 r<;>rfl
 |c::d::p,r,h,hr=>by
  have hc:=h c (by simp)
  have ih:=cut2_one (d::p) r (fun x hx=>h x (by simp[hx])) hr
  show cut2 (c::d::(p++58::r))=_
  rw[cut2,if_neg (fun e=>hc e.1)]
  have e:d::(p++58::r)=d::p++58::r:=rfl
  rw[e,ih]
  cases cut2 r<;>rfl
theorem twoB_appendP:∀x y:List Nat,twoB (x++y)=twoB x++twoB y
 |[],y=>rfl
 |n::x,y=>by rw[List.cons_append,twoB,twoB,twoB_appendP x y];rfl
end Go.Proofs.YtfjpkfhbmldmfabGreatDoor
