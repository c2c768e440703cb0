/-
  The document's addresses of the sixth kind, in plain mathematics: what is a whole one is what V6 reads.
-/
import Derived.Test.YtfjpkfhbmldmfaaGreatDoorDecm8
import Derived.Test.YtfjpkfhbmldmfaaGreatDoorUtfE
import Derived.Test.YtfjpkfhbmldmfaaGreatDoorChk
import Derived.Test.YtfjpkfhbmldmfaaGreatDoorMk
import Derived.Test.YtfjpkfhbmldmfaaGreatDoorLate5
namespace Go.Proofs.YtfjpkfhbmldmfaaGreatDoor
def dGrp (p:List UInt8):Option (List Nat):=if 1≤p.length∧p.length≤4∧p.all hxB=true then some [hexN 0 p / 256,hexN 0 p % 256] else none
def dGrps (last:Bool):List (List UInt8)→Option (List Nat)
 |[]=>some []
 |[p]=>if last=true then (match whole4 p with|some v=>some v|none=>dGrp p) else dGrp p
 |p::q::r=>match dGrp p with
  |none=>none
  |some b=>(dGrps last (q::r)).map (b++·)
def groupsD (s:List UInt8) (last:Bool):Option (List Nat):=if s=[] then some [] else dGrps last (splitB 58 s)
def cut2:List UInt8→Option (List UInt8×List UInt8)
 |[]=>none
 |[_]=>none
 |c::d::r=>if c=58∧d=58 then some ([],r) else (cut2 (d::r)).map fun x=>(c::x.1,x.2)
def whole6 (s:List UInt8):Option (List Nat):=match cut2 s with
 |none=>match groupsD s true with
  |some b=>if b.length=16 then some b else none
  |none=>none
 |some (h,t)=>match groupsD h false,groupsD t true with
  |some b,some c=>if b.length+c.length≤12 then some (b++List.replicate (16 - b.length - c.length) 0++c) else none
  |_,_=>none
theorem dGrp_some {p:List UInt8} {b:List Nat} (h:dGrp p=some b):1≤p.length∧p.length≤4∧(∀c∈p,hxB c=true)∧b=[hexN 0 p / 256,hexN 0 p % 256]:=by
 unfold dGrp at h
 split at h
 ·rename_i hc
  injection h with h
  exact⟨hc.1,hc.2.1,List.all_eq_true.1 hc.2.2,h.symm⟩
 ·cases h
theorem dGrp_none {p:List UInt8} (h:dGrp p=none):¬(1≤p.length∧p.length≤4∧∀c∈p,hxB c=true):=fun hc=>by
 unfold dGrp at h
 rw[if_pos ⟨hc.1,hc.2.1,List.all_eq_true.2 hc.2.2⟩]at h
 cases h
theorem dGrp_nil:dGrp []=none:=rfl
theorem dGrps_one (p:List UInt8) (last:Bool) (h:whole4 p=none):dGrps last [p]=dGrp p:=by
 rw[dGrps,h]
 cases last<;>rfl
theorem dGrps_cons (last:Bool) (p:List UInt8) (L:List (List UInt8)) (hL:L≠[]):dGrps last (p::L)=match dGrp p with
  |none=>none
  |some b=>(dGrps last L).map (b++·):=by
 cases L with
 |nil=>exact absurd rfl hL
 |cons q r=>rw[dGrps]
theorem whole4_len {p:List UInt8} {v:List Nat} (h:whole4 p=some v):v.length=4:=by
 obtain⟨a,b,c,d,rfl,_⟩:=whole4_is h
 rfl
theorem dGrps_len (last:Bool):∀(L:List (List UInt8)) (b:List Nat),L≠[]→dGrps last L=some b→2≤b.length
 |[],_,h,_=>absurd rfl h
 |[p],b,_,h=>by
  rw[dGrps]at h
  have key:dGrp p=some b→2≤b.length:=fun h=>by
   rw[(dGrp_some h).2.2.2]
   simp
  split at h
  ·split at h
   ·rename_i v hv
    injection h with h
    subst h
    rw[whole4_len hv]
    decide
   ·exact key h
  ·exact key h
 |p::q::r,b,_,h=>by
  rw[dGrps]at h
  cases hp:dGrp p with
  |none=>rw[hp]at h;cases h
  |some b1=>
   rw[hp]at h
   cases hr:dGrps last (q::r) with
   |none=>rw[hr]at h;cases h
   |some b2=>
    rw[hr]at h
    have e:b=b1++b2:=by
     have:some (b1++b2)=some b:=h
     injection this with this
     exact this.symm
    have:=(dGrp_some hp).2.2.2
    rw[e,this]
    simp
theorem cut2_none:∀p:List UInt8,(∀c∈p,c≠58)→cut2 p=none
 |[],_=>rfl
 |[_],_=>rfl
 |c::d::r,h=>by
  rw[cut2,if_neg (fun e=>h c (by simp) e.1),cut2_none (d::r) fun x hx=>h x (by simp[hx])]
  rfl
theorem cut2_dd:∀(p r:List UInt8),(∀c∈p,c≠58)→cut2 (p++58::58::r)=some (p,r)
 |[],r,_=>by rw[List.nil_append,cut2,if_pos ⟨rfl,rfl⟩]
 |[c],r,h=>by
  have hc:=h c (by simp)
  show cut2 (c::58::58::r)=_
  rw[cut2,if_neg (fun e=>hc e.1),cut2,if_pos ⟨rfl,rfl⟩]
  rfl
 |c::d::p,r,h=>by
  have hc:=h c (by simp)
  have ih:=cut2_dd (d::p) r fun x hx=>h x (by simp[hx])
  show cut2 (c::d::(p++58::58::r))=_
  rw[cut2,if_neg (fun e=>hc e.1)]
  have e:d::(p++58::58::r)=d::p++58::58::r:=rfl
  rw[e,ih]
  rfl
theorem cut2_one:∀(p r:List UInt8),(∀c∈p,c≠58)→r.head?≠some 58→cut2 (p++58::r)=(cut2 r).map fun x=>(p++58::x.1,x.2)
 |[],[],_,_=>rfl
 |[],c::r,_,h=>by
  rw[List.nil_append,cut2,if_neg (fun e=>h (by rw[e.2];rfl))]
  rfl
 |[c],r,h,hr=>by
  have hc:=h c (by simp)
  have ih:=cut2_one [] r (fun x hx=>by cases hx) hr
  show cut2 (c::58::r)=_
  rw[cut2,if_neg (fun e=>hc e.1)]
  rw[List.nil_append]at ih
  rw[ih]
  cases cut2 r<;>rfl
 |c::d::p,r,h,hr=>by
  have hc:=h c (by simp)
  have ih:=cut2_one (d::p) r (fun x hx=>h x (by simp[hx])) hr
  show cut2 (c::d::(p++58::r))=_
  rw[cut2,if_neg (fun e=>hc e.1)]
  have e:d::(p++58::r)=d::p++58::r:=rfl
  rw[e,ih]
  cases cut2 r<;>rfl
theorem piece (s:List UInt8):(∀c∈s,c≠58)∨∃p r,(∀c∈p,c≠58)∧s=p++58::r:=by
 induction s with
 |nil=>exact Or.inl fun c hc=>by cases hc
 |cons c r ih=>
  by_cases hc:c=58
  ·exact Or.inr ⟨[],r,fun c hc=>(by cases hc),by rw[hc];rfl⟩
  ·rcases ih with h|⟨x,y,h,e⟩
   ·refine Or.inl fun d hd=>?_
    rcases List.mem_cons.1 hd with rfl|hd
    ·exact hc
    ·exact h d hd
   ·refine Or.inr ⟨c::x,y,fun d hd=>?_,by rw[e];rfl⟩
    rcases List.mem_cons.1 hd with rfl|hd
    ·exact hc
    ·exact h d hd
theorem hexSp_hex:∀(l:List UInt8),hexSp l=l.length→∀c∈l,hxB c=true
 |[],_,c,hc=>by cases hc
 |x::r,h,c,hc=>by
  rw[hexSp]at h
  split at h
  ·rename_i hx
   rcases List.mem_cons.1 hc with rfl|hc
   ·exact hx
   ·exact hexSp_hex r (by simpa using h) c hc
  ·simp at h
theorem hexSp_app:∀(p r:List UInt8),(∀c,r.head?=some c→hxB c=false)→hexSp (p++r)=hexSp p
 |[],[],_=>rfl
 |[],c::r,h=>by
  have:hexSp (c::r)=0:=by rw[hexSp,if_neg (by rw[h c rfl];decide)]
  rw[List.nil_append,this]
  rfl
 |c::p,r,h=>by
  rw[List.cons_append,hexSp,hexSp,hexSp_app p r h]
theorem head58 (r:List UInt8) (h:r=[]∨r.head?=some 58):∀c,r.head?=some c→hxB c=false:=fun c hc=>by
 rcases h with h|h
 ·rw[h]at hc;cases hc
 ·rw[h]at hc
  injection hc with hc
  rw[←hc]
  decide
theorem grp_piece {p:List UInt8} {b:List Nat} (h:dGrp p=some b) (r:List UInt8) (hr:r=[]∨r.head?=some 58):grpL (p++r)=p.length∧grpN (p++r)=hexN 0 p∧(p++r)[p.length]?=r.head?∧hexN 0 p<65536:=by
 obtain⟨h1,h2,h3,_⟩:=dGrp_some h
 have e:hexSp (p++r)=p.length:=hexSp_append p r h3 (head58 r hr)
 have e2:grpL (p++r)=p.length:=by unfold grpL;rw[e];omega
 have e3:grpN (p++r)=hexN 0 p:=by unfold grpN;rw[e2,List.take_left]
 refine⟨e2,e3,?_,?_⟩
 ·rw[List.getElem?_append_right (Nat.le_refl _),Nat.sub_self]
  cases r<;>rfl
 ·rw[←e3]
  exact grpN_lt' _
theorem no_piece {p:List UInt8} (hp:∀c∈p,c≠58) (h:dGrp p=none) (r:List UInt8) (hr:r=[]∨r.head?=some 58):grpL (p++r)=0∨(grpL (p++r)<p.length∧∃c,(p++r)[grpL (p++r)]?=some c∧c≠58∧p[grpL (p++r)]?=some c):=by
 have e:hexSp (p++r)=hexSp p:=hexSp_app p r (head58 r hr)
 have hle:=hexSp_leP p
 by_cases h0:grpL (p++r)=0
 ·exact Or.inl h0
 ·have hlt:grpL (p++r)<p.length:=by
   have hn:=dGrp_none h
   unfold grpL at h0 ⊢
   rw[e]at h0 ⊢
   rcases Nat.lt_or_ge (min (hexSp p) 4) p.length with hh|hh
   ·exact hh
   ·exact absurd ⟨by omega,by omega,hexSp_hex p (by omega)⟩ hn
  refine Or.inr ⟨hlt,p[grpL (p++r)],?_,hp _ (List.getElem_mem hlt),List.getElem?_eq_getElem hlt⟩
  rw[List.getElem?_append_left hlt,List.getElem?_eq_getElem hlt]
theorem decD_hex:∀n:Fin 256,(∀c∈decD n.val,hxB c=true)∧1≤(decD n.val).length∧(decD n.val).length≤3:=by decide+kernel
theorem four_piece {p:List UInt8} {v:List Nat} (h:whole4 p=some v):grpL p≠0∧p[grpL p]?=some 46∧dGrp p=none∧(∀c∈p,c≠58):=by
 obtain⟨a,b,c,d,rfl,ha,hb,hc,hd,rfl⟩:=whole4_is h
 obtain⟨h1,h2,h3⟩:=decD_hex ⟨a,ha⟩
 dsimp only at h1 h2 h3
 have e:print4 [a,b,c,d]=decD a++dots [b,c,d]:=joinL_dots a [b,c,d]
 have e2:dots [b,c,d]=46::(decD b++dots [c,d]):=by simp[dots]
 have hs:hexSp (print4 [a,b,c,d])=(decD a).length:=by
  rw[e]
  refine hexSp_append _ _ h1 ?_
  rw[e2]
  intro x hx
  injection hx with hx
  rw[←hx]
  decide
 have hg:grpL (print4 [a,b,c,d])=(decD a).length:=by unfold grpL;rw[hs];omega
 have h46:(print4 [a,b,c,d])[grpL (print4 [a,b,c,d])]?=some 46:=by
  rw[hg,e,List.getElem?_append_right (Nat.le_refl _),Nat.sub_self,e2]
  rfl
 have hm:∀n∈[a,b,c,d],n<256:=fun n hn=>by
  simp at hn
  omega
 refine⟨by omega,h46,?_,?_⟩
 ·cases hd:dGrp (print4 [a,b,c,d]) with
  |none=>rfl
  |some z=>
   obtain⟨_,_,g3,_⟩:=dGrp_some hd
   have:=g3 46 (List.mem_of_getElem? h46)
   exact absurd this (by decide)
 ·intro x hx ex
  rcases print4_mem _ hm x hx with h|h
  ·rw[ex]at h
   revert h
   decide
  ·rw[ex]at h
   revert h
   decide
theorem twoB_appendP:∀x y:List Nat,twoB (x++y)=twoB x++twoB y
 |[],y=>rfl
 |n::x,y=>by rw[List.cons_append,twoB,twoB,twoB_appendP x y];rfl
theorem twoB_zero:∀k,twoB (List.replicate k 0)=List.replicate (2*k) 0
 |0=>rfl
 |k+1=>by
  rw[List.replicate_succ,twoB,twoB_zero k,show 2*(k+1)=2*k+1+1 from by omega,List.replicate_succ,List.replicate_succ]
def resG (g:Gs) (k:Nat) (b:List Nat):List Nat:=twoB (g.l.take k)++List.replicate (16 - 2*g.l.length - b.length) 0++twoB (g.l.drop k)++b
theorem resG_addr {g:Gs} {k:Nat} (hg:g.gap=some k) (hf:g.Fit):g.addr=resG g k []:=by
 have:=hf.gp k hg
 unfold Gs.addr Gs.all resG
 rw[hg]
 dsimp only
 rw[twoB_appendP,twoB_appendP,twoB_zero,List.append_nil,List.length_nil,show 2*(8 - g.l.length)=16 - 2*g.l.length - 0 from by omega]
theorem resG_put {g:Gs} {k:Nat} (hk:k≤g.l.length) (n:Nat) (b:List Nat):resG (g.put n) k b=resG g k ([n / 256,n % 256]++b):=by
 unfold resG Gs.put
 dsimp only
 rw[List.take_append_of_le_length hk,List.drop_append_of_le_length hk,twoB_appendP,List.length_append,List.length_append,show 16 - 2*(g.l.length+[n].length) - b.length=16 - 2*g.l.length - ([n / 256,n % 256].length+b.length) from by simp;omega]
 simp[twoB]
theorem pair_bytes (a b:Nat) (hb:b<256):(256*a+b) / 256=a∧(256*a+b) % 256=b:=by omega
theorem v6Go_gap:∀(f:Nat) (g:Gs) (k a:Nat) (s:List UInt8) (x:List Nat),g.gap=some k→g.Fit→6 - g.l.length≤f→
  (v6Go f g a s=.ok x↔∃b,dGrps true (splitB 58 s)=some b∧2*g.l.length+b.length≤12∧x=resG g k b)
 |0,g,k,a,s,x,hg,hf,hl=>by
  have hle:=(hf.gp k hg).2
  rw[v6Go]
  constructor
  ·intro h;cases h
  ·rintro ⟨b,h1,h2,_⟩
   have:=dGrps_len true _ b (splitB_ne 58 s) h1
   omega
 |f+1,g,k,a,s,x,hg,hf,hl=>by
  have hkl:=hf.gp k hg
  have hroom:g.room=6 - g.l.length:=by unfold Gs.room;rw[hg];rfl
  rw[v6Go]
  by_cases hr0:g.room=0
  ·rw[if_pos (Or.inr hr0)]
   constructor
   ·intro h;cases h
   ·rintro ⟨b,h1,h2,_⟩
    have:=dGrps_len true _ b (splitB_ne 58 s) h1
    omega
  have hputroom:∀n,(g.put n).room=6 - (g.l.length+1):=fun n=>by unfold Gs.room Gs.put;rw[hg];simp
  have hput0:∀n,(g.put n).whole 0=true:=fun n=>by unfold Gs.whole Gs.put;rw[hg];simp
  rcases piece s with hs|⟨p,r,hp,rfl⟩
  ·have hsp:=splitB_none 58 s hs
   rw[hsp]
   cases hd:dGrp s with
   |some b=>
    obtain⟨d1,d2,d3,d4⟩:=grp_piece hd [] (Or.inl rfl)
    rw[List.append_nil]at d1 d2 d3
    have hb:=(dGrp_some hd).2.2.2
    have hlen:=(dGrp_some hd).1
    have h4:whole4 s=none:=by
     cases hw:whole4 s with
     |none=>rfl
     |some v=>rw[(four_piece hw).2.2.1]at hd;cases hd
    rw[dGrps_one s true h4,hd,d1,d2,if_neg (by omega),if_neg (by rw[d3];simp),if_pos ⟨List.drop_eq_nil_of_le (Nat.le_refl _),hput0 _⟩]
    rw[resG_addr (g:=g.put (hexN 0 s)) hg (hf.put d4 (by omega)),resG_put hkl.1,List.append_nil,←hb]
    constructor
    ·intro h
     injection h with h
     exact⟨b,rfl,by rw[hb];simp;omega,h.symm⟩
    ·rintro ⟨b',h1,_,h3⟩
     injection h1 with h1
     rw[h3,h1]
   |none=>
    have key:=no_piece hs hd [] (Or.inl rfl)
    rw[List.append_nil]at key
    cases hw:whole4 s with
    |some v=>
     obtain⟨w1,w2,_,_⟩:=four_piece hw
     have hv:=(whole4_v4 s v).1 hw
     obtain⟨x1,x2,x3,x4,rfl,l1,l2,l3,l4⟩:=v4_four' s v hv
     have hdg:dGrps true [s]=some [x1,x2,x3,x4]:=by rw[dGrps,if_pos rfl,hw]
     rw[hdg,if_neg (by omega)]
     by_cases hw2:g.whole 2=true
     ·rw[if_pos ⟨hw2,w2⟩,hv]
      dsimp only
      have hr2:2≤g.room:=by
       unfold Gs.whole at hw2
       simp at hw2
       omega
      have hp1:pairN [x1,x2,x3,x4] 0=256*x1+x2:=rfl
      have hp2:pairN [x1,x2,x3,x4] 2=256*x3+x4:=rfl
      rw[hp1,hp2]
      have f1:(g.put (256*x1+x2)).Fit:=hf.put (by omega) (by omega)
      have f2:((g.put (256*x1+x2)).put (256*x3+x4)).Fit:=f1.put (by omega) (by rw[Gs.room_put];omega)
      rw[resG_addr (g:=(g.put (256*x1+x2)).put (256*x3+x4)) hg f2,resG_put (by show k≤(g.l++[_]).length;simp;omega),resG_put hkl.1,(pair_bytes x1 x2 l2).1,(pair_bytes x1 x2 l2).2,(pair_bytes x3 x4 l4).1,(pair_bytes x3 x4 l4).2]
      constructor
      ·intro h
       injection h with h
       exact⟨_,rfl,by simp;omega,h.symm⟩
      ·rintro ⟨b',h1,_,h3⟩
       injection h1 with h1
       rw[h3,←h1]
       rfl
     ·rw[if_neg (fun h=>hw2 h.1),if_neg ?_,if_pos ?_]
      ·constructor
       ·intro h;cases h
       ·rintro ⟨b',h1,h2,_⟩
        injection h1 with h1
        rw[←h1]at h2
        exfalso
        refine hw2 ?_
        unfold Gs.whole
        rw[hg,hroom]
        simp at h2 ⊢
        omega
      ·left
       rw[List.head?_drop,w2]
       simp
      ·rintro ⟨h,_⟩
       have:s[grpL s]?=none:=by
        rw[List.getElem?_eq_none_iff]
        exact List.drop_eq_nil_iff.1 h
       rw[w2]at this
       cases this
    |none=>
     rw[dGrps_one s true hw,hd]
     constructor
     ·intro h
      exfalso
      rcases key with k0|⟨k1,c,k2,k3,_⟩
      ·rw[if_pos (Or.inl k0)]at h;cases h
      ·split at h
       ·cases h
       ·split at h
        ·cases hv:v4 s with
         |ok y=>rw[(whole4_v4 s y).2 hv]at hw;cases hw
         |error q=>rw[hv]at h;cases h
        ·rw[if_neg ?_,if_pos ?_]at h
         ·cases h
         ·left
          rw[List.head?_drop,k2]
          simp[k3]
         ·rintro ⟨h',_⟩
          have:s[grpL s]?=none:=by
           rw[List.getElem?_eq_none_iff]
           exact List.drop_eq_nil_iff.1 h'
          rw[k2]at this
          cases this
     ·rintro ⟨b,h1,_⟩
      cases h1
  ·have hsp:=splitB_at 58 p r hp
   rw[hsp,dGrps_cons true p _ (splitB_ne 58 r)]
   cases hd:dGrp p with
   |some b=>
    obtain⟨d1,d2,d3,d4⟩:=grp_piece hd (58::r) (Or.inr rfl)
    have hb:=(dGrp_some hd).2.2.2
    have hlen:=(dGrp_some hd).1
    have hdrop:(p++58::r).drop p.length=58::r:=List.drop_left
    have hdrop1:(p++58::r).drop (p.length+1)=r:=by rw[←List.drop_drop,hdrop];rfl
    have hdrop2:(p++58::r).drop (p.length+2)=r.drop 1:=by rw[←List.drop_drop,hdrop];rfl
    dsimp only
    rw[d1,d2,if_neg (by omega),if_neg (by rw[d3];simp),hdrop,if_neg (by simp),hputroom]
    by_cases hr1:6 - (g.l.length+1)=0
    ·rw[if_pos (Or.inr hr1)]
     constructor
     ·intro h;cases h
     ·rintro ⟨b',h1,h2,_⟩
      cases hrr:dGrps true (splitB 58 r) with
      |none=>rw[hrr]at h1;cases h1
      |some c=>
       rw[hrr]at h1
       have:some (b++c)=some b':=h1
       injection this with this
       have hc:=dGrps_len true _ c (splitB_ne 58 r) hrr
       rw[←this,hb]at h2
       simp at h2
       omega
    ·rw[if_neg (by simp;omega),hdrop1,hdrop2]
     by_cases hh:r.head?=some 58
     ·rw[if_pos hh,if_neg (by unfold Gs.mayOpen Gs.put;rw[hg];simp)]
      constructor
      ·intro h;cases h
      ·rintro ⟨b',h1,_⟩
       match r,hh with
       |c::r',hh=>
        simp at hh
        subst hh
        rw[splitB,if_pos rfl,dGrps_cons true [] _ (splitB_ne 58 r'),dGrp_nil]at h1
        cases h1
     ·rw[if_neg hh,v6Go_gap f (g.put (hexN 0 p)) k _ r x hg (hf.put d4 (by omega)) (by simp[Gs.put];omega)]
      have hpl:(g.put (hexN 0 p)).l.length=g.l.length+1:=by simp[Gs.put]
      rw[hpl]
      constructor
      ·rintro ⟨c,h1,h2,h3⟩
       refine⟨b++c,by rw[h1];rfl,by rw[hb];simp;omega,?_⟩
       rw[h3,resG_put hkl.1,hb]
      ·rintro ⟨b',h1,h2,h3⟩
       cases hrr:dGrps true (splitB 58 r) with
       |none=>rw[hrr]at h1;cases h1
       |some c=>
        rw[hrr]at h1
        have:some (b++c)=some b':=h1
        injection this with this
        refine⟨c,rfl,?_,?_⟩
        ·rw[←this,hb]at h2
         simp at h2
         omega
        ·rw[h3,←this,resG_put hkl.1,hb]
   |none=>
    have key:=no_piece hp hd (58::r) (Or.inr rfl)
    dsimp only
    constructor
    ·intro h
     exfalso
     rcases key with k0|⟨k1,c,k2,k3,_⟩
     ·rw[if_pos (Or.inl k0)]at h;cases h
     ·split at h
      ·cases h
      ·split at h
       ·cases hv:v4 (p++58::r) with
        |ok y=>
         have:=(four_piece ((whole4_v4 _ y).2 hv)).2.2.2 58 (by simp)
         exact this rfl
        |error q=>rw[hv]at h;cases h
       ·rw[if_neg ?_,if_pos ?_]at h
        ·cases h
        ·left
         rw[List.head?_drop,k2]
         simp[k3]
        ·rintro ⟨h',_⟩
         have:(p++58::r)[grpL (p++58::r)]?=none:=by
          rw[List.getElem?_eq_none_iff]
          exact List.drop_eq_nil_iff.1 h'
         rw[k2]at this
         cases this
    ·rintro ⟨b,h1,_⟩
     cases h1
def leadN (n:Nat):Int:=if n=2 then 192 else if n=3 then 224 else if n=4 then 240 else 0
def addX (x:Int) (c:UInt8):Int:=64*x+(c.toNat:Int) - 128
def mkX:List UInt8→Int
 |[]=>0
 |c::t=>t.foldl addX ((c.toNat:Int) - leadN (t.length+1))
def okX (b:List UInt8):Prop:=isR (mkX b)∧Lib.encodeRune (mkX b)=b
instance (b:List UInt8):Decidable (okX b):=by unfold okX;infer_instance
theorem mkX_enc (r:Int) (h:isR r):mkX (Lib.encodeRune r)=r:=by
 obtain⟨h0,h1,h2⟩:=h
 unfold Lib.encodeRune
 by_cases c1:r≤127
 ·rw[Lib.encodeRuneZ_one h0 c1]
  simp only[List.map_cons,List.map_nil,mkX,List.foldl_nil,List.length_nil,leadN,u8_of r h0 (by omega)]
  simp
  omega
 by_cases c2:r≤2047
 ·rw[Lib.encodeRuneZ_two (by omega) c2]
  have a1:=u8_of (192+r / 64) (by omega) (by omega)
  have a2:=u8_of (128+r % 64) (by omega) (by omega)
  simp only[List.map_cons,List.map_nil,mkX,List.foldl_cons,List.foldl_nil,List.length_cons,List.length_nil,addX,a1,a2,leadN]
  simp
  omega
 by_cases c3:r≤65535
 ·rw[Lib.encodeRuneZ_three (by omega)]
  have a1:=u8_of (224+r / 4096) (by omega) (by omega)
  have a2:=u8_of (128+r / 64 % 64) (by omega) (by omega)
  have a3:=u8_of (128+r % 64) (by omega) (by omega)
  simp only[List.map_cons,List.map_nil,mkX,List.foldl_cons,List.foldl_nil,List.length_cons,List.length_nil,addX,a1,a2,a3,leadN]
  simp
  omega
 ·rw[Lib.encodeRuneZ_four (by omega) (by omega)]
  have a1:=u8_of (240+r / 262144) (by omega) (by omega)
  have a2:=u8_of (128+r / 4096 % 64) (by omega) (by omega)
  have a3:=u8_of (128+r / 64 % 64) (by omega) (by omega)
  have a4:=u8_of (128+r % 64) (by omega) (by omega)
  simp only[List.map_cons,List.map_nil,mkX,List.foldl_cons,List.foldl_nil,List.length_cons,List.length_nil,addX,a1,a2,a3,a4,leadN]
  simp
  omega
theorem okX_one {l:List UInt8} {n:Nat} (hn:n≤l.length) (h:okX (l.take n)):oneN l=some (mkX (l.take n),n):=by
 obtain⟨h1,h2⟩:=h
 have:=oneN_enc (mkX (l.take n)) h1 (l.drop n)
 rw[h2,List.take_append_drop,List.length_take,Nat.min_eq_left hn]at this
 exact this
theorem one_okX {l:List UInt8} {r:Int} {n:Nat} (h:oneN l=some (r,n)):n≤l.length∧1≤n∧n≤4∧okX (l.take n)∧mkX (l.take n)=r:=by
 obtain⟨h1,h2,h3⟩:=oneN_is h
 obtain⟨h4,h5,_⟩:=oneN_run l r n h
 have e:l.take n=Lib.encodeRune r:=by
  conv=>lhs;rw[h3]
  rw[h2,List.take_left]
 have h6:=(Lib.runeCells_le r).2
 rw[Lib.runeCells_length]at h6
 have h7:=mkX_enc r h1
 refine⟨h4,h5,by omega,⟨?_,?_⟩,by rw[e,h7]⟩
 ·rw[e,h7];exact h1
 ·rw[e,h7]
open Go.RowKit
set_option maxHeartbeats 1000000 in
set_option maxRecDepth 100000 in
theorem dis_any (r:Int) (w:World):Calls Tryz.prog 154 #[.int .i64 r] w fun e w'=>e=.returned (.bool (decide (isR r)))∧w'=w:=by
 by_cases h1:0≤r
 ·by_cases h2:r≤1114111
  ·by_cases h3:r<55296
   ·have HR:Hid (decide (isR r)=true):=decide_eq_true ⟨h1,h2,.inl h3⟩
    go_enter Tryz.func154,Tryz.ntmps154
    go_wp2
    go_ret
    exact⟨ret_b HR.out.symm,rfl⟩
   ·by_cases h4:57343<r
    ·have HR:Hid (decide (isR r)=true):=decide_eq_true ⟨h1,h2,.inr h4⟩
     go_enter Tryz.func154,Tryz.ntmps154
     go_wp2
     go_ret
     exact⟨ret_b HR.out.symm,rfl⟩
    ·have HR:Hid (decide (isR r)=false):=decide_eq_false (by unfold isR;omega)
     go_enter Tryz.func154,Tryz.ntmps154
     go_wp2
     go_ret
     exact⟨ret_b (by rw[HR.out]),rfl⟩
  ·have HR:Hid (decide (isR r)=false):=decide_eq_false (by unfold isR;omega)
   go_enter Tryz.func154,Tryz.ntmps154
   go_wp2
   go_ret
   exact⟨ret_b (by rw[HR.out]),rfl⟩
 ·have HR:Hid (decide (isR r)=false):=decide_eq_false (by unfold isR;omega)
  go_enter Tryz.func154,Tryz.ntmps154
  go_wp2
  go_ret
  exact⟨ret_b (by rw[HR.out]),rfl⟩
theorem u8c (x:Int) (h0:0≤x) (h1:x<256):x=((x.toNat.toUInt8).toNat:Int):=by rw[u8_of x h0 h1];omega
set_option maxHeartbeats 1000000 in
set_option maxRecDepth 100000 in
theorem dwr_any (r:Int) (h:isR r) (w:World):Calls Tryz.prog 187 #[.int .i32 r] w fun e w'=>e=.returned (.slice (some ⟨w.heap.size,0,none⟩) (Lib.encodeRune r).length (Lib.encodeRune r).length)∧w'=w.alloc (.cells (rowV (Lib.encodeRune r)) 5):=by
 obtain⟨h0,h1,h2⟩:=h
 unfold Lib.encodeRune
 by_cases c1:r<128
 ·rw[Lib.encodeRuneZ_one h0 (by omega)]
  have e1:=u8c r h0 (by omega)
  have w1:IntKind.u8.wrap r=r:=by rw[IntKind.wrap_u8];omega
  have HE:Hid (rowV ([r].map fun x=>x.toNat.toUInt8)=#[.int .u8 r]):=by show _=_;simp[rowV,cellsB];omega
  have HLN:Hid (([r].map fun x=>x.toNat.toUInt8).length=1):=rfl
  generalize ([r].map fun x=>x.toNat.toUInt8)=E at HE HLN ⊢
  clear e1
  go_enter Tryz.func187,Tryz.ntmps187
  go_wp2
  go_ret
  exact⟨by rw[HLN.out];rfl,by rw[HE.out]⟩
 by_cases c2:r<2048
 ·rw[Lib.encodeRuneZ_two (by omega) (by omega)]
  have t1:r.tdiv 64=r / 64:=Int.tdiv_eq_ediv_of_nonneg h0
  have t2:r.tmod 64=r % 64:=Int.tmod_eq_emod_of_nonneg h0
  have w1:IntKind.u8.wrap (192+r / 64)=192+r / 64:=by rw[IntKind.wrap_u8];omega
  have w2:IntKind.u8.wrap (128+r % 64)=128+r % 64:=by rw[IntKind.wrap_u8];omega
  have HE:Hid (rowV ([192+r / 64,128+r % 64].map fun x=>x.toNat.toUInt8)=#[.int .u8 (192+r / 64),.int .u8 (128+r % 64)]):=by show _=_;simp[rowV,cellsB];omega
  have HLN:Hid (([192+r / 64,128+r % 64].map fun x=>x.toNat.toUInt8).length=2):=rfl
  generalize ([192+r / 64,128+r % 64].map fun x=>x.toNat.toUInt8)=E at HE HLN ⊢
  go_enter Tryz.func187,Tryz.ntmps187
  go_wp2
  go_ret
  exact⟨by rw[HLN.out];rfl,by rw[HE.out]⟩
 by_cases c3:r<65536
 ·rw[Lib.encodeRuneZ_three (by omega)]
  have t1:r.tdiv 64=r / 64:=Int.tdiv_eq_ediv_of_nonneg h0
  have t2:r.tmod 64=r % 64:=Int.tmod_eq_emod_of_nonneg h0
  have t3:r.tdiv 4096=r / 4096:=Int.tdiv_eq_ediv_of_nonneg h0
  have t4:(r / 64).tmod 64=r / 64 % 64:=Int.tmod_eq_emod_of_nonneg (by omega)
  have w1:IntKind.u8.wrap (224+r / 4096)=224+r / 4096:=by rw[IntKind.wrap_u8];omega
  have w2:IntKind.u8.wrap (128+r / 64 % 64)=128+r / 64 % 64:=by rw[IntKind.wrap_u8];omega
  have w3:IntKind.u8.wrap (128+r % 64)=128+r % 64:=by rw[IntKind.wrap_u8];omega
  have HE:Hid (rowV ([224+r / 4096,128+r / 64 % 64,128+r % 64].map fun x=>x.toNat.toUInt8)=#[.int .u8 (224+r / 4096),.int .u8 (128+r / 64 % 64),.int .u8 (128+r % 64)]):=by show _=_;simp[rowV,cellsB];omega
  have HLN:Hid (([224+r / 4096,128+r / 64 % 64,128+r % 64].map fun x=>x.toNat.toUInt8).length=3):=rfl
  generalize ([224+r / 4096,128+r / 64 % 64,128+r % 64].map fun x=>x.toNat.toUInt8)=E at HE HLN ⊢
  go_enter Tryz.func187,Tryz.ntmps187
  go_wp2
  go_ret
  exact⟨by rw[HLN.out];rfl,by rw[HE.out]⟩
 ·rw[Lib.encodeRuneZ_four (by omega) (by omega)]
  have t1:r.tdiv 64=r / 64:=Int.tdiv_eq_ediv_of_nonneg h0
  have t2:r.tmod 64=r % 64:=Int.tmod_eq_emod_of_nonneg h0
  have t3:r.tdiv 4096=r / 4096:=Int.tdiv_eq_ediv_of_nonneg h0
  have t4:(r / 64).tmod 64=r / 64 % 64:=Int.tmod_eq_emod_of_nonneg (by omega)
  have t5:r.tdiv 262144=r / 262144:=Int.tdiv_eq_ediv_of_nonneg h0
  have t6:(r / 4096).tmod 64=r / 4096 % 64:=Int.tmod_eq_emod_of_nonneg (by omega)
  have w1:IntKind.u8.wrap (240+r / 262144)=240+r / 262144:=by rw[IntKind.wrap_u8];omega
  have w2:IntKind.u8.wrap (128+r / 4096 % 64)=128+r / 4096 % 64:=by rw[IntKind.wrap_u8];omega
  have w3:IntKind.u8.wrap (128+r / 64 % 64)=128+r / 64 % 64:=by rw[IntKind.wrap_u8];omega
  have w4:IntKind.u8.wrap (128+r % 64)=128+r % 64:=by rw[IntKind.wrap_u8];omega
  have HE:Hid (rowV ([240+r / 262144,128+r / 4096 % 64,128+r / 64 % 64,128+r % 64].map fun x=>x.toNat.toUInt8)=#[.int .u8 (240+r / 262144),.int .u8 (128+r / 4096 % 64),.int .u8 (128+r / 64 % 64),.int .u8 (128+r % 64)]):=by show _=_;simp[rowV,cellsB];omega
  have HLN:Hid (([240+r / 262144,128+r / 4096 % 64,128+r / 64 % 64,128+r % 64].map fun x=>x.toNat.toUInt8).length=4):=rfl
  generalize ([240+r / 262144,128+r / 4096 % 64,128+r / 64 % 64,128+r % 64].map fun x=>x.toNat.toUInt8)=E at HE HLN ⊢
  go_enter Tryz.func187,Tryz.ntmps187
  go_wp2
  go_ret
  exact⟨by rw[HLN.out];rfl,by rw[HE.out]⟩
set_option maxHeartbeats 1000000 in
set_option maxRecDepth 100000 in
theorem dlead_any (n:Nat) (hn:n≤4) (w:World):Calls Tryz.prog 186 #[.int .i64 n] w fun e w'=>e=.returned (.int .i64 (leadN n))∧w'=w.alloc (.cells #[.int .i64 0,.int .i64 0,.int .i64 192,.int .i64 224,.int .i64 240] 3):=by
 match n,hn with
 |0,_=>go_enter Tryz.func186,Tryz.ntmps186;go_wp2;go_ret;exact⟨rfl,rfl⟩
 |1,_=>go_enter Tryz.func186,Tryz.ntmps186;go_wp2;go_ret;exact⟨rfl,rfl⟩
 |2,_=>go_enter Tryz.func186,Tryz.ntmps186;go_wp2;go_ret;exact⟨rfl,rfl⟩
 |3,_=>go_enter Tryz.func186,Tryz.ntmps186;go_wp2;go_ret;exact⟨rfl,rfl⟩
 |4,_=>go_enter Tryz.func186,Tryz.ntmps186;go_wp2;go_ret;exact⟨rfl,rfl⟩
open Go.RowKit
theorem bts_new (w:World) (l:List UInt8):Bts (some ⟨w.heap.size,0,none⟩) l (w.alloc (.cells (rowV l) 5)):=by
 refine .inr ⟨w.heap.size,0,rfl,by simp,fun j hj=>?_⟩
 rw[Nat.zero_add,(Lies.new w (rowV l) 5).cell j,rowV_at l j hj]
end Go.Proofs.YtfjpkfhbmldmfaaGreatDoor
