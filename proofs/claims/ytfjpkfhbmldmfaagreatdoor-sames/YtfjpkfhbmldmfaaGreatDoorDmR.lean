/-
  Addresses that were written are read again as they were.
-/
import Derived.Test.YtfjpkfhbmldmfaaGreatDoorLate5
import Derived.Test.YtfjpkfhbmldmfaaGreatDoorWd8
namespace Go.Proofs.YtfjpkfhbmldmfaaGreatDoor
theorem numGo_append:∀(l:List UInt8) (n k m:Nat) (r:List UInt8),numGo n k l=(m,k+l.length)→(∀c,r.head?=some c→dgB c=false)→numGo n k (l++r)=(m,k+l.length)
 |[],n,k,m,r,h,hr=>by
  match r,hr with
  |[],_=>exact h
  |c::r,hr=>
   rw[List.nil_append,numGo_no _ _ _ _ (hr c rfl)]
   exact h
 |c::l,n,k,m,r,h,hr=>by
  rw[List.cons_append]
  rw[numGo]at h ⊢
  by_cases h1:dgB c=true
  ·rw[if_pos h1]at h ⊢
   by_cases h2:255<10*n+(c.toNat - 48)∨(0<k∧n=0)
   ·rw[if_pos h2]at h
    have:=congrArg Prod.snd h
    simp at this
   ·rw[if_neg h2]at h ⊢
    have e:k+(c::l).length=k+1+l.length:=by simp;omega
    rw[e]at h ⊢
    exact numGo_append l _ _ m r h hr
  ·rw[if_neg h1]at h
   have:=congrArg Prod.snd h
   simp at this
theorem decD_num:∀n:Fin 256,numGo 0 0 (decD n.val)=(n.val,0+(decD n.val).length)∧0<(decD n.val).length∧(decD n.val).length≤3∧(decD n.val).head?≠some 46:=by decide+kernel
theorem num_dec (n:Nat) (hn:n<256) (r:List UInt8) (hr:∀c,r.head?=some c→dgB c=false):numGo 0 0 (decD n++r)=(n,(decD n).length):=by
 have h:=numGo_append (decD n) 0 0 n r (decD_num ⟨n,hn⟩).1 hr
 rw[Nat.zero_add]at h
 exact h
theorem v4_print (a b c d:Nat) (ha:a<256) (hb:b<256) (hc:c<256) (hd:d<256):v4 (print4 [a,b,c,d])=.ok [a,b,c,d]:=by
 have hdot:∀(r:List UInt8) (x:UInt8),(46::r).head?=some x→dgB x=false:=fun r x h=>by
  injection h with h
  rw[←h]
  decide
 have e:print4 [a,b,c,d]=decD a++(46::(decD b++(46::(decD c++(46::(decD d++[])))))):=by
  simp[print4,joinL]
 have p1:=(decD_num ⟨a,ha⟩).2.1
 have p2:=(decD_num ⟨b,hb⟩).2.1
 have p3:=(decD_num ⟨c,hc⟩).2.1
 have p4:=(decD_num ⟨d,hd⟩).2.1
 dsimp only at p1 p2 p3 p4
 have q1:=num_dec a ha (46::(decD b++(46::(decD c++(46::(decD d++[])))))) (hdot _)
 have q2:=num_dec b hb (46::(decD c++(46::(decD d++[])))) (hdot _)
 have q3:=num_dec c hc (46::(decD d++[])) (hdot _)
 have q4:=num_dec d hd [] (fun c h=>by cases h)
 have n1:¬(decD a).length=0:=by omega
 have n2:¬(decD b).length=0:=by omega
 have n3:¬(decD c).length=0:=by omega
 have n4:¬(decD d).length=0:=by omega
 rw[e]
 unfold v4
 rw[v4Go,if_pos rfl,q1]
 dsimp only
 rw[if_neg n1,List.drop_left,List.nil_append,v4Go,if_neg (by simp),List.head?_cons,if_pos rfl,List.drop_one,List.tail_cons,q2]
 dsimp only
 rw[if_neg n2,List.drop_left,v4Go,if_neg (by simp),List.head?_cons,if_pos rfl,List.drop_one,List.tail_cons,q3]
 dsimp only
 rw[if_neg n3,List.drop_left,v4Go,if_neg (by simp),List.head?_cons,if_pos rfl,List.drop_one,List.tail_cons,q4]
 dsimp only
 rw[if_neg n4,List.append_nil,List.drop_length,v4Go,if_pos rfl]
 rfl
theorem hexC_ok:∀d:Fin 16,hxB (hexC d.val)=true∧hxV (hexC d.val)=d.val∧hexC d.val≠58∧hexC d.val≠46:=by decide+kernel
theorem hexN_append:∀(l r:List UInt8) (n:Nat),hexN n (l++r)=hexN (hexN n l) r
 |[],_,_=>rfl
 |c::l,r,n=>by rw[List.cons_append,hexN,hexN,hexN_append l r]
theorem hexF_ok:∀(f n:Nat),n<16 ^ (f+1)→hexN 0 (hexF f n)=n∧(∀c∈hexF f n,hxB c=true)∧0<(hexF f n).length∧(∀k,n<16 ^ (k+1)→(hexF f n).length≤k+1)
 |0,n,h=>by
  have hn:n % 16<16:=Nat.mod_lt _ (by decide)
  have:=hexC_ok ⟨n % 16,hn⟩
  dsimp only at this
  refine⟨?_,?_,by simp[hexF],fun k _=>by simp[hexF]⟩
  ·simp only[hexF,hexN,this.2.1]
   omega
  ·simp only[hexF,List.mem_singleton]
   rintro c rfl
   exact this.1
 |f+1,n,h=>by
  rw[hexF]
  by_cases hn:n<16
  ·rw[if_pos hn]
   have:=hexC_ok ⟨n,hn⟩
   dsimp only at this
   refine⟨?_,?_,by simp,fun k _=>by simp⟩
   ·simp only[hexN,this.2.1]
    omega
   ·simp only[List.mem_singleton]
    rintro c rfl
    exact this.1
  ·rw[if_neg hn]
   have hm:=hexC_ok ⟨n % 16,Nat.mod_lt _ (by decide)⟩
   dsimp only at hm
   obtain⟨i1,i2,i3,i4⟩:=hexF_ok f (n / 16) (Nat.div_lt_of_lt_mul (by rw[Nat.pow_succ]at h;omega))
   refine⟨?_,?_,by simp,fun k hk=>?_⟩
   ·rw[hexN_append,i1]
    simp only[hexN,hm.2.1]
    omega
   ·intro c hc
    rcases List.mem_append.1 hc with hc|hc
    ·exact i2 c hc
    ·rw[List.mem_singleton.1 hc]
     exact hm.1
   ·rw[List.length_append,List.length_singleton]
    match k with
    |0=>omega
    |k+1=>
     have:=i4 k (Nat.div_lt_of_lt_mul (by rw[Nat.pow_succ]at hk;omega))
     omega
theorem hexD_ok (n:Nat) (h:n<65536):hexN 0 (hexD n)=n∧(∀c∈hexD n,hxB c=true)∧0<(hexD n).length∧(hexD n).length≤4:=by
 obtain⟨h1,h2,h3,h4⟩:=hexF_ok 16 n (by omega)
 exact⟨h1,h2,h3,h4 3 (by omega)⟩
theorem hexSp_append:∀(l r:List UInt8),(∀c∈l,hxB c=true)→(∀c,r.head?=some c→hxB c=false)→hexSp (l++r)=l.length
 |[],r,_,hr=>by
  match r,hr with
  |[],_=>rfl
  |c::r,hr=>rw[List.nil_append,hexSp,if_neg (by rw[hr c rfl];decide)];rfl
 |c::l,r,hl,hr=>by
  rw[List.cons_append,hexSp,if_pos (hl c (by simp)),hexSp_append l r (fun x hx=>hl x (by simp[hx])) hr,List.length_cons]
theorem grp_hex (n:Nat) (h:n<65536) (r:List UInt8) (hr:∀c,r.head?=some c→hxB c=false):grpL (hexD n++r)=(hexD n).length∧grpN (hexD n++r)=n:=by
 obtain⟨h1,h2,_,h4⟩:=hexD_ok n h
 have e:grpL (hexD n++r)=(hexD n).length:=by
  unfold grpL
  rw[hexSp_append _ _ h2 hr]
  omega
 refine⟨e,?_⟩
 unfold grpN
 rw[e,List.take_left,h1]
def gtx (l:List Nat):List UInt8:=joinL [58] (l.map hexD)
theorem gtx_one (n:Nat):gtx [n]=hexD n:=rfl
theorem gtx_cons (n m:Nat) (r:List Nat):gtx (n::m::r)=hexD n++58::gtx (m::r):=by
 simp[gtx,joinL]
theorem gtx_head (n:Nat) (r:List Nat) (hn:n<65536) (t:List UInt8):∃c x,gtx (n::r)++t=c::x∧hxB c=true:=by
 obtain⟨_,h2,h3,_⟩:=hexD_ok n hn
 match r with
 |[]=>
  rw[gtx_one]
  match h:hexD n,h2,h3 with
  |c::x,h2,_=>exact⟨c,x++t,rfl,h2 c (by simp)⟩
 |m::r=>
  rw[gtx_cons]
  match h:hexD n,h2,h3 with
  |c::x,h2,_=>exact⟨c,_,rfl,h2 c (by simp)⟩
theorem hx_no58:hxB 58=false:=by decide
theorem hx58 (r:List UInt8):∀c,(58::r).head?=some c→hxB c=false:=fun c h=>by
 injection h with h
 rw[←h]
 exact hx_no58
def Gs.add (g:Gs) (l:List Nat):Gs:=⟨g.l++l,g.gap⟩
theorem Gs.put_add (g:Gs) (n:Nat) (l:List Nat):(g.put n).add l=g.add (n::l):=by
 simp[Gs.put,Gs.add]
theorem Gs.room_put (g:Gs) (n:Nat):(g.put n).room=g.room - 1:=by
 unfold Gs.room Gs.put
 simp only[List.length_append,List.length_singleton]
 split<;>omega
theorem v6_row:∀(l:List Nat) (f:Nat) (g:Gs) (a:Nat),l≠[]→(∀n∈l,n<65536)→l.length≤f→l.length≤g.room→(g.add l).whole 0=true→v6Go f g a (gtx l)=.ok (g.add l).addr
 |[],_,_,_,h,_,_,_,_=>absurd rfl h
 |n::r,0,_,_,_,_,h,_,_=>by simp at h
 |[n],f+1,g,a,_,hn,_,hr,hw=>by
  have hn:=hn n (by simp)
  obtain⟨h1,h2,h3,h4⟩:=hexD_ok n hn
  have e:=grp_hex n hn [] (fun c h=>by cases h)
  rw[List.append_nil]at e
  simp only[List.length_singleton]at hr
  rw[gtx_one,v6Go,e.1,e.2,if_neg (by omega),if_neg (by simp),if_pos ⟨by simp,hw⟩]
  rfl
 |n::m::r,f+1,g,a,_,hn,hf,hr,hw=>by
  have hn1:=hn n (by simp)
  have hm:=hn m (by simp)
  obtain⟨h1,h2,h3,h4⟩:=hexD_ok n hn1
  have e:=grp_hex n hn1 (58::gtx (m::r)) (hx58 _)
  simp only[List.length_cons]at hr hf
  obtain⟨c,x,hc,hcx⟩:=gtx_head m r hm []
  rw[List.append_nil]at hc
  have hc58:c≠58:=fun h=>by rw[h,hx_no58]at hcx;cases hcx
  have hd1:(hexD n++58::gtx (m::r)).drop ((hexD n).length+1)=gtx (m::r):=by
   rw[←List.drop_drop,List.drop_left]
   rfl
  rw[gtx_cons,v6Go,e.1,e.2,if_neg (by omega),if_neg (by simp),List.drop_left,if_neg (by simp),if_neg (by
   rw[Gs.room_put]
   simp
   omega),hd1,if_neg (by rw[hc];simpa using hc58)]
  rw[v6_row (m::r) f (g.put n) _ (by simp) (fun x hx=>hn x (by simp[List.mem_cons.1 hx])) (by simp;omega) (by rw[Gs.room_put];simp;omega) (by rw[Gs.put_add];exact hw),Gs.put_add]
theorem v6_gap:∀(l:List Nat) (f:Nat) (g:Gs) (a:Nat) (t:List UInt8),l≠[]→(∀n∈l,n<65536)→l.length≤f→g.gap=none→g.l.length+l.length≤6→
  ∃a',v6Go f g a (gtx l++58::58::t)=if t=[] then .ok (g.add l).open'.addr else v6Go (f - l.length) (g.add l).open' a' t
 |[],_,_,_,_,h,_,_,_,_=>absurd rfl h
 |n::r,0,_,_,_,_,_,h,_,_=>by simp at h
 |[n],f+1,g,a,t,_,hn,_,hg,hr=>by
  have hn:=hn n (by simp)
  obtain⟨h1,h2,h3,h4⟩:=hexD_ok n hn
  have e:=grp_hex n hn (58::58::t) (hx58 _)
  simp only[List.length_singleton]at hr
  have hroom:g.room=8 - g.l.length:=by unfold Gs.room;rw[hg];rfl
  have hmay:(g.put n).mayOpen=true:=by
   unfold Gs.mayOpen Gs.put
   rw[hg]
   simp
   omega
  have hd1:(hexD n++58::58::t).drop ((hexD n).length+1)=58::t:=by
   rw[←List.drop_drop,List.drop_left]
   rfl
  have hd2:(hexD n++58::58::t).drop ((hexD n).length+2)=t:=by
   rw[←List.drop_drop,List.drop_left]
   rfl
  refine⟨a+(hexD n).length+2,?_⟩
  rw[gtx_one,v6Go,e.1,e.2,if_neg (by omega),if_neg (by simp),List.drop_left,if_neg (by simp),if_neg (by
   rw[Gs.room_put]
   simp
   omega),hd1,List.head?_cons,if_pos rfl,if_pos hmay,hd2]
  rfl
 |n::m::r,f+1,g,a,t,_,hn,hf,hg,hr=>by
  have hn1:=hn n (by simp)
  have hm:=hn m (by simp)
  obtain⟨h1,h2,h3,h4⟩:=hexD_ok n hn1
  simp only[List.length_cons]at hr hf
  have hroom:g.room=8 - g.l.length:=by unfold Gs.room;rw[hg];rfl
  have e:=grp_hex n hn1 (58::(gtx (m::r)++58::58::t)) (hx58 _)
  obtain⟨c,x,hc,hcx⟩:=gtx_head m r hm (58::58::t)
  have hc58:c≠58:=fun h=>by rw[h,hx_no58]at hcx;cases hcx
  have hd1:(hexD n++58::(gtx (m::r)++58::58::t)).drop ((hexD n).length+1)=gtx (m::r)++58::58::t:=by
   rw[←List.drop_drop,List.drop_left]
   rfl
  obtain⟨a',ha⟩:=v6_gap (m::r) f (g.put n) (a+(hexD n).length+1) t (by simp) (fun x hx=>hn x (by simp[List.mem_cons.1 hx])) (by simp;omega) hg (by simp[Gs.put];omega)
  refine⟨a',?_⟩
  rw[gtx_cons,List.append_assoc,List.cons_append,v6Go,e.1,e.2,if_neg (by omega),if_neg (by simp),List.drop_left,if_neg (by simp),if_neg (by
   rw[Gs.room_put]
   simp
   omega),hd1,if_neg (by rw[hc];simpa using hc58),ha,Gs.put_add]
  simp only[List.length_cons]
  rw[show f+1 - (r.length+1+1)=f - (r.length+1) from by omega]
theorem zrGo_ok (L:List (List UInt8)):∀(r:List (List UInt8)) (i b f t:Nat),i+r.length=L.length→L.drop i=r→b≤i→f≤t→t≤i→(∀k,b≤k→k<i→L[k]?=some [48])→(∀k,f≤k→k<t→L[k]?=some [48])→
  (zrGo i b f t r).1≤(zrGo i b f t r).2∧(zrGo i b f t r).2≤L.length∧∀k,(zrGo i b f t r).1≤k→k<(zrGo i b f t r).2→L[k]?=some [48]
 |[],i,b,f,t,hi,_,_,hft,ht,_,hz=>⟨hft,by simp at hi;rw[zrGo];dsimp only;omega,hz⟩
 |x::r,i,b,f,t,hi,hd,hb,hft,ht,hbz,hz=>by
  have hx:L[i]?=some x:=by
   have h:=congrArg List.head? hd
   rw[List.head?_drop]at h
   exact h
  have hd':L.drop (i+1)=r:=by
   rw[←List.drop_drop,hd]
   rfl
  simp only[List.length_cons]at hi
  rw[zrGo]
  by_cases hx0:x=[48]
  ·rw[if_neg (show ¬x≠[48] from fun h=>h hx0)]
   have hbz':∀k,b≤k→k<i+1→L[k]?=some [48]:=fun k h1 h2=>by
    by_cases h:k<i
    ·exact hbz k h1 h
    ·rw[show k=i from by omega,hx,hx0]
   split
   ·exact zrGo_ok L r (i+1) b b (i+1) (by omega) hd' (by omega) (by omega) (by omega) hbz' hbz'
   ·exact zrGo_ok L r (i+1) b f t (by omega) hd' (by omega) hft (by omega) hbz' hz
  ·rw[if_pos hx0]
   have hbz':∀k,i+1≤k→k<i+1→L[k]?=some [48]:=fun k h1 h2=>by omega
   split
   ·exact zrGo_ok L r (i+1) (i+1) (i+1) (i+1) (by omega) hd' (by omega) (by omega) (by omega) hbz' hbz'
   ·exact zrGo_ok L r (i+1) (i+1) f t (by omega) hd' (by omega) hft (by omega) hbz' hz
theorem zeros_ok (L:List (List UInt8)):(zeros L).1≤(zeros L).2∧(zeros L).2≤L.length∧∀k,(zeros L).1≤k→k<(zeros L).2→L[k]?=some [48]:=
 zrGo_ok L L 0 0 0 0 (by simp) rfl (by omega) (by omega) (by omega) (fun k _ h=>by omega) (fun k _ h=>by omega)
theorem hexD_zero (n:Nat) (hn:n<65536) (h:hexD n=[48]):n=0:=by
 have:=(hexD_ok n hn).1
 rw[h]at this
 rw[←this]
 decide
theorem two_grps:∀(a:List Nat),a.length % 2=0→(∀n∈a,n<256)→twoB (grpsOf a)=a∧(grpsOf a).length=a.length / 2∧∀n∈grpsOf a,n<65536
 |[],_,_=>⟨rfl,rfl,fun n h=>by cases h⟩
 |[x],h,_=>by simp at h
 |x::y::r,h,hn=>by
  have hx:=hn x (by simp)
  have hy:=hn y (by simp)
  obtain⟨i1,i2,i3⟩:=two_grps r (by simp at h;omega) (fun n h=>hn n (by simp[h]))
  refine⟨?_,?_,?_⟩
  ·rw[grpsOf,twoB,i1,show(256*x+y) / 256=x from by omega,show(256*x+y) % 256=y from by omega]
  ·rw[grpsOf,List.length_cons,i2]
   simp
   omega
  ·intro n hn'
   rcases List.mem_cons.1 hn' with h|h
   ·omega
   ·exact i3 n h
theorem mid_zero (L:List Nat) (f t:Nat) (hft:f≤t) (ht:t≤L.length) (hz:∀k,f≤k→k<t→L[k]?=some 0):L.take f++List.replicate (t - f) 0++L.drop t=L:=by
 apply List.ext_getElem?
 intro k
 rw[List.append_assoc]
 by_cases h1:k<f
 ·rw[List.getElem?_append_left (by simp;omega),List.getElem?_take_of_lt h1]
 ·rw[List.getElem?_append_right (by simp;omega)]
  simp only[List.length_take]
  rw[Nat.min_eq_left (by omega)]
  by_cases h2:k<t
  ·rw[List.getElem?_append_left (by simp;omega),hz k (by omega) h2,List.getElem?_replicate,if_pos (by omega)]
  ·rw[List.getElem?_append_right (by simp;omega),List.length_replicate,List.getElem?_drop,show t+(k - f - (t - f))=k from by omega]
theorem v6_print (a:List Nat) (ha:a.length=16) (hb:∀n∈a,n<256):v6 (print6 a)=.ok a:=by
 obtain⟨g1,g2,g3⟩:=two_grps a (by omega) hb
 rw[ha]at g2
 obtain⟨z1,z2,z3⟩:=zeros_ok ((grpsOf a).map hexD)
 unfold print6
 generalize (zeros ((grpsOf a).map hexD)).1=f at z1 z2 z3 ⊢
 generalize (zeros ((grpsOf a).map hexD)).2=t at z1 z2 z3 ⊢
 rw[List.length_map,g2]at z2
 have z4:∀k,f≤k→k<t→(grpsOf a)[k]?=some 0:=fun k h1 h2=>by
  have h:=z3 k h1 h2
  rw[List.getElem?_map]at h
  match hk:(grpsOf a)[k]?,h with
  |some n,h=>
   simp only[Option.map_some,Option.some.injEq]at h
   rw[hexD_zero n (g3 n (List.mem_of_getElem? hk)) h]
 clear z3
 generalize hL:grpsOf a=L at*
 by_cases h2:t - f<2
 ·rw[if_pos h2]
  match L,g2 with
  |n::m::r,g2=>
   obtain⟨c,x,hc,hcx⟩:=gtx_head n (m::r) (g3 n (by simp)) []
   rw[List.append_nil]at hc
   have hc58:c≠58:=fun h=>by rw[h,hx_no58]at hcx;cases hcx
   unfold v6
   change (if (gtx (n::m::r)).take 2=[58,58] then _ else if (gtx (n::m::r)).head?=some 58 then _ else v6Go 9 ⟨[],none⟩ 0 (gtx (n::m::r)))=_
   rw[if_neg (by rw[hc];simp[hc58]),if_neg (by rw[hc];simpa using hc58),v6_row (n::m::r) 9 ⟨[],none⟩ 0 (by simp) g3 (by omega) (by show _≤8;omega) (by
    simp only[Gs.whole,Gs.add,Gs.room,List.nil_append,g2]
    decide)]
   show Except.ok (twoB (n::m::r))=_
   rw[g1]
 ·rw[if_neg h2,←List.map_take,←List.map_drop]
  change v6 (gtx (L.take f)++[58,58]++gtx (L.drop t))=_
  rw[List.append_assoc]
  change v6 (gtx (L.take f)++(58::58::gtx (L.drop t)))=_
  have hall:∀(G:Gs),G.l=L.take f++L.drop t→G.gap=some f→G.addr=a:=fun G h1 h3=>by
   unfold Gs.addr Gs.all
   rw[h3,h1]
   dsimp only
   have e1:(L.take f).length=f:=by simp;omega
   rw[List.take_append_of_le_length (by omega),List.drop_append_of_le_length (by omega),List.take_of_length_le (by omega),List.drop_eq_nil_of_le (Nat.le_of_eq e1),List.nil_append]
   rw[show 8 - (L.take f++L.drop t).length=t - f from by simp;omega,mid_zero L f t z1 (by omega) z4,g1]
  have tailOk:∀(F:Nat) (k:Nat) (G:Gs),L.drop t≠[]→8 - t≤F→G.l=L.take f→G.gap=some f→v6Go F G k (gtx (L.drop t))=.ok a:=fun F k G hne hF h1 h3=>by
   have hl1:(L.take f).length=f:=by simp;omega
   have hl2:(L.drop t).length=8 - t:=by simp;omega
   have hr:G.room=6 - f:=by unfold Gs.room;rw[h3,h1,hl1];rfl
   rw[v6_row (L.drop t) F G k hne (fun n hn=>g3 n (List.mem_of_mem_drop hn)) (by omega) (by omega) (by
    unfold Gs.whole Gs.add
    rw[h3]
    simp)]
   rw[hall (G.add (L.drop t)) (by show G.l++_=_;rw[h1]) h3]
  by_cases hf:L.take f=[]
  ·have hf0:f=0:=by
    rcases List.take_eq_nil_iff.1 hf with h|h
    ·exact h
    ·rw[h]at g2;simp at g2
   rw[hf]
   unfold v6
   show(if (58::58::gtx (L.drop t)).take 2=[58,58] then _ else _)=_
   rw[if_pos (by rfl)]
   by_cases ht:L.drop t=[]
   ·rw[ht]
    show(if (58::58::gtx []).length=2 then Except.ok (Gs.addr ⟨[],some 0⟩) else _)=_
    rw[if_pos (by rfl),hall ⟨[],some 0⟩ (by rw[hf,ht];rfl) (by rw[hf0])]
   ·have hne:(58::58::gtx (L.drop t)).length≠2:=by
     match hd:L.drop t,ht with
     |n::r,_=>
      obtain⟨c,x,hc,_⟩:=gtx_head n r (g3 n (List.mem_of_mem_drop (by rw[hd];simp))) []
      rw[List.append_nil]at hc
      rw[hc]
      simp
    show(if (58::58::gtx (L.drop t)).length=2 then _ else v6Go 9 ⟨[],some 0⟩ 2 (gtx (L.drop t)))=_
    rw[if_neg hne,tailOk 9 2 ⟨[],some 0⟩ ht (by omega) hf.symm (by rw[hf0])]
  ·match hd:L.take f,hf with
   |n::r,hf=>
    have hn1:∀x∈n::r,x<65536:=fun x hx=>g3 x (List.mem_of_mem_take (by rw[hd];exact hx))
    have hlen:(n::r).length=f:=by rw[←hd];simp;omega
    obtain⟨c,x,hc,hcx⟩:=gtx_head n r (hn1 n (by simp)) (58::58::gtx (L.drop t))
    have hc58:c≠58:=fun h=>by rw[h,hx_no58]at hcx;cases hcx
    obtain⟨a',hg⟩:=v6_gap (n::r) 9 ⟨[],none⟩ 0 (gtx (L.drop t)) (by simp) hn1 (by omega) rfl (by simp only[List.length_nil];omega)
    unfold v6
    rw[if_neg (by rw[hc];simp[hc58]),if_neg (by rw[hc];simpa using hc58),hg]
    by_cases ht:L.drop t=[]
    ·rw[ht,if_pos (by rfl),hall _ (by rw[hd,ht];simp[Gs.open',Gs.add]) (by simp only[Gs.open',Gs.add,List.nil_append,hlen])]
    ·have hne:gtx (L.drop t)≠[]:=by
      match hd:L.drop t,ht with
      |n::r,_=>
       obtain⟨c,x,hc,_⟩:=gtx_head n r (g3 n (List.mem_of_mem_drop (by rw[hd];simp))) []
       rw[List.append_nil]at hc
       rw[hc]
       simp
     rw[if_neg hne,tailOk _ a' _ ht (by rw[hlen];omega) (by rw[hd];simp[Gs.open',Gs.add]) (by simp only[Gs.open',Gs.add,List.nil_append,hlen])]
theorem stB_mono {f a n:Nat} {c:UInt8} (h:stB 0 a n c=true):stB f a n c=true:=by
 unfold stB at*
 simp only[Nat.not_lt_zero,decide_false,Bool.and_false,Bool.or_false]at h
 rw[h,Bool.true_or]
theorem wdGo_mono (f:Nat):∀(s:List UInt8) (a n:Nat) (h:Bool),wdGo 0 a n h s=none→wdGo f a n h s=none
 |[],_,_,_,e=>e
 |c::r,a,n,h,e=>by
  rw[wdGo]at e ⊢
  by_cases h1:c=46
  ·rw[if_pos h1]at e ⊢
   by_cases h2:0<n∧h=false
   ·rw[if_pos h2]at e ⊢
    exact wdGo_mono f r _ _ _ e
   ·rw[if_neg h2]at e;cases e
  ·rw[if_neg h1]at e ⊢
   by_cases h2:n=63∨stB 0 a n c=false
   ·rw[if_pos h2]at e;cases e
   ·rw[if_neg h2]at e
    have h3:stB 0 a n c=true:=by
     cases hh:stB 0 a n c
     ·exact absurd (Or.inr hh) h2
     ·rfl
    have h4:¬(n=63∨stB f a n c=false):=fun h=>by
     rcases h with h|h
     ·exact h2 (Or.inl h)
     ·rw[stB_mono h3]at h;cases h
    rw[if_neg h4]
    exact wdGo_mono f r _ _ _ e
theorem wd_ok {wide:Bool} {s:List UInt8} (h:(wd wide s).1=0):s.length≤255∧wdGo (if wide then badU s else 0) 0 0 false s=none∧wd wide s=(0,0):=by
 unfold wd at*
 by_cases h1:255<s.length
 ·rw[if_pos h1]at h;cases h
 ·rw[if_neg h1]at h ⊢
  generalize wdGo (if wide=true then badU s else 0) 0 0 false s=o at h ⊢
  cases o with
  |none=>exact⟨by omega,rfl,rfl⟩
  |some a=>cases h
theorem wd_is {wide:Bool} {s:List UInt8} (h1:s.length≤255) (h2:wdGo (if wide then badU s else 0) 0 0 false s=none):wd wide s=(0,0):=by
 unfold wd
 rw[if_neg (by omega),h2]
theorem wd_wide {wide:Bool} {s:List UInt8} (h:(wd wide s).1=0):wd true s=(0,0):=by
 cases wide with
 |true=>exact(wd_ok h).2.2
 |false=>
  obtain⟨h1,h2,_⟩:=wd_ok h
  exact wd_is h1 (wdGo_mono _ s _ _ _ h2)
theorem wd_head {wide:Bool} {s:List UInt8} (h:(wd wide s).1=0):s.head?≠some 91:=by
 obtain⟨_,h2,_⟩:=wd_ok h
 match s,h2 with
 |[],_=>simp
 |c::r,h2=>
  intro hc
  simp at hc
  subst hc
  rw[wdGo,if_neg (by decide),if_pos (Or.inr (by simp[stB,ldB,dgB]))]at h2
  cases h2
theorem wdGo_le (f:Nat):∀(s:List UInt8) (a n:Nat) (h:Bool) (p:Nat),wdGo f a n h s=some p→p≤a+s.length
 |[],a,n,h,p,e=>by
  rw[wdGo]at e
  split at e
  ·cases e
  ·injection e with e;omega
 |c::r,a,n,h,p,e=>by
  rw[wdGo]at e
  rw[List.length_cons]
  split at e
  ·split at e
   ·have:=wdGo_le f r _ _ _ p e;omega
   ·injection e with e;omega
  ·split at e
   ·injection e with e;omega
   ·have:=wdGo_le f r _ _ _ p e;omega
theorem wd_le (wide:Bool) (s:List UInt8):(wd wide s).2≤s.length:=by
 unfold wd
 by_cases h1:255<s.length
 ·rw[if_pos h1];exact Nat.le_of_lt h1
 ·rw[if_neg h1]
  cases h:wdGo (if wide=true then badU s else 0) 0 0 false s with
  |none=>exact Nat.zero_le _
  |some a=>
   have:=wdGo_le _ _ _ _ _ _ h
   dsimp only
   omega
theorem u8_back (c:UInt8) (n:Nat) (h:c.toNat=n):UInt8.ofNat n=c:=by rw[←h,UInt8.ofNat_toNat]
theorem dgB_is {c:UInt8} (h:dgB c=true):48≤c.toNat∧c.toNat≤57:=by
 unfold dgB at h
 simp at h
 exact h
theorem num_back (s:List UInt8) (n k:Nat) (h:numGo 0 0 s=(n,k)) (hk:k≠0):s.take k=decD n:=by
 match s,h with
 |[],h=>rw[numGo_nil]at h;injection h with _ h;omega
 |c1::r1,h=>
  by_cases d1:dgB c1=true
  case neg=>rw[numGo_no _ _ _ _ (by simpa using d1)]at h;injection h with _ h;omega
  obtain⟨l1,u1⟩:=dgB_is d1
  rw[numGo_on _ _ _ _ d1 (by omega)]at h
  simp only[Nat.mul_zero,Nat.zero_add]at h
  have one:∀m,(c1.toNat - 48,1)=(m,k)→(c1::r1).take k=decD m:=fun m e=>by
   injection e with e1 e2
   subst e1 e2
   rw[decD,if_pos (by omega),u8_back c1 _ (by omega)]
   rfl
  match r1,h,one with
  |[],h,one=>exact one n h
  |c2::r2,h,one=>
   by_cases d2:dgB c2=true
   case neg=>rw[numGo_no _ _ _ _ (by simpa using d2)]at h;exact one n h
   obtain⟨l2,u2⟩:=dgB_is d2
   by_cases z1:c1.toNat - 48=0
   ·rw[numGo_stop _ _ _ _ d2 (Or.inr ⟨by omega,z1⟩)]at h;exact one n h
   rw[numGo_on _ _ _ _ d2 (by omega)]at h
   have two:∀m,(10*(c1.toNat - 48)+(c2.toNat - 48),1+1)=(m,k)→(c1::c2::r2).take k=decD m:=fun m e=>by
    injection e with e1 e2
    subst e1 e2
    rw[decD,if_neg (by omega),if_pos (by omega),u8_back c1 _ (by omega),u8_back c2 _ (by omega)]
    rfl
   match r2,h,two with
   |[],h,two=>exact two n h
   |c3::r3,h,two=>
    by_cases d3:dgB c3=true
    case neg=>rw[numGo_no _ _ _ _ (by simpa using d3)]at h;exact two n h
    obtain⟨l3,u3⟩:=dgB_is d3
    by_cases z2:255<10*(10*(c1.toNat - 48)+(c2.toNat - 48))+(c3.toNat - 48)
    ·rw[numGo_stop _ _ _ _ d3 (Or.inl z2)]at h;exact two n h
    rw[numGo_on _ _ _ _ d3 (by omega)]at h
    have three:∀m,(10*(10*(c1.toNat - 48)+(c2.toNat - 48))+(c3.toNat - 48),1+1+1)=(m,k)→(c1::c2::c3::r3).take k=decD m:=fun m e=>by
     injection e with e1 e2
     subst e1 e2
     rw[decD,if_neg (by omega),if_neg (by omega),u8_back c1 _ (by omega),u8_back c2 _ (by omega),u8_back c3 _ (by omega)]
     rfl
    match r3,h,three with
    |[],h,three=>exact three n h
    |c4::r4,h,three=>
     by_cases d4:dgB c4=true
     case neg=>rw[numGo_no _ _ _ _ (by simpa using d4)]at h;exact three n h
     rw[numGo_stop _ _ _ _ d4 (Or.inl (by omega))]at h
     exact three n h
def dots (y:List Nat):List UInt8:=y.flatMap fun n=>46::decD n
theorem v4Go_back:∀(k:Nat) (l:List Nat) (a:Nat) (s:List UInt8) (x:List Nat),l≠[]→v4Go k l a s=.ok x→∃y,x=l++y∧s=dots y
 |0,l,a,s,x,_,h=>by
  rw[v4Go]at h
  split at h
  ·injection h with h
   exact⟨[],by rw[List.append_nil,h],by assumption⟩
  ·cases h
 |k+1,l,a,s,x,hl,h=>by
  rw[v4Go,if_neg hl]at h
  by_cases hd:s.head?=some 46
  ·rw[if_pos hd]at h
   obtain⟨n,len,hn⟩:∃n len,numGo 0 0 (s.drop 1)=(n,len):=⟨_,_,rfl⟩
   rw[hn]at h
   dsimp only at h
   by_cases h0:len=0
   ·rw[if_pos h0]at h;cases h
   ·rw[if_neg h0]at h
    obtain⟨y,rfl,hy⟩:=v4Go_back k _ _ _ x (by simp) h
    have hb:=num_back _ _ _ hn h0
    refine⟨n::y,by simp,?_⟩
    match s,hd with
    |c::r,hd=>
     simp at hd
     subst hd
     rw[List.drop_one,List.tail_cons]at hy hb
     rw[dots,List.flatMap_cons,←hb]
     show _=46::List.take len r++dots y
     rw[←hy,List.cons_append,List.take_append_drop]
  ·rw[if_neg hd]at h;cases h
theorem joinL_dots:∀(n:Nat) (y:List Nat),joinL [46] ((n::y).map decD)=decD n++dots y
 |n,[]=>by simp[joinL,dots]
 |n,m::y=>by
  have:=joinL_dots m y
  simp only[List.map_cons]at this ⊢
  rw[joinL,this]
  simp[dots]
theorem v4_back (s:List UInt8) (x:List Nat) (h:v4 s=.ok x):print4 x=s:=by
 unfold v4 at h
 rw[v4Go,if_pos rfl]at h
 obtain⟨n,len,hn⟩:∃n len,numGo 0 0 s=(n,len):=⟨_,_,rfl⟩
 rw[hn]at h
 dsimp only at h
 by_cases h0:len=0
 ·rw[if_pos h0]at h;cases h
 ·rw[if_neg h0]at h
  obtain⟨y,rfl,hy⟩:=v4Go_back 3 _ _ _ x (by simp) h
  have hb:=num_back _ _ _ hn h0
  show joinL [46] (([]++[n]++y).map decD)=s
  rw[List.nil_append,List.singleton_append,joinL_dots,←hb,←hy,List.take_append_drop]
theorem bracket_inner (x:List UInt8):((([91]++x++[93]:List UInt8)).drop 1).take (([91]++x++[93]:List UInt8).length - 2)=x:=by
 simp
theorem bracket_last (x:List UInt8):([91]++x++[93]:List UInt8).getLast?=some 93:=by
 rw[List.getLast?_append]
 rfl
theorem colonAt_none:∀{l:List UInt8},(∀c∈l,c≠58)→colonAt l=none
 |[],_=>rfl
 |c::r,h=>by
  rw[colonAt,if_neg (h c (by simp)),colonAt_none fun x hx=>h x (by simp[hx])]
  rfl
theorem colonAt_some:∀{l:List UInt8} {k:Nat},colonAt l=some k→k<l.length∧l[k]?=some 58∧∀c∈l.take k,c≠58
 |[],_,h=>by cases h
 |c::r,k,h=>by
  rw[colonAt]at h
  by_cases hc:c=58
  ·rw[if_pos hc]at h
   injection h with h
   subst h hc
   exact⟨by simp,rfl,fun x hx=>by cases hx⟩
  ·rw[if_neg hc]at h
   cases hr:colonAt r with
   |none=>rw[hr]at h;cases h
   |some j=>
    rw[hr]at h
    simp at h
    subst h
    obtain⟨h1,h2,h3⟩:=colonAt_some hr
    refine⟨by simp;omega,by simpa using h2,fun x hx=>?_⟩
    rw[List.take_succ_cons]at hx
    rcases List.mem_cons.1 hx with rfl|hx
    ·exact hc
    ·exact h3 x hx
theorem decD_digits:∀n:Fin 256,∀c∈decD n.val,dgB c=true:=by decide+kernel
theorem print4_mem (l:List Nat) (h:∀n∈l,n<256):∀c∈print4 l,dgB c=true∨c=46:=by
 match l,h with
 |[],_=>intro c hc;cases hc
 |n::y,h=>
  intro c hc
  unfold print4 at hc
  rw[joinL_dots]at hc
  rcases List.mem_append.1 hc with hc|hc
  ·exact Or.inl (decD_digits ⟨n,h n (by simp)⟩ c hc)
  ·unfold dots at hc
   obtain⟨m,hm,hc⟩:=List.mem_flatMap.1 hc
   rcases List.mem_cons.1 hc with hc|hc
   ·exact Or.inr hc
   ·exact Or.inl (decD_digits ⟨m,h m (by simp[hm])⟩ c hc)
theorem not_six {l:List UInt8} (h:∀c∈l,dgB c=true∨c=46):sixB l=false:=by
 match l,h with
 |[],_=>rfl
 |c::r,h=>
  unfold sixB
  rw[Bool.and_eq_false_iff]
  right
  rw[decide_eq_false_iff_not,List.take_succ_cons]
  intro e
  unfold sml at e
  rw[List.map_cons]at e
  injection e with e _
  rcases h c (by simp) with hc|hc
  ·obtain⟨h1,h2⟩:=dgB_is hc
   unfold smB at e
   rw[if_neg (by omega)]at e
   rw[e]at h2
   revert h2
   decide
  ·rw[hc]at e
   revert e
   decide
theorem decD_len (n:Nat):(decD n).length≤3:=by
 unfold decD
 split
 ·simp
 ·split<;>simp
theorem print4_len (a b c d:Nat):(print4 [a,b,c,d]).length≤15:=by
 have h1:=decD_len a
 have h2:=decD_len b
 have h3:=decD_len c
 have h4:=decD_len d
 simp[print4,joinL]
 omega
theorem joinL_len (sep:List UInt8) (k:Nat) (hs:sep.length=1):∀l:List (List UInt8),(∀x∈l,x.length≤k)→(joinL sep l).length≤l.length*(k+1)
 |[],_=>by simp[joinL]
 |[x],h=>by
  have:=h x (by simp)
  simp[joinL]
  omega
 |x::y::r,h=>by
  have h1:=h x (by simp)
  have h2:=joinL_len sep k hs (y::r) fun z hz=>h z (by simp[hz])
  rw[joinL,List.length_append,List.length_append,hs]
  simp only[List.length_cons]at h2 ⊢
  rw[Nat.add_mul (r.length+1) 1]
  omega
theorem print6_len (a:List Nat) (ha:a.length=16) (hb:∀n∈a,n<256):(print6 a).length≤82:=by
 obtain⟨_,hl,hg⟩:=two_grps a (by rw[ha]) hb
 rw[ha]at hl
 have hx:∀x∈(grpsOf a).map hexD,x.length≤4:=fun x hx=>by
  obtain⟨n,hn,rfl⟩:=List.mem_map.1 hx
  exact(hexD_ok n (hg n hn)).2.2.2
 have hml:((grpsOf a).map hexD).length=8:=by rw[List.length_map];omega
 unfold print6
 generalize (grpsOf a).map hexD=L at hx hml ⊢
 split
 ·have:=joinL_len [58] 4 rfl L hx
  rw[hml]at this
  omega
 ·have h1:=joinL_len [58] 4 rfl (L.take (zeros L).1) fun x h=>hx x (List.mem_of_mem_take h)
  have h2:=joinL_len [58] 4 rfl (L.drop (zeros L).2) fun x h=>hx x (List.mem_of_mem_drop h)
  rw[List.length_take]at h1
  rw[List.length_drop]at h2
  simp only[List.length_append,List.length_cons,List.length_nil]
  have:min (zeros L).1 L.length*(4+1)≤8*5:=by
   rw[hml]
   omega
  have:(L.length - (zeros L).2)*(4+1)≤8*5:=by
   rw[hml]
   omega
  omega
theorem lit_inner (x:List UInt8) (h:x.length≤253):lit ([91]++x++[93])=if sixB x=true then told 6 ⟨3,[],addrOf 16 (v6 (x.drop 5))⟩ (spotOf (v6 (x.drop 5)))
  else match colonAt x with
  |some k=>told 1 ⟨4,x,z16⟩ (tagged x k)
  |none=>told 1 (fourH (addrOf 4 (v4 x))) (spotOf (v4 x)):=by
 unfold lit
 rw[if_neg (by simp;omega),bracket_last,if_neg (by simp),bracket_inner]
 rfl
theorem parse_br (x:List UInt8) (wide:Bool):parse ([91]++x++[93]) wide=lit ([91]++x++[93]):=by
 unfold parse
 rw[if_pos (by simp)]
structure Ho.Ok (h:Ho):Prop where
 len:h.a.length=16
 byt:∀n∈h.a,n<256
theorem back_host (h:Ho) (wide:Bool) (ok:h.Ok) (hc:check h wide=0):∃t,print h=(t,0)∧parse t wide=(h,(0,0))∧t.length≤255∧check h true=0:=by
 have len:=ok.len
 have byt:=ok.byt
 obtain⟨k,n,a⟩:=h
 dsimp only at len byt
 unfold check at hc
 dsimp only at hc
 by_cases h1:k=1
 ·subst h1
  rw[if_pos rfl]at hc
  by_cases ha:a=z16
  ·rw[if_pos ha]at hc
   subst ha
   have hw:=wd_wide hc
   have hck:check ⟨1,n,z16⟩ true=0:=by unfold check;rw[if_pos rfl,if_pos rfl,hw]
   refine⟨n,?_,?_,(wd_ok hc).1,hck⟩
   ·unfold print
    rw[if_pos hck]
    rfl
   ·unfold parse
    rw[if_neg (wd_head hc),if_pos hc]
  ·rw[if_neg ha]at hc;cases hc
 ·rw[if_neg h1]at hc
  by_cases h2:k=2
  ·subst h2
   rw[if_pos rfl]at hc
   by_cases hf:(⟨2,n,a⟩:Ho)=fourH (a.take 4)
   ·have hn:n=[]:=by unfold fourH at hf;injection hf
    have ha:a=a.take 4++List.replicate 12 0:=by unfold fourH at hf;injection hf
    obtain⟨w,x,y,z,hwx⟩:∃w x y z,a.take 4=[w,x,y,z]:=by
     have:(a.take 4).length=4:=by rw[List.length_take];omega
     match a.take 4,this with
     |[w,x,y,z],_=>exact⟨w,x,y,z,rfl⟩
    have hb:∀m∈[w,x,y,z],m<256:=fun m hm=>by rw[←hwx]at hm;exact byt m (List.mem_of_mem_take hm)
    have hck:check ⟨2,n,a⟩ true=0:=by unfold check;rw[if_neg (show ¬(2:Int)=1 by decide),if_pos rfl,if_pos hf]
    refine⟨[91]++print4 (a.take 4)++[93],?_,?_,?_,hck⟩
    ·unfold print
     rw[if_pos hck]
     rfl
    ·rw[hwx,parse_br,lit_inner _ (by have:=print4_len w x y z;omega),not_six (print4_mem _ hb),if_neg (by decide),colonAt_none (fun c hc=>?_)]
     ·have:=v4_print w x y z (hb w (by simp)) (hb x (by simp)) (hb y (by simp)) (hb z (by simp))
      dsimp only
      rw[this]
      show(fourH [w,x,y,z],((0,0):Nat×Nat))=_
      rw[←hwx,←hf]
     ·rcases print4_mem _ hb c hc with h|h
      ·obtain⟨h1,h2⟩:=dgB_is h
       intro e
       rw[e]at h2
       revert h2
       decide
      ·rw[h];decide
    ·rw[hwx]
     have:=print4_len w x y z
     simp only[List.length_append,List.length_cons,List.length_nil]
     omega
   ·rw[if_neg hf]at hc;cases hc
  ·rw[if_neg h2]at hc
   by_cases h3:k=3
   ·subst h3
    rw[if_pos rfl]at hc
    by_cases hn:n=[]
    ·subst hn
     have hck:check ⟨3,[],a⟩ true=0:=rfl
     have hl:=print6_len a len byt
     have e:([91,73,80,118,54,58]++print6 a++[93]:List UInt8)=[91]++([73,80,118,54,58]++print6 a)++[93]:=by simp
     refine⟨[91,73,80,118,54,58]++print6 a++[93],?_,?_,by simp;omega,hck⟩
     ·unfold print
      rw[if_pos hck]
      rfl
     ·rw[e,parse_br,lit_inner _ (by simp;omega),if_pos ?_]
      ·rw[show([73,80,118,54,58]++print6 a:List UInt8).drop 5=print6 a from rfl,v6_print a len byt]
       rfl
      ·show(decide (5≤([73,80,118,54,58]++print6 a:List UInt8).length)&&decide (sml [73,80,118,54,58]=[105,112,118,54,58]))=true
       rw[decide_eq_true (by simp),Bool.true_and]
       decide
    ·rw[if_neg hn]at hc;cases hc
   ·rw[if_neg h3]at hc
    by_cases h4:k=4
    ·subst h4
     rw[if_pos rfl]at hc
     by_cases ha:a=z16
     ·subst ha
      rw[if_pos rfl]at hc
      have hck:check ⟨4,n,z16⟩ true=0:=by unfold check;rw[if_neg (show ¬(4:Int)=1 by decide),if_neg (show ¬(4:Int)=2 by decide),if_neg (show ¬(4:Int)=3 by decide),if_pos rfl,if_pos rfl,hc]
      unfold chTag at hc
      by_cases hl:253<n.length
      ·rw[if_pos hl]at hc;cases hc
      ·rw[if_neg hl]at hc
       cases hk:colonAt n with
       |none=>rw[hk]at hc;cases hc
       |some j=>
        rw[hk]at hc
        dsimp only at hc
        by_cases h6:sixB n=true
        ·rw[if_pos h6]at hc;cases hc
        ·rw[if_neg h6]at hc
         refine⟨[91]++n++[93],?_,?_,by simp;omega,hck⟩
         ·unfold print
          rw[if_pos hck]
          rfl
         ·rw[parse_br,lit_inner _ (by omega),if_neg h6,hk]
          dsimp only
          unfold told
          rw[if_pos hc]
     ·rw[if_neg ha]at hc;cases hc
    ·rw[if_neg h4]at hc;cases hc
theorem told_zero {p:Nat} {h:Ho} {e:Nat×Nat} (h0:(told p h e).2.1=0):e.1=0∧told p h e=(h,(0,0)):=by
 unfold told at*
 by_cases he:e.1=0
 ·rw[if_pos he];exact⟨he,rfl⟩
 ·rw[if_neg he]at h0;exact absurd h0 he
theorem told_err {p:Nat} {h:Ho} {e:Nat×Nat} (h0:(told p h e).2.1≠0):(told p h e).1=ho0∧(told p h e).2.2=p+e.2:=by
 unfold told at*
 by_cases he:e.1=0
 ·rw[if_pos he]at h0;exact absurd rfl h0
 ·rw[if_neg he];exact⟨rfl,rfl⟩
theorem bracket_of {s:List UInt8} (h1:s.head?=some 91) (h2:s.getLast?=some 93):s=[91]++(s.drop 1).take (s.length - 2)++[93]:=by
 match s,h1 with
 |c::r,h1=>
  simp at h1
  subst h1
  have hr:r≠[]:=fun h=>by rw[h]at h2;simp at h2
  rw[List.getLast?_cons,List.getLast?_eq_some_getLast hr]at h2
  simp at h2
  have:=List.dropLast_concat_getLast hr
  rw[h2]at this
  rw[List.drop_one,List.tail_cons,List.length_cons,show r.length+1 - 2=r.length - 1 from by omega,←List.dropLast_eq_take]
  rw[List.append_assoc,this]
  rfl
theorem v4Go_le':∀(k:Nat) (l:List Nat) (a:Nat) (s:List UInt8) (p:Nat),v4Go k l a s=.error p→p≤a+s.length
 |0,l,a,s,p,h=>by
  rw[v4Go]at h
  split at h
  ·cases h
  ·injection h with h;omega
 |k+1,l,a,s,p,h=>by
  have h1:=numGo_le s 0 0 (by omega)
  have h2:=numGo_le (s.drop 1) 0 0 (by omega)
  rw[v4Go]at h
  split at h
  ·split at h
   ·injection h with h;omega
   ·have:=v4Go_le' k _ _ _ p h
    rw[List.length_drop]at this
    omega
  ·split at h
   ·have hs:1≤s.length:=by
     cases s with
     |nil=>rename_i h3;cases h3
     |cons c r=>simp
    rw[List.length_drop]at h2
    split at h
    ·injection h with h;omega
    ·have:=v4Go_le' k _ _ _ p h
     rw[List.length_drop,List.length_drop]at this
     omega
   ·injection h with h;omega
theorem v4_le' (s:List UInt8) (p:Nat) (h:v4 s=.error p):p≤s.length:=by
 have:=v4Go_le' 4 [] 0 s p h
 omega
theorem v4Go_ok':∀(k:Nat) (l:List Nat) (a:Nat) (s:List UInt8) (x:List Nat),(∀n∈l,n<256)→v4Go k l a s=.ok x→x.length=l.length+k∧∀n∈x,n<256
 |0,l,a,s,x,hl,h=>by
  rw[v4Go]at h
  split at h
  ·injection h with h;subst h;exact⟨rfl,hl⟩
  ·cases h
 |k+1,l,a,s,x,hl,h=>by
  have h1:=numGo_le s 0 0 (by omega)
  have h2:=numGo_le (s.drop 1) 0 0 (by omega)
  have key:∀m,m≤255→∀n∈l++[m],n<256:=fun m hm n hn=>by
   rcases List.mem_append.1 hn with hn|hn
   ·exact hl n hn
   ·rw[List.mem_singleton.1 hn];omega
  rw[v4Go]at h
  split at h
  ·split at h
   ·cases h
   ·have:=v4Go_ok' k _ _ _ x (key _ h1.1) h
    rw[List.length_append,List.length_singleton]at this
    exact⟨by omega,this.2⟩
  ·split at h
   ·split at h
    ·cases h
    ·have:=v4Go_ok' k _ _ _ x (key _ h2.1) h
     rw[List.length_append,List.length_singleton]at this
     exact⟨by omega,this.2⟩
   ·cases h
theorem v4_four' (s:List UInt8) (x:List Nat) (h:v4 s=.ok x):∃a b c d,x=[a,b,c,d]∧a<256∧b<256∧c<256∧d<256:=by
 obtain⟨h1,h2⟩:=v4Go_ok' 4 [] 0 s x (fun n hn=>by cases hn) h
 match x,h1 with
 |[a,b,c,d],_=>exact⟨a,b,c,d,rfl,h2 a (by simp),h2 b (by simp),h2 c (by simp),h2 d (by simp)⟩
structure Gs.Fit (g:Gs):Prop where
 lt:∀n∈g.l,n<65536
 le:g.gap=none→g.l.length≤8
 gp:∀k,g.gap=some k→k≤g.l.length∧g.l.length≤6
theorem Gs.Fit.put {g:Gs} {n:Nat} (h:g.Fit) (hn:n<65536) (hr:0<g.room):(g.put n).Fit:=by
 refine⟨fun m hm=>?_,fun e=>?_,fun k e=>?_⟩
 ·rcases List.mem_append.1 hm with hm|hm
  ·exact h.lt m hm
  ·rw[List.mem_singleton.1 hm];exact hn
 ·have e':g.gap=none:=e
  unfold Gs.room at hr
  rw[e']at hr
  simp at hr
  simp[Gs.put]
  omega
 ·have e':g.gap=some k:=e
  have:=h.gp k e'
  unfold Gs.room at hr
  rw[e']at hr
  simp at hr
  simp[Gs.put]
  omega
theorem Gs.Fit.open' {g:Gs} (h:g.Fit) (ho:g.mayOpen=true):g.open'.Fit:=by
 unfold Gs.mayOpen at ho
 simp at ho
 refine⟨h.lt,fun e=>(by cases e),fun k e=>?_⟩
 have:g.l.length=k:=by injection e
 subst this
 exact⟨Nat.le_refl _,ho.2⟩
theorem twoB_len:∀l:List Nat,(twoB l).length=2*l.length
 |[]=>rfl
 |n::r=>by rw[twoB];simp[twoB_len r];omega
theorem twoB_lt:∀l:List Nat,(∀n∈l,n<65536)→∀n∈twoB l,n<256
 |[],_,n,hn=>by cases hn
 |m::r,h,n,hn=>by
  have hm:=h m (by simp)
  rw[twoB]at hn
  rcases List.mem_cons.1 hn with rfl|hn
  ·omega
  ·rcases List.mem_cons.1 hn with rfl|hn
   ·omega
   ·exact twoB_lt r (fun x hx=>h x (by simp[hx])) n hn
theorem Gs.Fit.addr {g:Gs} (h:g.Fit) (hf:g.gap=none→g.l.length=8):g.addr.length=16∧∀n∈g.addr,n<256:=by
 unfold Gs.addr
 have key:g.all.length=8∧∀n∈g.all,n<65536:=by
  unfold Gs.all
  cases hg:g.gap with
  |none=>exact⟨hf hg,h.lt⟩
  |some k=>
   have:=h.gp k hg
   refine⟨by simp;omega,fun n hn=>?_⟩
   simp only[List.mem_append]at hn
   rcases hn with(hn|hn)|hn
   ·exact h.lt n (List.mem_of_mem_take hn)
   ·rw[(List.mem_replicate.1 hn).2];decide
   ·exact h.lt n (List.mem_of_mem_drop hn)
 exact⟨by rw[twoB_len,key.1],twoB_lt _ key.2⟩
theorem hxV_lt:∀c:UInt8,hxB c=true→hxV c<16:=fun c h=>by
 unfold hxB dgB at h
 unfold hxV
 simp only[Bool.or_eq_true,Bool.and_eq_true,decide_eq_true_eq]at h
 split
 ·omega
 ·split<;>omega
theorem hexN_small:∀(l:List UInt8) (n:Nat),(∀c∈l,hxB c=true)→hexN n l<(n+1)*16 ^ l.length
 |[],n,_=>by simp[hexN]
 |c::r,n,h=>by
  have h1:=hxV_lt c (h c (by simp))
  have h2:=hexN_small r (16*n+hxV c) fun x hx=>h x (by simp[hx])
  rw[hexN,List.length_cons,Nat.pow_succ]
  refine Nat.lt_of_lt_of_le h2 ?_
  rw[Nat.mul_comm (16 ^ r.length) 16,←Nat.mul_assoc]
  exact Nat.mul_le_mul_right _ (by omega)
theorem hexSp_hx:∀(l:List UInt8) (k:Nat),k≤hexSp l→∀c∈l.take k,hxB c=true
 |[],k,_,c,hc=>by simp at hc
 |x::r,0,_,c,hc=>by simp at hc
 |x::r,k+1,h,c,hc=>by
  rw[hexSp]at h
  by_cases hx:hxB x=true
  ·rw[if_pos hx]at h
   rw[List.take_succ_cons]at hc
   rcases List.mem_cons.1 hc with rfl|hc
   ·exact hx
   ·exact hexSp_hx r k (by omega) c hc
  ·rw[if_neg hx]at h;omega
theorem hexSp_leP:∀l:List UInt8,hexSp l≤l.length
 |[]=>Nat.le_refl _
 |c::r=>by
  rw[hexSp,List.length_cons]
  have:=hexSp_leP r
  split<;>omega
theorem grpN_lt' (s:List UInt8):grpN s<65536:=by
 unfold grpN
 have h:=hexN_small (s.take (grpL s)) 0 (hexSp_hx s _ (by unfold grpL;omega))
 have hl:(s.take (grpL s)).length≤4:=by rw[List.length_take];unfold grpL;omega
 have hp:16 ^ (s.take (grpL s)).length≤16 ^ 4:=Nat.pow_le_pow_right (by decide) hl
 have:(16:Nat) ^ 4=65536:=by decide
 rw[this]at hp
 rw[Nat.zero_add,Nat.one_mul]at h
 omega
theorem grpL_le (s:List UInt8):grpL s≤s.length:=by
 have:=hexSp_leP s
 unfold grpL
 omega
theorem pairN_lt {s:List UInt8} {x:List Nat} (h:v4 s=.ok x) (k:Nat):pairN x k<65536:=by
 obtain⟨_,h2⟩:=v4Go_ok' 4 [] 0 s x (fun n hn=>by cases hn) h
 have key:∀j,x.getD j 0<256:=fun j=>by
  rw[List.getD_eq_getElem?_getD]
  cases hj:x[j]? with
  |none=>decide
  |some v=>exact h2 v (List.mem_of_getElem? hj)
 have h1:=key k
 have h3:=key (k+1)
 unfold pairN
 omega
theorem whole_full {g:Gs} (h:g.Fit) (hw:g.whole 0=true):g.gap=none→g.l.length=8:=fun hg=>by
 have hle:=h.le hg
 unfold Gs.whole Gs.room at hw
 rw[hg]at hw
 simp at hw
 omega
theorem v6Go_ok:∀(f:Nat) (g:Gs) (a:Nat) (s:List UInt8) (x:List Nat),g.Fit→v6Go f g a s=.ok x→x.length=16∧∀n∈x,n<256
 |0,_,_,_,_,_,h=>by rw[v6Go]at h;cases h
 |f+1,g,a,s,x,hg,h=>by
  rw[v6Go]at h
  split at h
  ·cases h
  ·rename_i h0
   have hr:0<g.room:=by omega
   have hp:(g.put (grpN s)).Fit:=hg.put (grpN_lt' s) hr
   split at h
   ·rename_i hw
    cases hv:v4 s with
    |error p=>rw[hv]at h;cases h
    |ok y=>
     rw[hv]at h
     injection h with h
     subst h
     have hw2:=hw.1
     unfold Gs.whole at hw2
     have h1:(g.put (pairN y 0)).Fit:=hg.put (pairN_lt hv 0) hr
     have hr2:2≤g.room:=by
      simp at hw2
      omega
     refine(h1.put (pairN_lt hv 2) (by rw[Gs.room_put];omega)).addr fun e=>?_
     have e':g.gap=none:=e
     have hle:=hg.le e'
     unfold Gs.room at hw2
     rw[e']at hw2
     simp at hw2
     simp[Gs.put]
     omega
   ·split at h
    ·rename_i hw
     injection h with h
     subst h
     exact hp.addr (whole_full hp hw.2)
    ·split at h
     ·cases h
     ·split at h
      ·split at h
       ·rename_i ho
        have hf:=hp.open' ho
        split at h
        ·injection h with h
         subst h
         exact hf.addr fun e=>by cases e
        ·exact v6Go_ok f _ _ _ x hf h
       ·cases h
      ·exact v6Go_ok f _ _ _ x hp h
theorem v6_ok (s:List UInt8) (x:List Nat) (h:v6 s=.ok x):x.length=16∧∀n∈x,n<256:=by
 unfold v6 at h
 have h0:(⟨[],some 0⟩:Gs).Fit:=⟨fun n hn=>(by cases hn),fun e=>(by cases e),fun k e=>(by injection e with e;subst e;exact⟨Nat.le_refl _,Nat.zero_le _⟩)⟩
 have h1:(⟨[],none⟩:Gs).Fit:=⟨fun n hn=>(by cases hn),fun e=>Nat.zero_le _,fun k e=>(by cases e)⟩
 split at h
 ·split at h
  ·injection h with h
   subst h
   exact h0.addr fun e=>by cases e
  ·exact v6Go_ok _ _ _ _ x h0 h
 ·split at h
  ·cases h
  ·exact v6Go_ok _ _ _ _ x h1 h
theorem v6Go_le:∀(f:Nat) (g:Gs) (a:Nat) (s:List UInt8) (p:Nat),v6Go f g a s=.error p→p≤a+s.length
 |0,_,_,_,_,h=>by rw[v6Go]at h;injection h with h;omega
 |f+1,g,a,s,p,h=>by
  have hl:=grpL_le s
  rw[v6Go]at h
  split at h
  ·injection h with h;omega
  ·split at h
   ·cases hv:v4 s with
    |error q=>
     rw[hv]at h
     injection h with h
     have:=v4_le' s q hv
     omega
    |ok y=>rw[hv]at h;cases h
   ·split at h
    ·cases h
    ·split at h
     ·injection h with h;omega
     ·rename_i h58
      have h1:grpL s+1≤s.length:=by
       rcases Nat.lt_or_ge (grpL s) s.length with h|h
       ·exact h
       ·rw[List.drop_eq_nil_of_le h]at h58
        simp at h58
      split at h
      ·rename_i h59
       have h2:grpL s+2≤s.length:=by
        rcases Nat.lt_or_ge (grpL s+1) s.length with h|h
        ·exact h
        ·rw[List.drop_eq_nil_of_le h]at h59
         simp at h59
       split at h
       ·split at h
        ·cases h
        ·have:=v6Go_le f _ _ _ p h
         rw[List.length_drop]at this
         omega
       ·injection h with h;omega
      ·have:=v6Go_le f _ _ _ p h
       rw[List.length_drop]at this
       omega
theorem v6_le (s:List UInt8) (p:Nat) (h:v6 s=.error p):p≤s.length:=by
 unfold v6 at h
 split at h
 ·rename_i h2
  have hl:2≤s.length:=by
   have:=congrArg List.length h2
   rw[List.length_take]at this
   simp at this
   omega
  split at h
  ·cases h
  ·have:=v6Go_le _ _ _ _ p h
   rw[List.length_drop]at this
   omega
 ·split at h
  ·rename_i h1
   injection h with h
   cases s with
   |nil=>cases h1
   |cons c r=>rw[List.length_cons];omega
  ·have:=v6Go_le _ _ _ _ p h
   omega
theorem tagged_le (t:List UInt8) (k:Nat) (hk:k<t.length):(tagged t k).2≤t.length:=by
 unfold tagged
 have h1:=spB_le lbB (t.take k)
 have h2:=spB_le plB (t.drop (k+1))
 rw[List.length_take]at h1
 rw[List.length_drop]at h2
 split
 ·dsimp only;omega
 ·split
  ·dsimp only;omega
  ·exact Nat.zero_le _
theorem back_text (s:List UInt8) (wide:Bool):((parse s wide).2.1=0→(parse s wide).2=(0,0)∧s.length≤255∧check (parse s wide).1 wide=0∧(parse s wide).1.Ok∧((parse s wide).1.k≠3→print (parse s wide).1=(s,0)))∧((parse s wide).2.1≠0→(parse s wide).1=ho0∧(parse s wide).2.2≤s.length):=by
 have z16ok:∀(k:Int) (n:List UInt8),(⟨k,n,z16⟩:Ho).Ok:=fun k n=>⟨rfl,fun m hm=>by rw[(List.mem_replicate.1 hm).2];decide⟩
 by_cases h91:s.head?=some 91
 ·have hp:parse s wide=lit s:=by unfold parse;rw[if_pos h91]
  rw[hp]
  by_cases hl:255<s.length
  ·have:lit s=(ho0,(82,255)):=by unfold lit;rw[if_pos hl]
   rw[this]
   exact⟨fun h=>absurd h (by decide),fun _=>⟨rfl,Nat.le_of_lt hl⟩⟩
  ·by_cases h93:s.getLast?=some 93
   ·have hbr:=bracket_of h91 h93
    obtain⟨t,ht⟩:∃t,t=(s.drop 1).take (s.length - 2):=⟨_,rfl⟩
    rw[←ht]at hbr
    clear ht
    subst hbr
    have hlt:t.length≤253:=by simp at hl;omega
    have hle:([91]++t++[93]:List UInt8).length=t.length+2:=by simp
    rw[lit_inner t hlt,hle]
    clear hp h91 hl h93
    by_cases h6:sixB t=true
    ·have h5:5≤t.length:=by
      unfold sixB at h6
      simp at h6
      exact h6.1
     rw[if_pos h6]
     cases hv:v6 (t.drop 5) with
     |ok x=>
      obtain⟨h16,hx⟩:=v6_ok _ x hv
      refine⟨fun _=>⟨rfl,by omega,rfl,⟨h16,hx⟩,fun h=>absurd rfl h⟩,fun h=>absurd rfl h⟩
     |error p=>
      have:=v6_le _ p hv
      rw[List.length_drop]at this
      refine⟨fun h=>absurd h (show ¬(82:Nat)=0 by decide),fun _=>⟨rfl,?_⟩⟩
      show 6+p≤_
      omega
    ·rw[if_neg h6]
     cases hk:colonAt t with
     |some k=>
      obtain⟨hk1,hk2,_⟩:=colonAt_some hk
      have hta:=tagged_le t k hk1
      dsimp only
      refine⟨fun h=>?_,fun h=>?_⟩
      ·obtain⟨h0,e⟩:=told_zero h
       rw[e]
       have hct:chTag t=0:=by
        unfold chTag
        rw[if_neg (by omega),hk]
        dsimp only
        rw[if_neg h6,h0]
       have hck:∀b,check ⟨4,t,z16⟩ b=0:=fun b=>by unfold check;rw[if_neg (show ¬(4:Int)=1 by decide),if_neg (show ¬(4:Int)=2 by decide),if_neg (show ¬(4:Int)=3 by decide),if_pos rfl,if_pos rfl,hct]
       refine⟨rfl,by omega,hck wide,z16ok _ _,fun _=>?_⟩
       show print ⟨4,t,z16⟩=_
       unfold print
       rw[if_pos (hck true)]
       rfl
      ·obtain⟨e1,e2⟩:=told_err h
       rw[e1,e2]
       exact⟨rfl,by omega⟩
     |none=>
      dsimp only
      cases hv:v4 t with
      |ok x=>
       obtain⟨a,b,c,d,rfl,ha,hb,hc,hd⟩:=v4_four' t x hv
       have hbk:=v4_back t _ hv
       have hck:∀w,check (fourH [a,b,c,d]) w=0:=fun w=>by
        unfold check
        rw[if_neg (show ¬(fourH [a,b,c,d]).k=1 from(show ¬(2:Int)=1 by decide)),if_pos (show(fourH [a,b,c,d]).k=2 from rfl),if_pos (show fourH [a,b,c,d]=fourH ((fourH [a,b,c,d]).a.take 4) from rfl)]
       refine⟨fun _=>⟨rfl,by omega,hck wide,⟨rfl,fun n hn=>?_⟩,fun _=>?_⟩,fun h=>absurd rfl h⟩
       ·have hn':n∈[a,b,c,d]++List.replicate 12 0:=hn
        simp at hn'
        omega
       ·show print (fourH [a,b,c,d])=_
        unfold print
        rw[if_pos (hck true),←hbk]
        rfl
      |error p=>
       have:=v4_le' t p hv
       refine⟨fun h=>absurd h (show ¬(82:Nat)=0 by decide),fun _=>⟨rfl,?_⟩⟩
       show 1+p≤_
       omega
   ·have:lit s=(ho0,(82,s.length)):=by unfold lit;rw[if_neg hl,if_pos h93]
    rw[this]
    exact⟨fun h=>absurd h (by simp),fun _=>⟨rfl,Nat.le_refl _⟩⟩
 ·by_cases hw:(wd wide s).1=0
  ·have hp:parse s wide=(⟨1,s,z16⟩,(0,0)):=by unfold parse;rw[if_neg h91,if_pos hw]
   rw[hp]
   have hck:∀b,(wd b s).1=0→check ⟨1,s,z16⟩ b=0:=fun b h=>by unfold check;rw[if_pos rfl,if_pos rfl,h]
   refine⟨fun _=>⟨rfl,(wd_ok hw).1,hck wide hw,z16ok _ _,fun _=>?_⟩,fun h=>absurd rfl h⟩
   show print ⟨1,s,z16⟩=_
   unfold print
   rw[if_pos (hck true (by rw[wd_wide hw]))]
   rfl
  ·have hp:parse s wide=(ho0,wd wide s):=by unfold parse;rw[if_neg h91,if_neg hw]
   rw[hp]
   exact⟨fun h=>absurd h hw,fun _=>⟨rfl,wd_le wide s⟩⟩
end Go.Proofs.YtfjpkfhbmldmfaaGreatDoor
