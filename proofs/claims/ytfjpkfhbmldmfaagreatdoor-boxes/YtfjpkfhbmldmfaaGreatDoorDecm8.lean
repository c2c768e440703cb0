/-
  The document's addresses of the fourth kind, in plain mathematics: what is a whole one, and how far a text begins one; it is what V4 tells.
-/
import Derived.Test.YtfjpkfhbmldmfaaGreatDoorDmR
import Derived.Test.YtfjpkfhbmldmfaaGreatDoorRt8
import Derived.Shelf.Strconv.Itoa0
import Derived.Shelf.Strconv.Itoa1
import Derived.Shelf.LaysM
import Derived.Shelf.Strconv.Itoa2
import Derived.Shelf.Strconv.Itoa3
import Derived.Shelf.Small.Bits
import Derived.Test.YtfjpkfhbmldmfaaGreatDoorProg
import Derived.Lib.Walk
import Derived.Lib.ItoaMem
import Derived.Lib.AppendIntMem
import Derived.WalkKit
import Derived.BigCall
import Derived.BigGuard
import Derived.Laws.IdiomStrings
import Derived.Below
namespace Go.Proofs.YtfjpkfhbmldmfaaGreatDoor
def splitB (d:UInt8):List UInt8→List (List UInt8)
 |[]=>[[]]
 |c::r=>if c=d then []::splitB d r else match splitB d r with
  |[]=>[[c]]
  |x::xs=>(c::x)::xs
theorem splitB_ne (d:UInt8):∀s:List UInt8,splitB d s≠[]
 |[]=>by simp[splitB]
 |c::r=>by
  rw[splitB]
  split
  ·simp
  ·split<;>simp
theorem splitB_none (d:UInt8):∀x:List UInt8,(∀c∈x,c≠d)→splitB d x=[x]
 |[],_=>rfl
 |c::r,h=>by
  rw[splitB,if_neg (h c (by simp)),splitB_none d r fun x hx=>h x (by simp[hx])]
theorem splitB_at (d:UInt8):∀(x y:List UInt8),(∀c∈x,c≠d)→splitB d (x++d::y)=x::splitB d y
 |[],y,_=>by rw[List.nil_append,splitB,if_pos rfl]
 |c::r,y,h=>by
  rw[List.cons_append,splitB,if_neg (h c (by simp)),splitB_at d r y fun x hx=>h x (by simp[hx])]
theorem splitB_join (d:UInt8):∀L:List (List UInt8),L≠[]→(∀l∈L,∀c∈l,c≠d)→splitB d (joinL [d] L)=L
 |[],h,_=>absurd rfl h
 |[x],_,h=>splitB_none d x (h x (by simp))
 |x::y::r,_,h=>by
  rw[joinL,List.append_assoc,List.singleton_append,splitB_at d x _ (h x (by simp)),splitB_join d (y::r) (by simp) fun l hl=>h l (by simp[hl])]
theorem joinL_cons2 (d:List UInt8) (x:List UInt8) (L:List (List UInt8)) (h:L≠[]):joinL d (x::L)=x++d++joinL d L:=by
 cases L with
 |nil=>exact absurd rfl h
 |cons y r=>rw[joinL]
theorem joinL_splitB (d:UInt8):∀s:List UInt8,joinL [d] (splitB d s)=s
 |[]=>rfl
 |c::r=>by
  have ih:=joinL_splitB d r
  rw[splitB]
  by_cases hc:c=d
  ·rw[if_pos hc,joinL_cons2 _ _ _ (splitB_ne d r),ih,hc]
   rfl
  ·rw[if_neg hc]
   cases h:splitB d r with
   |nil=>exact absurd h (splitB_ne d r)
   |cons x xs=>
    rw[h]at ih
    dsimp only
    cases xs with
    |nil=>
     have:x=r:=ih
     rw[this]
     rfl
    |cons y ys=>
     rw[joinL]at ih ⊢
     rw[←ih]
     rfl
def decV:Nat→List UInt8→Nat
 |n,[]=>n
 |n,c::r=>decV (10*n+(c.toNat - 48)) r
def dNum (s:List UInt8):Option Nat:=if s≠[]∧s.length≤3∧s.all dgB=true∧decV 0 s≤255∧(s.head?≠some 48∨s=[48]) then some (decV 0 s) else none
theorem dNum_dec:∀n:Fin 256,dNum (decD n.val)=some n.val:=by decide+kernel
theorem dig1 (a:UInt8) (h1:dgB a=true):[a]=decD (a.toNat - 48):=by
 obtain⟨l1,u1⟩:=dgB_is h1
 rw[decD,if_pos (by omega),u8_back a _ (by omega)]
theorem dig2 (a b:UInt8) (h1:dgB a=true) (h2:dgB b=true) (h0:a≠48):[a,b]=decD (10*(a.toNat - 48)+(b.toNat - 48)):=by
 obtain⟨l1,u1⟩:=dgB_is h1
 obtain⟨l2,u2⟩:=dgB_is h2
 have ha:a.toNat≠48:=fun e=>h0 (UInt8.toNat_inj.1 e)
 rw[decD,if_neg (by omega),if_pos (by omega),u8_back a _ (by omega),u8_back b _ (by omega)]
theorem dig3 (a b c:UInt8) (h1:dgB a=true) (h2:dgB b=true) (h3:dgB c=true) (h0:a≠48):[a,b,c]=decD (10*(10*(a.toNat - 48)+(b.toNat - 48))+(c.toNat - 48)):=by
 obtain⟨l1,u1⟩:=dgB_is h1
 obtain⟨l2,u2⟩:=dgB_is h2
 obtain⟨l3,u3⟩:=dgB_is h3
 have ha:a.toNat≠48:=fun e=>h0 (UInt8.toNat_inj.1 e)
 obtain⟨N,hN⟩:∃N,N=10*(10*(a.toNat - 48)+(b.toNat - 48))+(c.toNat - 48):=⟨_,rfl⟩
 rw[←hN]
 have e1:UInt8.ofNat (48+N / 100)=a:=u8_back a _ (by omega)
 have e2:UInt8.ofNat (48+N / 10 % 10)=b:=u8_back b _ (by omega)
 have e3:UInt8.ofNat (48+N % 10)=c:=u8_back c _ (by omega)
 have n1:¬N<10:=by omega
 have n2:¬N<100:=by omega
 unfold decD
 rw[if_neg n1,if_neg n2,e1,e2,e3]
theorem dNum_to (s:List UInt8) (h1:s≠[]) (h2:s.length≤3) (h3:s.all dgB=true) (h5:s.head?≠some 48∨s=[48]):s=decD (decV 0 s):=by
 match s with
 |[]=>exact absurd rfl h1
 |[a]=>
  have:=dig1 a (by simpa using h3)
  show _=decD (10*0+(a.toNat - 48))
  rw[Nat.mul_zero,Nat.zero_add]
  exact this
 |[a,b]=>
  simp only[List.all_cons,List.all_nil,Bool.and_eq_true,Bool.and_true]at h3
  have:=dig2 a b h3.1 h3.2 (fun e=>by rcases h5 with h5|h5<;>simp[e]at h5)
  show _=decD (10*(10*0+(a.toNat - 48))+(b.toNat - 48))
  rw[Nat.mul_zero,Nat.zero_add]
  exact this
 |[a,b,c]=>
  simp only[List.all_cons,List.all_nil,Bool.and_eq_true,Bool.and_true]at h3
  have:=dig3 a b c h3.1 h3.2.1 h3.2.2 (fun e=>by rcases h5 with h5|h5<;>simp[e]at h5)
  show _=decD (10*(10*(10*0+(a.toNat - 48))+(b.toNat - 48))+(c.toNat - 48))
  rw[Nat.mul_zero,Nat.zero_add]
  exact this
 |a::b::c::d::r=>
  simp only[List.length_cons]at h2
  omega
theorem dNum_iff (s:List UInt8) (n:Nat):dNum s=some n↔s=decD n∧n<256:=by
 constructor
 ·intro h
  unfold dNum at h
  by_cases hc:s≠[]∧s.length≤3∧s.all dgB=true∧decV 0 s≤255∧(s.head?≠some 48∨s=[48])
  ·rw[if_pos hc]at h
   obtain⟨h1,h2,h3,h4,h5⟩:=hc
   injection h with h
   rw[←h]
   exact⟨dNum_to s h1 h2 h3 h5,by omega⟩
  ·rw[if_neg hc]at h
   cases h
 ·rintro ⟨rfl,h⟩
  exact dNum_dec ⟨n,h⟩
def whole4 (s:List UInt8):Option (List Nat):=match splitB 46 s with
 |[p,q,r,t]=>match dNum p,dNum q,dNum r,dNum t with
  |some a,some b,some c,some d=>some [a,b,c,d]
  |_,_,_,_=>none
 |_=>none
theorem decD_no46 (n:Nat) (h:n<256):∀c∈decD n,c≠46:=fun c hc e=>by
 have:=decD_digits ⟨n,h⟩ c hc
 rw[e]at this
 revert this
 decide
theorem whole4_print (a b c d:Nat) (ha:a<256) (hb:b<256) (hc:c<256) (hd:d<256):whole4 (print4 [a,b,c,d])=some [a,b,c,d]:=by
 have e:splitB 46 (print4 [a,b,c,d])=[decD a,decD b,decD c,decD d]:=by
  refine splitB_join 46 ([a,b,c,d].map decD) (by simp) ?_
  intro l hl
  simp at hl
  rcases hl with rfl|rfl|rfl|rfl
  ·exact decD_no46 a ha
  ·exact decD_no46 b hb
  ·exact decD_no46 c hc
  ·exact decD_no46 d hd
 unfold whole4
 rw[e]
 dsimp only
 rw[dNum_dec ⟨a,ha⟩,dNum_dec ⟨b,hb⟩,dNum_dec ⟨c,hc⟩,dNum_dec ⟨d,hd⟩]
theorem whole4_is {s:List UInt8} {x:List Nat} (h:whole4 s=some x):∃a b c d,x=[a,b,c,d]∧a<256∧b<256∧c<256∧d<256∧s=print4 x:=by
 have hj:=joinL_splitB 46 s
 unfold whole4 at h
 split at h
 ·rename_i p q r t hs
  rw[hs]at hj
  split at h
  ·rename_i a b c d e1 e2 e3 e4
   injection h with h
   subst h
   obtain⟨p1,l1⟩:=(dNum_iff _ _).1 e1
   obtain⟨p2,l2⟩:=(dNum_iff _ _).1 e2
   obtain⟨p3,l3⟩:=(dNum_iff _ _).1 e3
   obtain⟨p4,l4⟩:=(dNum_iff _ _).1 e4
   refine⟨a,b,c,d,rfl,l1,l2,l3,l4,?_⟩
   rw[←hj,p1,p2,p3,p4]
   rfl
  ·cases h
 ·cases h
theorem whole4_v4 (s:List UInt8) (x:List Nat):whole4 s=some x↔v4 s=.ok x:=by
 constructor
 ·intro h
  obtain⟨a,b,c,d,rfl,ha,hb,hc,hd,rfl⟩:=whole4_is h
  exact v4_print a b c d ha hb hc hd
 ·intro h
  obtain⟨a,b,c,d,rfl,ha,hb,hc,hd⟩:=v4_four' s x h
  rw[←v4_back s _ h]
  exact whole4_print a b c d ha hb hc hd
def rep (c:UInt8):Nat→List UInt8
 |0=>[]
 |k+1=>c::48::rep c k
def begins4 (s:List UInt8):Bool:=[[],[48]].any fun nx=>(List.range 4).any fun k=>(whole4 (s++nx++rep 46 k)).isSome
def longGo (B:List UInt8→Bool) (s:List UInt8):Nat→Nat
 |0=>0
 |n+1=>if B (s.take (n+1))=true then n+1 else longGo B s n
theorem longGo_is (B:List UInt8→Bool) (s:List UInt8) (p:Nat):∀n,p≤n→(p=0∨B (s.take p)=true)→(∀m,p<m→m≤n→B (s.take m)=false)→longGo B s n=p
 |0,h,_,_=>by rw[longGo];omega
 |n+1,h,hb,hn=>by
  rw[longGo]
  by_cases hp:p=n+1
  ·subst hp
   rcases hb with hb|hb
   ·omega
   ·rw[if_pos hb]
  ·rw[if_neg (by rw[hn (n+1) (by omega) (Nat.le_refl _)];decide)]
   exact longGo_is B s p n (by omega) hb fun m h1 h2=>hn m h1 (by omega)
def longest (B:List UInt8→Bool) (s:List UInt8):Nat:=longGo B s (min s.length 46)
theorem numGo_local:∀(s:List UInt8) (n k:Nat) (t:List UInt8),(numGo n k s).2 - k+1≤(numGo n k s).2 - k+1→t.take ((numGo n k s).2 - k+1)=s.take ((numGo n k s).2 - k+1)→numGo n k t=numGo n k s
 |[],n,k,t,_,h=>by
  rw[numGo_nil]at h ⊢
  simp at h
  rw[h,numGo_nil]
 |c::r,n,k,t,_,h=>by
  match t,h with
  |[],h=>simp at h
  |d::u,h=>
   rw[List.take_succ_cons,List.take_succ_cons]at h
   injection h with h1 h2
   subst h1
   by_cases hd:dgB d=true
   ·by_cases hs:255<10*n+(d.toNat - 48)∨(0<k∧n=0)
    ·rw[numGo_stop _ _ _ _ hd hs,numGo_stop _ _ _ _ hd hs]
    ·rw[numGo_on _ _ _ _ hd hs]at h2
     rw[numGo_on _ _ _ _ hd hs,numGo_on _ _ _ _ hd hs]
     have hle:=numGo_le r (10*n+(d.toNat - 48)) (k+1) (by omega)
     refine numGo_local r _ _ u (Nat.le_refl _) ?_
     rw[show(numGo (10*n+(d.toNat - 48)) (k+1) r).2 - (k+1)+1=(numGo (10*n+(d.toNat - 48)) (k+1) r).2 - k from by omega]
     exact h2
   ·rw[numGo_no _ _ _ _ (by simpa using hd),numGo_no _ _ _ _ (by simpa using hd)]
theorem num_local (s t:List UInt8) (n len m:Nat) (h:numGo 0 0 s=(n,len)) (hm:len<m) (ht:t.take m=s.take m):numGo 0 0 t=(n,len):=by
 rw[←h]
 refine numGo_local s 0 0 t (Nat.le_refl _) ?_
 rw[h]
 show t.take (len - 0+1)=s.take (len - 0+1)
 have:=congrArg (List.take (len+1)) ht
 rw[List.take_take,List.take_take,Nat.min_eq_left (by omega)]at this
 exact this
theorem take_drop_eq {s t:List UInt8} {m:Nat} (k:Nat) (h:t.take m=s.take m):(t.drop k).take (m - k)=(s.drop k).take (m - k):=by
 have:=congrArg (List.drop k) h
 rw[List.drop_take,List.drop_take]at this
 exact this
theorem head_local {s t:List UInt8} {m:Nat} (h:t.take m=s.take m) (hm:0<m):t.head?=s.head?:=by
 have h1:∀x:List UInt8,(x.take m).head?=x.head?:=fun x=>by
  cases x with
  |nil=>simp
  |cons c r=>cases m with
   |zero=>omega
   |succ m=>rfl
 rw[←h1 t,←h1 s,h]
theorem num_len (s:List UInt8) (n len:Nat) (h:numGo 0 0 s=(n,len)):len≤3∧len≤s.length:=by
 have hle:=numGo_le s 0 0 (by omega)
 rw[h]at hle
 dsimp only at hle
 refine⟨?_,by omega⟩
 by_cases h0:len=0
 ·omega
 ·have:=num_back s n len h h0
  have:=congrArg List.length this
  rw[List.length_take]at this
  have:=decD_len n
  omega
theorem v4Go_local:∀(k:Nat) (l:List Nat) (a:Nat) (s:List UInt8) (p:Nat),v4Go k l a s=.error p→p<a+s.length→∀t,t.take (p - a+1)=s.take (p - a+1)→v4Go k l a t=.error p
 |0,l,a,s,p,h,hp,t,ht=>by
  rw[v4Go]at h ⊢
  split at h
  ·cases h
  ·injection h with h
   subst h
   have hs:s≠[]:=fun e=>by rw[e]at hp;simp at hp
   have:t≠[]:=fun e=>by
    rw[e,Nat.sub_self]at ht
    cases s with
    |nil=>exact hs rfl
    |cons c r=>simp at ht
   rw[if_neg this]
 |k+1,l,a,s,p,h,hp,t,ht=>by
  rw[v4Go]at h ⊢
  have hle:=v4Go_le' (k+1) l a s p (by rw[v4Go];exact h)
  by_cases hl:l=[]
  ·rw[if_pos hl]at h ⊢
   obtain⟨n,len,hn⟩:∃n len,numGo 0 0 s=(n,len):=⟨_,_,rfl⟩
   have hlen:=num_len s n len hn
   rw[hn]at h
   dsimp only at h
   by_cases h0:len=0
   ·rw[if_pos h0]at h
    injection h with h
    rw[num_local s t n len (p - a+1) hn (by omega) ht]
    dsimp only
    rw[if_pos h0,h]
   ·rw[if_neg h0]at h
    have hge:a+len≤p:=by
     have:=v4Go_ge k _ _ _ p h
     omega
    rw[num_local s t n len (p - a+1) hn (by omega) ht]
    dsimp only
    rw[if_neg h0]
    refine v4Go_local k _ _ _ p h (by rw[List.length_drop];omega) _ ?_
    have:=take_drop_eq len ht
    rw[show p - a+1 - len=p - (a+len)+1 from by omega]at this
    exact this
  ·rw[if_neg hl]at h ⊢
   rw[head_local ht (by omega)]
   by_cases hd:s.head?=some 46
   ·rw[if_pos hd]at h ⊢
    obtain⟨n,len,hn⟩:∃n len,numGo 0 0 (s.drop 1)=(n,len):=⟨_,_,rfl⟩
    have hlen:=num_len _ n len hn
    rw[List.length_drop]at hlen
    have hs1:1≤s.length:=by
     cases s with
     |nil=>cases hd
     |cons c r=>simp
    rw[hn]at h
    dsimp only at h
    have ht1:=take_drop_eq 1 ht
    by_cases h0:len=0
    ·rw[if_pos h0]at h
     injection h with h
     rw[num_local _ (t.drop 1) n len (p - a+1 - 1) hn (by omega) ht1]
     dsimp only
     rw[if_pos h0,h]
    ·rw[if_neg h0]at h
     have hge:a+1+len≤p:=by
      have:=v4Go_ge k _ _ _ p h
      omega
     rw[num_local _ (t.drop 1) n len (p - a+1 - 1) hn (by omega) ht1]
     dsimp only
     rw[if_neg h0]
     refine v4Go_local k _ _ _ p h (by rw[List.length_drop,List.length_drop];omega) _ ?_
     have:=take_drop_eq len ht1
     rw[show p - a+1 - 1 - len=p - (a+1+len)+1 from by omega]at this
     exact this
   ·rw[if_neg hd]at h ⊢
    exact h
where
 v4Go_ge:∀(k:Nat) (l:List Nat) (a:Nat) (s:List UInt8) (p:Nat),v4Go k l a s=.error p→a≤p
 |0,l,a,s,p,h=>by
  rw[v4Go]at h
  split at h
  ·cases h
  ·injection h with h;omega
 |k+1,l,a,s,p,h=>by
  rw[v4Go]at h
  split at h
  ·split at h
   ·injection h with h;omega
   ·have:=v4Go_ge k _ _ _ p h;omega
  ·split at h
   ·split at h
    ·injection h with h;omega
    ·have:=v4Go_ge k _ _ _ p h;omega
   ·injection h with h;omega
theorem v4_local (s:List UInt8) (p:Nat) (h:v4 s=.error p) (hp:p<s.length) (t:List UInt8) (ht:t.take (p+1)=s.take (p+1)):v4 t=.error p:=
 v4Go_local 4 [] 0 s p h (by omega) t (by simpa using ht)
theorem v4Go_err:∀(k:Nat) (l:List Nat) (a:Nat) (s:List UInt8) (p:Nat),l≠[]→v4Go k l a s=.error p→∃y:List Nat,a≤p∧y.length≤k∧(∀n∈y,n<256)∧(s.take (p - a)=dots y∨(y.length<k∧s.take (p - a)=dots y++[46]))
 |0,l,a,s,p,_,h=>by
  rw[v4Go]at h
  split at h
  ·cases h
  ·injection h with h
   subst h
   exact⟨[],Nat.le_refl _,Nat.le_refl _,fun n hn=>(by cases hn),Or.inl (by simp[dots])⟩
 |k+1,l,a,s,p,hl,h=>by
  rw[v4Go,if_neg hl]at h
  by_cases hd:s.head?=some 46
  ·rw[if_pos hd]at h
   match s,hd with
   |c::r,hd=>
    simp at hd
    subst hd
    rw[List.drop_one,List.tail_cons]at h
    obtain⟨n,len,hn⟩:∃n len,numGo 0 0 r=(n,len):=⟨_,_,rfl⟩
    have hle:=numGo_le r 0 0 (by omega)
    rw[hn]at h hle
    dsimp only at h hle
    by_cases h0:len=0
    ·rw[if_pos h0]at h
     injection h with h
     subst h
     refine⟨[],by omega,by simp,fun n hn=>(by cases hn),Or.inr ⟨by simp,?_⟩⟩
     rw[show a+1 - a=1 from by omega]
     rfl
    ·rw[if_neg h0]at h
     obtain⟨y,h1,h2,h3,h4⟩:=v4Go_err k _ _ _ p (by simp) h
     have hb:=num_back r n len hn h0
     have e:(46::r).take (p - a)=46::decD n++(r.drop len).take (p - (a+1+len)):=by
      rw[show p - a=(p - (a+1+len))+len+1 from by omega,List.take_succ_cons,List.cons_append,←hb]
      congr 1
      have:=List.take_add (l:=r) (i:=len) (j:=p - (a+1+len))
      rw[Nat.add_comm]at this
      exact this
     refine⟨n::y,by omega,by simpa using h2,fun m hm=>?_,?_⟩
     ·rcases List.mem_cons.1 hm with rfl|hm
      ·omega
      ·exact h3 m hm
     ·rw[e]
      have ed:dots (n::y)=46::decD n++dots y:=by simp[dots]
      rw[ed]
      rcases h4 with h4|⟨h4,h5⟩
      ·exact Or.inl (by rw[h4])
      ·exact Or.inr ⟨by simpa using h4,by rw[h5,List.append_assoc]⟩
  ·rw[if_neg hd]at h
   injection h with h
   subst h
   exact⟨[],Nat.le_refl _,by simp,fun n hn=>(by cases hn),Or.inl (by simp[dots])⟩
theorem dots_append (x y:List Nat):dots (x++y)=dots x++dots y:=by simp[dots]
theorem dots_zero:∀k,dots (List.replicate k 0)=rep 46 k
 |0=>rfl
 |k+1=>by
  rw[List.replicate_succ,rep]
  have:=dots_zero k
  unfold dots at*
  rw[List.flatMap_cons,this]
  rfl
theorem print_dots (n:Nat) (y:List Nat):print4 (n::y)=decD n++dots y:=joinL_dots n y
theorem whole_dots (n:Nat) (y:List Nat) (hn:n<256) (hy:y.length=3) (h:∀m∈y,m<256):v4 (decD n++dots y)=.ok (n::y):=by
 match y,hy with
 |[b,c,d],_=>
  rw[←print_dots]
  exact v4_print n b c d hn (h b (by simp)) (h c (by simp)) (h d (by simp))
theorem v4_goes (s:List UInt8) (p:Nat) (h:v4 s=.error p):p≤16∧∃nx∈([[],[48]]:List (List UInt8)),∃k,k<4∧∃x,v4 (s.take p++nx++rep 46 k)=.ok x:=by
 unfold v4 at h
 rw[v4Go,if_pos rfl]at h
 obtain⟨n,len,hn⟩:∃n len,numGo 0 0 s=(n,len):=⟨_,_,rfl⟩
 have hle:=numGo_le s 0 0 (by omega)
 rw[hn]at h hle
 dsimp only at h hle
 have hnl:=num_len s n len hn
 by_cases h0:len=0
 ·rw[if_pos h0]at h
  injection h with h
  subst h
  exact⟨by omega,[48],by simp,3,by omega,[0,0,0,0],by rw[List.take_zero];rfl⟩
 ·rw[if_neg h0]at h
  obtain⟨y,h1,h2,h3,h4⟩:=v4Go_err 3 _ _ _ p (by simp) h
  have hb:=num_back s n len hn h0
  have e:s.take p=decD n++(s.drop len).take (p - (0+len)):=by
   rw[←hb]
   have:=List.take_add (l:=s) (i:=len) (j:=p - (0+len))
   rw[show len+(p - (0+len))=p from by omega]at this
   exact this
  have hdl:∀z:List Nat,(dots z).length≤4*z.length:=fun z=>by
   induction z with
   |nil=>simp[dots]
   |cons m z ih=>
    have:dots (m::z)=46::decD m++dots z:=by simp[dots]
    rw[this]
    have:=decD_len m
    simp
    omega
  have hnn:n<256:=by omega
  have hz:∀j,∀m∈y++List.replicate j 0,m<256:=fun j m hm=>by
   rcases List.mem_append.1 hm with hm|hm
   ·exact h3 m hm
   ·rw[(List.mem_replicate.1 hm).2];decide
  have hbd:p≤len+(dots y).length+1:=by
   have hl:=v4Go_le' _ _ _ _ _ h
   rw[List.length_drop]at hl
   have:((s.drop len).take (p - (0+len))).length=p - len:=by
    rw[List.length_take,List.length_drop]
    omega
   rcases h4 with h4|⟨_,h4⟩
   ·rw[h4]at this;omega
   ·rw[h4,List.length_append]at this
    simp at this
    omega
  have:=hdl y
  refine⟨by omega,?_⟩
  rcases h4 with h4|⟨h5,h4⟩
  ·refine⟨[],by simp,3 - y.length,by omega,n::(y++List.replicate (3 - y.length) 0),?_⟩
   ·rw[e,h4,List.append_nil,List.append_assoc,←dots_zero,←dots_append]
    exact whole_dots n _ hnn (by simp;omega) (hz _)
  ·refine⟨[48],by simp,2 - y.length,by omega,n::(y++List.replicate (3 - y.length) 0),?_⟩
   ·have:(([46]:List UInt8)++[48])++rep 46 (2 - y.length)=rep 46 (3 - y.length):=by
     rw[show 3 - y.length=(2 - y.length)+1 from by omega,rep]
     rfl
    rw[e,h4]
    simp only[List.append_assoc]at this ⊢
    rw[this,←dots_zero,←dots_append]
    exact whole_dots n _ hnn (by simp;omega) (hz _)
theorem begins4_iff (s:List UInt8):begins4 s=true↔∃nx∈([[],[48]]:List (List UInt8)),∃k,k<4∧∃x,v4 (s++nx++rep 46 k)=.ok x:=by
 unfold begins4
 rw[List.any_eq_true]
 constructor
 ·rintro ⟨nx,h1,h2⟩
  rw[List.any_eq_true]at h2
  obtain⟨k,hk,h3⟩:=h2
  rw[Option.isSome_iff_exists]at h3
  obtain⟨x,h3⟩:=h3
  exact⟨nx,h1,k,List.mem_range.1 hk,x,(whole4_v4 _ _).1 h3⟩
 ·rintro ⟨nx,h1,k,hk,x,h3⟩
  refine⟨nx,h1,List.any_eq_true.2 ⟨k,List.mem_range.2 hk,?_⟩⟩
  rw[(whole4_v4 _ _).2 h3]
  rfl
def dV4 (s:List UInt8):Except Nat (List Nat):=match whole4 s with
 |some x=>.ok x
 |none=>.error (longest begins4 s)
theorem long4 (s:List UInt8) (p:Nat) (h:v4 s=.error p):longest begins4 s=p:=by
 have hle:=v4_le' s p h
 obtain⟨h46,hg⟩:=v4_goes s p h
 refine longGo_is begins4 s p _ (by omega) (Or.inr ((begins4_iff _).2 hg)) fun m h1 h2=>?_
 cases hb:begins4 (s.take m) with
 |false=>rfl
 |true=>
  obtain⟨nx,_,k,_,x,hx⟩:=(begins4_iff _).1 hb
  have:=v4_local s p h (by omega) (s.take m++nx++rep 46 k) (by
   rw[List.append_assoc,List.take_append_of_le_length (by rw[List.length_take];omega),List.take_take,Nat.min_eq_left (by omega)])
  rw[hx]at this
  cases this
theorem dV4_is (s:List UInt8):dV4 s=v4 s:=by
 unfold dV4
 cases h:v4 s with
 |ok x=>rw[(whole4_v4 s x).2 h]
 |error p=>
  have:whole4 s=none:=by
   cases hw:whole4 s with
   |none=>rfl
   |some x=>rw[(whole4_v4 s x).1 hw]at h;cases h
  rw[this,long4 s p h]
open Go.RowKit
theorem decV_nil (n:Nat):decV n []=n:=rfl
theorem decV_cons (n:Nat) (c:UInt8) (r:List UInt8) (k:Nat) (hk:10*n+(c.toNat - 48)=k):decV n (c::r)=decV k r:=by
 subst hk
 kernel_rfl
theorem decV_snoc (l:List UInt8) (c:UInt8):∀n:Nat,decV n (l++[c])=10*decV n l+(c.toNat - 48):=by
 induction l with
 |nil=>
  intro n
  rw[List.nil_append,decV_cons n c [] _ rfl,decV_nil,decV_nil]
 |cons d l ih=>intro n;rw[List.cons_append,decV_cons n d (l++[c]) _ rfl,decV_cons n d l _ rfl,ih]
theorem dNum_no {s:List UInt8} (h:¬(s≠[]∧s.length≤3∧s.all dgB=true∧decV 0 s≤255∧(s.head?≠some 48∨s=[48]))):dNum s=none:=if_neg h
theorem dNum_yes {s:List UInt8} (h:s≠[]∧s.length≤3∧s.all dgB=true∧decV 0 s≤255∧(s.head?≠some 48∨s=[48])):dNum s=some (decV 0 s):=if_pos h
def NumA (s:List UInt8) (v:Value):Prop:=∃x:Int,v=.tuple #[.int .i64 x,.bool (dNum s).isSome]∧∀n,dNum s=some n→x=(n:Int)
theorem NumA.no {s:List UInt8} (h:dNum s=none) (x:Int):NumA s (.tuple #[.int .i64 x,.bool false]):=⟨x,by rw[h];rfl,fun n e=>by rw[h]at e;cases e⟩
theorem NumA.yes {s:List UInt8} {n:Nat} (h:dNum s=some n):NumA s (.tuple #[.int .i64 (n:Int),.bool true]):=⟨n,by rw[h];rfl,fun m e=>by rw[h]at e;cases e;rfl⟩
set_option maxHeartbeats 4000000 in
set_option maxRecDepth 100000 in
theorem rnum_any (s:ByteArray) (w:World) (hs:s.size≤maxLen):Calls Tryz.prog 191 #[.string s] w fun e w'=>∃v,e=.returned v∧NumA s.data.toList v∧w'=w:=by
 unfold maxLen at hs
 have HD:Hid (∀c:UInt8,∀w:World,Calls Tryz.prog 133 #[.int .u8 (c.toNat:Int)] w fun e w'=>e=.returned (.bool (dgB c))∧w'=w):=digit_any
 go_enter Tryz.func191,Tryz.ntmps191
 go_wp2_with fail
 go_loopw [4,5] (fun u c wr=>∃i n:Nat,i≤s.size∧i≤3∧n≤999∧u=.int .i64 n∧c=.int .i64 i∧Hid (AllF dgB s 0 i)∧Hid (n=decV 0 (s.data.toList.take i))∧Hid (10 ^ (3 - i)*(n+1)≤1000)∧Hid (wr=w)) (fun _ c _=>s.size - (intOf c).toNat)
 case atStart=>exact⟨0,0,Nat.zero_le _,by omega,by omega,rfl,rfl,AllF.none _ _ _,rfl,by show 10 ^ (3 - 0)*(0+1)≤1000;decide,rfl⟩
 case round=>
  obtain⟨i,n,hi,hi3,hn,rfl,rfl,HA,HN,HP,HV⟩:=hrel
  obtain rfl:w=wr:=HV.out.symm
  clear HV
  by_cases hlt:i<s.size
  ·have hlt':(i:Int)<(s.size:Int):=by omega
   have HD1:=HD.out s[i] w
   have HL:Hid (s.data.toList[i]?=some s[i]):=by show _=_;rw[List.getElem?_eq_getElem (by rw[len_list];exact hlt),get_list]
   have HX:Hid (dgB s[i]=false→dNum s.data.toList=none):=fun h=>dNum_no fun hh=>by
    have:=List.all_eq_true.1 hh.2.2.1 s[i] (List.mem_of_getElem? HL.out)
    rw[h]at this
    cases this
   have HY:Hid (i=3→dNum s.data.toList=none):=fun h=>dNum_no fun hh=>by
    have:=hh.2.1
    rw[len_list]at this
    omega
   have HZ:Hid (dgB s[i]=true→48≤s[i].toNat∧s[i].toNat≤57∧AllF dgB s 0 (i+1)∧10*n+(s[i].toNat - 48)=decV 0 (s.data.toList.take (i+1))):=fun h=>by
    have h2:=h
    unfold dgB at h2
    rw[Bool.and_eq_true,decide_eq_true_eq,decide_eq_true_eq]at h2
    refine⟨h2.1,h2.2,HA.out.step hlt h,?_⟩
    have hl:i<s.data.toList.length:=by rw[len_list];exact hlt
    rw[List.take_succ_eq_append_getElem hl,decV_snoc,←HN.out,get_list]
   clear HD HL
   obtain⟨d,hd⟩:∃d,d=dgB s[i]:=⟨_,rfl⟩
   rw[←hd]at HD1 HX HZ
   clear hd
   cases d
   ·have HT:=HX.out rfl
    clear HX HY HZ
    go_wp2_with fail
    refine HD1.mono ?_
    rintro e w1 ⟨rfl,rfl⟩
    go_wp2_with fail
    refine bodyPost_ret (v:=.tuple #[.int .i64 0,.bool false]) (by simp[results,Tryz.results191,go_sem]) rfl ⟨_,rfl,NumA.no HT 0,rfl⟩
   ·obtain⟨z1,z2,z3,z4⟩:=HZ.out rfl
    have HZ3:Hid (AllF dgB s 0 (i+1)):=z3
    by_cases h3:i=3
    ·have HT:=HY.out h3
     have h3':(3:Int)≤(i:Int):=by omega
     clear HX HY HZ z3 z4 h3
     go_wp2_with fail
     refine HD1.mono ?_
     rintro e w1 ⟨rfl,rfl⟩
     go_wp2_with fail
     refine bodyPost_ret (v:=.tuple #[.int .i64 0,.bool false]) (by simp[results,Tryz.results191,go_sem]) rfl ⟨_,rfl,NumA.no HT 0,rfl⟩
    ·have h3':¬(3:Int)≤(i:Int):=by omega
     have HZ4:Hid (10*n+(s[i].toNat - 48)=decV 0 (s.data.toList.take (i+1))):=z4
     have hn99:n≤99:=by
      have:=HP.out
      have h4:3 - i=(2 - i)+1:=by omega
      rw[h4,Nat.pow_succ]at this
      have h5:1≤10 ^ (2 - i):=Nat.pow_pos (by omega)
      have h6:1*10*(n+1)≤10 ^ (2 - i)*10*(n+1):=Nat.mul_le_mul_right _ (Nat.mul_le_mul_right _ h5)
      omega
     have HP2:Hid (10 ^ (3 - (i+1))*(10*n+(s[i].toNat - 48)+1)≤1000):=by
      have:=HP.out
      have h4:3 - i=3 - (i+1)+1:=by omega
      rw[h4,Nat.pow_succ,Nat.mul_assoc]at this
      exact Nat.le_trans (Nat.mul_le_mul_left _ (by omega)) this
     clear HX HY HZ z3 z4
     go_wp2_with fail
     refine HD1.mono ?_
     rintro e w1 ⟨rfl,rfl⟩
     go_wp2_with fail
     go_roundw
     case rel=>exact⟨i+1,10*n+(s[i].toNat - 48),by omega,by omega,by omega,by go_num,by go_num,HZ3,HZ4,HP2,trivial⟩
     case measure=>simp[intOf];omega
  ·obtain rfl:i=s.size:=by omega
   have hlt':¬(s.size:Int)<(s.size:Int):=by omega
   have HE:Hid (n=decV 0 s.data.toList):=by
    have:=HN.out
    rw[List.take_of_length_le (by rw[len_list];omega)]at this
    exact this
   have HALL:Hid (s.data.toList.all dgB=true):=by
    show _=_
    rw[List.all_eq_true]
    intro c hc
    obtain⟨j,hj,rfl⟩:=List.getElem_of_mem hc
    rw[get_list]
    exact HA.out j _ (Nat.zero_le _) (by rw[len_list]at hj;exact hj)
   clear HA HN HP HD
   by_cases he:s.data.toList=[]
   ·have HT:dNum s.data.toList=none:=dNum_no fun h=>h.1 he
    have hem:s.toList.isEmpty=true:=by rw[ByteArray.toList_eq,he];rfl
    clear he HE HALL
    go_wp2_with fail
    refine bodyPost_ret (v:=.tuple #[.int .i64 (n:Int),.bool false]) (by simp[results,Tryz.results191,go_sem]) rfl ⟨_,rfl,NumA.no HT _,rfl⟩
   ·have hem:s.toList.isEmpty=false:=by rw[ByteArray.toList_eq];cases hq:s.data.toList with
     |nil=>exact absurd hq he
     |cons c r=>rfl
    have h0:0<s.size:=by
     rcases Nat.eq_zero_or_pos s.size with h|h
     ·exact absurd (List.eq_nil_of_length_eq_zero (by rw[len_list];exact h)) he
     ·exact h
    have hhead:s.data.toList.head?=some s[0]:=by
     rw[List.head?_eq_getElem?,List.getElem?_eq_getElem (by rw[len_list];exact h0),get_list]
    by_cases h255:n≤255
    ·have h255':(n:Int)≤255:=by omega
     obtain⟨e48,n48⟩:=b_eq s[0] 48 48 rfl
     have h0':(0:Int)<(s.size:Int):=by omega
     by_cases h48:s[0]=48
     ·rw[decide_eq_true h48]at e48 n48
      by_cases h1:s.data.toList=[48]
      ·have HT:dNum s.data.toList=some n:=by rw[HE.out];exact dNum_yes ⟨he,by rw[len_list];exact hi3,HALL.out,by rw[←HE.out];exact h255,.inr h1⟩
       have hq:(s.toList==[48])=true:=by rw[ByteArray.toList_eq,h1];rfl
       clear h1 he HE HALL hhead h48
       go_wp2_with fail
       refine bodyPost_ret (v:=.tuple #[.int .i64 (n:Int),.bool true]) (by simp[results,Tryz.results191,go_sem]) rfl ⟨_,rfl,NumA.yes HT,rfl⟩
      ·have HT:dNum s.data.toList=none:=dNum_no fun h=>h.2.2.2.2.elim (fun h=>h (by rw[hhead,h48])) h1
       have hq:(s.toList==[48])=false:=by rw[ByteArray.toList_eq,beq_eq_false_iff_ne];exact h1
       clear h1 he HE HALL hhead h48
       go_wp2_with fail
       refine bodyPost_ret (v:=.tuple #[.int .i64 (n:Int),.bool false]) (by simp[results,Tryz.results191,go_sem]) rfl ⟨_,rfl,NumA.no HT _,rfl⟩
     ·rw[decide_eq_false h48]at e48 n48
      have HT:dNum s.data.toList=some n:=by rw[HE.out];exact dNum_yes ⟨he,by rw[len_list];exact hi3,HALL.out,by rw[←HE.out];exact h255,.inl (by rw[hhead];simpa using h48)⟩
      clear he HE HALL hhead h48
      go_wp2_with fail
      refine bodyPost_ret (v:=.tuple #[.int .i64 (n:Int),.bool true]) (by simp[results,Tryz.results191,go_sem]) rfl ⟨_,rfl,NumA.yes HT,rfl⟩
    ·have h255':¬(n:Int)≤255:=by omega
     have HT:dNum s.data.toList=none:=dNum_no fun h=>h255 (by rw[HE.out];exact h.2.2.2.1)
     clear he HE HALL hhead
     go_wp2_with fail
     refine bodyPost_ret (v:=.tuple #[.int .i64 (n:Int),.bool false]) (by simp[results,Tryz.results191,go_sem]) rfl ⟨_,rfl,NumA.no HT _,rfl⟩
end Go.Proofs.YtfjpkfhbmldmfaaGreatDoor
namespace Go.Proofs
def Tryz.lays283_ren:Go.Shelf.Ren:=⟨fun|283=>211|n=>n,fun|3=>3|9=>9|4=>4|n=>n,fun|n=>n⟩
theorem Tryz.lays283:Go.Proofs.Lays.n283 Tryz.prog Tryz.lays283_ren:={
 mixed:=by kernel_rfl
 f283:=Tryz.func211.trans (congrArg some (by kernel_rfl))
 t3:=Tryz.underlying3
 a3:=Tryz.isAgg3
 z3:=Tryz.sizeOf3
 v3:=Tryz.zeroValue3
 t4:=Tryz.underlying4
 a4:=Tryz.isAgg4
 z4:=Tryz.sizeOf4
 v4:=Tryz.zeroValue4
 t9:=Tryz.underlying9
 a9:=Tryz.isAgg9
 z9:=Tryz.sizeOf9
 v9:=Tryz.zeroValue9}
open Go.Lib in
theorem Tryz.internal_strconv_small (i:Nat) (h:i<100) (w:World):
 Calls Tryz.prog 211 #[.int .i64 i] w fun e w'=>e=.returned (.string ⟨(Lib.decDigits i).toArray⟩)∧w'=w:=Any.internal_strconv_small Tryz.lays283 i h w
def Tryz.laysM284_ren:Go.Shelf.Ren:=⟨fun|284=>212|129=>230|317=>229|318=>231|n=>n,fun|53=>153|3=>3|212=>236|0=>0|4=>4|46=>155|5=>5|9=>9|n=>n,fun|17=>5|n=>n⟩
theorem Tryz.laysM284:Go.Proofs.LaysM.n284 Tryz.prog Tryz.laysM284_ren:={
 mixed:=by kernel_rfl
 f129:=Tryz.func230.trans (congrArg some (by kernel_rfl))
 f284:=Tryz.func212.trans (congrArg some (by kernel_rfl))
 f317:=Tryz.func229.trans (congrArg some (by kernel_rfl))
 f318:=Tryz.func231.trans (congrArg some (by kernel_rfl))
 t0:=Tryz.underlying0
 a0:=Tryz.isAgg0
 z0:=Tryz.sizeOf0
 v0:=Tryz.zeroValue0
 t3:=Tryz.underlying3
 a3:=Tryz.isAgg3
 z3:=Tryz.sizeOf3
 v3:=Tryz.zeroValue3
 t4:=Tryz.underlying4
 a4:=Tryz.isAgg4
 z4:=Tryz.sizeOf4
 v4:=Tryz.zeroValue4
 t5:=Tryz.underlying5
 a5:=Tryz.isAgg5
 z5:=Tryz.sizeOf5
 v5:=Tryz.zeroValue5
 t9:=Tryz.underlying9
 a9:=Tryz.isAgg9
 z9:=Tryz.sizeOf9
 v9:=Tryz.zeroValue9
 t46:=Tryz.underlying155
 a46:=Tryz.isAgg155
 z46:=Tryz.sizeOf155
 v46:=Tryz.zeroValue155
 t53:=Tryz.underlying153
 a53:=Tryz.isAgg153
 z53:=Tryz.sizeOf153
 v53:=Tryz.zeroValue153
 t212:=Tryz.underlying236
 a212:=Tryz.isAgg236
 z212:=Tryz.sizeOf236
 v212:=Tryz.zeroValue236
 g17:=by kernel_rfl
 i0:=by kernel_rfl
 i3:=by kernel_rfl
 i4:=by kernel_rfl
 i5:=by kernel_rfl
 i9:=by kernel_rfl
 i46:=by kernel_rfl
 i53:=by kernel_rfl
 i212:=by kernel_rfl
 m17:=by kernel_rfl}
open Go.Lib in
theorem Tryz.internal_strconv_numDigits (u:Nat) (h1:1≤u) (h2:u<18446744073709551616) (w:World) (htab:Lib.TabIs Tryz.prog w "internal/strconv.uint64pow10" .u64 Lib.pow10Tab):
 Calls Tryz.prog 212 #[.int .u64 u] w fun e w'=>e=.returned (.int .i64 (Lib.nDigits u))∧w'=w:=Any.internal_strconv_numDigits Tryz.laysM284 u h1 h2 w htab
def Tryz.lays285_ren:Go.Shelf.Ren:=⟨fun|285=>213|n=>n,fun|37=>98|53=>153|3=>3|4=>4|51=>237|9=>9|5=>5|0=>0|n=>n,fun|n=>n⟩
theorem Tryz.lays285:Go.Proofs.Lays.n285 Tryz.prog Tryz.lays285_ren:={
 mixed:=by kernel_rfl
 f285:=Tryz.func213.trans (congrArg some (by kernel_rfl))
 t0:=Tryz.underlying0
 a0:=Tryz.isAgg0
 z0:=Tryz.sizeOf0
 v0:=Tryz.zeroValue0
 t3:=Tryz.underlying3
 a3:=Tryz.isAgg3
 z3:=Tryz.sizeOf3
 v3:=Tryz.zeroValue3
 t4:=Tryz.underlying4
 a4:=Tryz.isAgg4
 z4:=Tryz.sizeOf4
 v4:=Tryz.zeroValue4
 t5:=Tryz.underlying5
 a5:=Tryz.isAgg5
 z5:=Tryz.sizeOf5
 v5:=Tryz.zeroValue5
 t9:=Tryz.underlying9
 a9:=Tryz.isAgg9
 z9:=Tryz.sizeOf9
 v9:=Tryz.zeroValue9
 t37:=Tryz.underlying98
 a37:=Tryz.isAgg98
 z37:=Tryz.sizeOf98
 v37:=Tryz.zeroValue98
 t51:=Tryz.underlying237
 a51:=Tryz.isAgg237
 z51:=Tryz.sizeOf237
 v51:=Tryz.zeroValue237
 t53:=Tryz.underlying153
 a53:=Tryz.isAgg153
 z53:=Tryz.sizeOf153
 v53:=Tryz.zeroValue153}
open Go.RowKit Go.Sort Go.Lib in
theorem Tryz.internal_strconv_formatBase10 (blk off cap:Nat) (u:Nat) (d:Array UInt8) (w:World) (hH:Holds (fun (b:UInt8)=>Value.int .u8 (b.toNat:Int)) w blk off d) (hu:u<10 ^ d.size) (hu64:u<18446744073709551616) (hsz:d.size<4611686018427387904):
 Calls Tryz.prog 213 #[.slice (some ⟨blk,off,none⟩) d.size cap,.int .u64 u] w fun e w'=>
  e=.returned (.tuple #[])∧∃(n v':Nat) (dk:Array UInt8),w'=(putRow (fun (b:UInt8)=>Value.int .u8 (b.toNat:Int)) w blk off dk).drewN n∧FmtInv d.size u 0 v' dk:=Any.internal_strconv_formatBase10 Tryz.lays285 blk off cap u d w hH hu hu64 hsz
end Go.Proofs
namespace Go.Proofs.YtfjpkfhbmldmfaaGreatDoor
open Go.RowKit Go.Sort Go.Lib
def PowTab (w:World):Prop:=Lib.TabIs Tryz.prog w "internal/strconv.uint64pow10" .u64 Lib.pow10Tab
set_option maxHeartbeats 6400000 in
set_option maxRecDepth 100000 in
theorem ifmt_small (u:Nat) (hu:u<100) (w:World):
  Calls Tryz.prog 179 #[.int .u64 (u:Int),.int .i64 10] w fun e w'=>e=.returned (.string ⟨(Lib.decDigits u).toArray⟩)∧Below w.heap.size w w':=by
 go_enter Tryz.func179,Tryz.ntmps179
 go_wp2_with (go_at_call 211;refine(Tryz.internal_strconv_small u hu _).mono ?_;rintro e w' ⟨rfl,rfl⟩)
 go_ret
 exact⟨rfl,Below.refl _ _⟩
set_option maxHeartbeats 6400000 in
set_option maxRecDepth 100000 in
theorem ifmt_big (u:Nat) (hu:100≤u) (hu64:u<18446744073709551616) (w:World) (htab:PowTab w):
  Calls Tryz.prog 179 #[.int .u64 (u:Int),.int .i64 10] w fun e w'=>e=.returned (.string ⟨(Lib.decDigits u).toArray⟩)∧Below w.heap.size w w':=by
 have hu1:1≤u:=by omega
 have hnd20:Lib.nDigits u≤20:=by have:=Lib.numDigits_eq u hu1 hu64;split at this<;>omega
 have hal:Tryz.prog.arrayLen 211=24:=by simp[Program.arrayLen,Tryz.underlying211]
 have hsl:∀W,(Instr.sliceAt 211 (.pointer (some ⟨w.heap.size,0,none⟩)) none (some (.int .i64 (Lib.nDigits u:Int))) none).run Tryz.prog W=.ok (.slice (some ⟨w.heap.size,0,none⟩) (Lib.nDigits u) 24) W:=fun W=>by
  rw[run_sliceAt_array_h W 211 ⟨w.heap.size,0,none⟩ (by simp[Program.arrayLen,Program.elem,Tryz.underlying211]) .i64 (Lib.nDigits u:Int) (by omega) (by rw[hal];omega)]
  go_simp
 have hH0:=Lib.holds_zero0 w 211 (Lib.nDigits u) (by omega)
 have hfmt:=Tryz.internal_strconv_formatBase10 w.heap.size 0 24 u (Array.replicate (Lib.nDigits u) 0) (w.alloc (.cells Lib.zeros24 211)) hH0 (by rw[Array.size_replicate];exact Lib.lt_pow_nDigits u) hu64 (by rw[Array.size_replicate];omega)
 rw[Array.size_replicate]at hfmt
 have HH0:=Lib.hid hH0
 have iu:(100:Int)≤(u:Int):=by omega
 clear hH0 hal
 have HTAB:Hid (PowTab w):=htab
 clear htab
 go_enter Tryz.func179,Tryz.ntmps179
 go_wp2_with (go_at_call 212;refine(Tryz.internal_strconv_numDigits u hu1 hu64 _ (Lib.tabIs_alloc HTAB.out _)).mono ?_;rintro e w' ⟨rfl,rfl⟩)
 refine hfmt.mono ?_
 rintro e w' ⟨rfl,k,v',dk,rfl,hF⟩
 have hcv:(convert 98 9 (.slice (some ⟨w.heap.size,0,none⟩) (Lib.nDigits u) 24)).run Tryz.prog ((putRow (fun (b:UInt8)=>Value.int .u8 (b.toNat:Int)) (w.alloc (.cells Lib.zeros24 211)) w.heap.size 0 dk).drewN k)=.ok (.string ⟨(Lib.decDigits u).toArray⟩) ((putRow (fun (b:UInt8)=>Value.int .u8 (b.toNat:Int)) (w.alloc (.cells Lib.zeros24 211)) w.heap.size 0 dk).drewN k):=by
  have h:=run_convert_bytes_back (P:=Tryz.prog) ((putRow (fun (b:UInt8)=>Value.int .u8 (b.toNat:Int)) (w.alloc (.cells Lib.zeros24 211)) w.heap.size 0 dk).drewN k) 98 9 5 ⟨w.heap.size,0,none⟩ 24 (Lib.decDigits u) Tryz.underlying98 Tryz.underlying5 Tryz.underlying9 (fun j hj=>by
   rw[Lib.row_is_numeral hF j hj,Lib.add_plain,World.cell?_drewN]
   exact cell?_putRow (fun (b:UInt8)=>Value.int .u8 (b.toNat:Int)) _ w.heap.size 0 _ dk HH0.out (by rw[hF.size,Array.size_replicate]) j (by rw[hF.size];rw[Lib.decDigits_length]at hj;exact hj))
  rw[Lib.decDigits_length]at h
  exact h
 obtain⟨os,eo⟩:=Lib.fin_at w (.cells Lib.zeros24 211) dk k 0
 have HB:Hid (Below w.heap.size w ((putRow (fun (b:UInt8)=>Value.int .u8 (b.toNat:Int)) (w.alloc (.cells Lib.zeros24 211)) w.heap.size 0 dk).drewN k)):=by
  show Below _ _ _
  rw[eo]
  exact Lib.below_grow w.heap.size w (Nat.le_refl _) k os
 generalize (putRow (fun (b:UInt8)=>Value.int .u8 (b.toNat:Int)) (w.alloc (.cells Lib.zeros24 211)) w.heap.size 0 dk).drewN k=W2 at hcv HB ⊢
 clear eo HH0 hfmt
 go_wp2
 go_ret
 exact⟨rfl,HB.out⟩
set_option maxHeartbeats 1000000 in
theorem decm_any (n:Nat) (hn:n<18446744073709551616) (w:World) (htab:PowTab w):
  Calls Tryz.prog 147 #[.int .u64 (n:Int)] w fun e w'=>e=.returned (.string ⟨(Lib.decDigits n).toArray⟩)∧Below w.heap.size w w':=by
 have h:∀w,PowTab w→Calls Tryz.prog 179 #[.int .u64 (n:Int),.int .i64 10] w fun e w'=>e=.returned (.string ⟨(Lib.decDigits n).toArray⟩)∧Below w.heap.size w w':=fun w ht=>by
  by_cases hs:n<100
  ·exact ifmt_small n hs w
  ·exact ifmt_big n (by omega) hn w ht
 have HTAB:Hid (PowTab w):=htab
 clear htab
 have HH:Hid (∀w,PowTab w→Calls Tryz.prog 179 #[.int .u64 (n:Int),.int .i64 10] w fun e w'=>e=.returned (.string ⟨(Lib.decDigits n).toArray⟩)∧Below w.heap.size w w'):=h
 clear h
 go_enter Tryz.func147,Tryz.ntmps147
 go_wp2_with (first|(go_at_call 148;go_in)|(go_at_call 179;refine(HH.out _ HTAB.out).mono ?_;rintro e w' ⟨rfl,hb⟩))
 go_ret
 exact⟨rfl,hb⟩
end Go.Proofs.YtfjpkfhbmldmfaaGreatDoor
