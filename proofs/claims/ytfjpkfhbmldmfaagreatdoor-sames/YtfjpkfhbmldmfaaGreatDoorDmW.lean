/-
  Steps through a statement whose order is the text's, one operation at a time.
-/
import Derived.Test.YtfjpkfhbmldmfaaGreatDoorCk8
import Derived.Test.YtfjpkfhbmldmfaaGreatDoorDmR
import Derived.Test.YtfjpkfhbmldmfaaGreatDoorChk
namespace Go.Proofs.YtfjpkfhbmldmfaaGreatDoor
open Go.RowKit
theorem wpList_yieldG {P:Program} {ops:Array Oper} {rest:List Oper} {op:Oper} {a:Act} {w:World} {Q:Exit→Act→World→Prop} (v:Value) (hw:Region.wanted op (yielded ops a.tmps)=true)
  (hy:(execOp a.eval op).run P w=.ok (.value v) w) (h:wpList P ops Q rest (a.put op.dst v) w):wpList P ops Q (op::rest) a w:=by
 unfold wpList
 rw[if_pos hw]
 left
 unfold Oper.wp
 rw[hy]
 exact h
def splitD:List UInt8→List (List UInt8)
 |[]=>[[]]
 |c::r=>if c=46 then []::splitD r else match splitD r with
  |[]=>[[c]]
  |x::xs=>(c::x)::xs
def longB (L:List (List UInt8)):Bool:=L.any fun x=>decide (63<x.length)
def asciiD (f:List UInt8→List UInt8) (s:List UInt8):List UInt8×Nat:=
 if longB ((splitD (sml s)).map f)=true then ([],80)
 else if 255<(joinL [46] ((splitD (sml s)).map f)).length then ([],81)
 else (joinL [46] ((splitD (sml s)).map f),0)
def tagS (t:List UInt8):List UInt8:=match colonAt t with
 |none=>t
 |some k=>sml (t.take k)++t.drop k
def ascii (f:List UInt8→List UInt8) (h:Ho):Ho×Nat:=
 if check h true=0 then
  (if h.k=1 then (if (asciiD f h.n).2=0 then (⟨1,(asciiD f h.n).1,h.a⟩,0) else (ho0,(asciiD f h.n).2))
  else if h.k=4 then (⟨4,tagS h.n,h.a⟩,0)
  else (h,0))
 else (ho0,check h true)
def same (f:List UInt8→List UInt8) (a b:Ho):Bool:=
 decide (a.k=b.k)&&decide (check a true=0)&&decide (check b true=0)&&
  (if (ascii f a).2=0∧(ascii f b).2=0 then decide ((ascii f a).1=(ascii f b).1) else decide (sml a.n=sml b.n))
theorem same_iff (f:List UInt8→List UInt8) (a b:Ho):same f a b=true↔a.k=b.k∧check a true=0∧check b true=0∧(((ascii f a).2=0∧(ascii f b).2=0∧(ascii f a).1=(ascii f b).1)∨(¬((ascii f a).2=0∧(ascii f b).2=0)∧sml a.n=sml b.n)):=by
 unfold same
 simp only[Bool.and_eq_true,decide_eq_true_eq]
 by_cases h:(ascii f a).2=0∧(ascii f b).2=0
 ·rw[if_pos h]
  simp only[decide_eq_true_eq]
  constructor
  ·rintro ⟨⟨⟨h1,h2⟩,h3⟩,h4⟩
   exact⟨h1,h2,h3,Or.inl ⟨h.1,h.2,h4⟩⟩
  ·rintro ⟨h1,h2,h3,h4|h4⟩
   ·exact⟨⟨⟨h1,h2⟩,h3⟩,h4.2.2⟩
   ·exact absurd h h4.1
 ·rw[if_neg h]
  simp only[decide_eq_true_eq]
  constructor
  ·rintro ⟨⟨⟨h1,h2⟩,h3⟩,h4⟩
   exact⟨h1,h2,h3,Or.inr ⟨h,h4⟩⟩
  ·rintro ⟨h1,h2,h3,h4|h4⟩
   ·exact absurd ⟨h4.1,h4.2.1⟩ h
   ·exact⟨⟨⟨h1,h2⟩,h3⟩,h4.2⟩
theorem Ho.eq {a b:Ho} (h1:a.k=b.k) (h2:a.n=b.n) (h3:a.a=b.a):a=b:=by
 cases a
 cases b
 simp_all
theorem u8_of (x:Int) (h0:0≤x) (h1:x<256):(x.toNat.toUInt8).toNat=x.toNat:=by
 have:x.toNat<256:=by omega
 simp
 omega
theorem u8_eq {x:Int} {b:UInt8} (h:x=(b.toNat:Int)):x.toNat.toUInt8=b:=by
 subst h
 simp
theorem oneN_enc (r:Int) (h:isR r) (t:List UInt8):oneN (Lib.encodeRune r++t)=some (r,(Lib.encodeRune r).length):=by
 obtain⟨h0,h1,h2⟩:=h
 unfold Lib.encodeRune
 by_cases c1:r≤127
 ·rw[Lib.encodeRuneZ_one h0 c1]
  simp only[List.map_cons,List.map_nil,List.cons_append,List.nil_append,oneN,u8_of r h0 (by omega),List.length_cons,List.length_nil]
  rw[if_pos (by omega)]
  simp;omega
 by_cases c2:r≤2047
 ·rw[Lib.encodeRuneZ_two (by omega) c2]
  have a1:=u8_of (192+r / 64) (by omega) (by omega)
  have a2:=u8_of (128+r % 64) (by omega) (by omega)
  simp only[List.map_cons,List.map_nil,List.cons_append,List.nil_append,oneN,a1,a2,List.length_cons,List.length_nil]
  rw[if_neg (by omega),if_pos (by omega)]
  simp;omega
 by_cases c3:r≤65535
 ·rw[Lib.encodeRuneZ_three (by omega)]
  have a1:=u8_of (224+r / 4096) (by omega) (by omega)
  have a2:=u8_of (128+r / 64 % 64) (by omega) (by omega)
  have a3:=u8_of (128+r % 64) (by omega) (by omega)
  simp only[List.map_cons,List.map_nil,List.cons_append,List.nil_append,oneN,a1,a2,a3,List.length_cons,List.length_nil]
  rw[if_neg (by omega),if_neg (by omega),if_pos (by omega)]
  simp;omega
 ·rw[Lib.encodeRuneZ_four (by omega) (by omega)]
  have a1:=u8_of (240+r / 262144) (by omega) (by omega)
  have a2:=u8_of (128+r / 4096 % 64) (by omega) (by omega)
  have a3:=u8_of (128+r / 64 % 64) (by omega) (by omega)
  have a4:=u8_of (128+r % 64) (by omega) (by omega)
  simp only[List.map_cons,List.map_nil,List.cons_append,List.nil_append,oneN,a1,a2,a3,a4,List.length_cons,List.length_nil]
  rw[if_neg (by omega),if_neg (by omega),if_neg (by omega),if_pos (by omega)]
  simp;omega
theorem oneN_is {l:List UInt8} {r:Int} {n:Nat} (h:oneN l=some (r,n)):isR r∧n=(Lib.encodeRune r).length∧l=Lib.encodeRune r++l.drop n:=by
 unfold oneN at h
 match l with
 |[]=>simp at h
 |a::t=>
  have ua:=a.toNat_lt
  simp only at h
  by_cases ha:a.toNat<128
  ·rw[if_pos ha]at h
   injection h with h;injection h with h1 h2
   subst h2
   have e:=Lib.encodeRuneZ_one (r:=r) (by omega) (by omega)
   refine⟨⟨by omega,by omega,by omega⟩,by simp[Lib.encodeRune,e],?_⟩
   simp[Lib.encodeRune,e]
   exact(u8_eq h1.symm).symm
  rw[if_neg ha]at h
  match t with
  |[]=>simp at h
  |b::t=>
   have ub:=b.toNat_lt
   simp only at h
   by_cases hb:194≤a.toNat∧a.toNat≤223∧128≤b.toNat∧b.toNat≤191
   ·rw[if_pos hb]at h
    injection h with h;injection h with h1 h2
    subst h2
    have e:=Lib.encodeRuneZ_two (r:=r) (by omega) (by omega)
    refine⟨⟨by omega,by omega,by omega⟩,by simp[Lib.encodeRune,e],?_⟩
    simp only[Lib.encodeRune,e,List.map_cons,List.map_nil,List.cons_append,List.nil_append,List.drop_succ_cons,List.drop_zero]
    rw[u8_eq (b:=a) (by omega),u8_eq (b:=b) (by omega)]
   rw[if_neg hb]at h
   match t with
   |[]=>simp at h
   |c::t=>
    have uc:=c.toNat_lt
    simp only at h
    by_cases hc:224≤a.toNat∧a.toNat≤239∧128≤b.toNat∧b.toNat≤191∧(a.toNat=224→160≤b.toNat)∧(a.toNat=237→b.toNat≤159)∧128≤c.toNat∧c.toNat≤191
    ·rw[if_pos hc]at h
     injection h with h;injection h with h1 h2
     subst h2
     have e:=Lib.encodeRuneZ_three (r:=r) (by omega)
     refine⟨⟨by omega,by omega,by omega⟩,by simp[Lib.encodeRune,e],?_⟩
     simp only[Lib.encodeRune,e,List.map_cons,List.map_nil,List.cons_append,List.nil_append,List.drop_succ_cons,List.drop_zero]
     rw[u8_eq (b:=a) (by omega),u8_eq (b:=b) (by omega),u8_eq (b:=c) (by omega)]
    rw[if_neg hc]at h
    match t with
    |[]=>simp at h
    |d::t=>
     have ud:=d.toNat_lt
     simp only at h
     by_cases hd:240≤a.toNat∧a.toNat≤244∧128≤b.toNat∧b.toNat≤191∧(a.toNat=240→144≤b.toNat)∧(a.toNat=244→b.toNat≤143)∧128≤c.toNat∧c.toNat≤191∧128≤d.toNat∧d.toNat≤191
     ·rw[if_pos hd]at h
      injection h with h;injection h with h1 h2
      subst h2
      have e:=Lib.encodeRuneZ_four (r:=r) (by omega) (by omega)
      refine⟨⟨by omega,by omega,by omega⟩,by simp[Lib.encodeRune,e],?_⟩
      simp only[Lib.encodeRune,e,List.map_cons,List.map_nil,List.cons_append,List.nil_append,List.drop_succ_cons,List.drop_zero]
      rw[u8_eq (b:=a) (by omega),u8_eq (b:=b) (by omega),u8_eq (b:=c) (by omega),u8_eq (b:=d) (by omega)]
     ·rw[if_neg hd]at h
      cases h
def decL (l:List UInt8):List Int:=
 match _h:oneN l with
 |none=>[]
 |some (r,n)=>r::decL (l.drop n)
termination_by l.length
decreasing_by have:=oneN_run l r n _h;simp;omega
theorem decL_some {l:List UInt8} {r:Int} {n:Nat} (h:oneN l=some (r,n)):decL l=r::decL (l.drop n):=by
 rw[decL]
 split
 ·rename_i h';rw[h]at h';cases h'
 ·rename_i r' n' h';rw[h]at h';cases h';rfl
theorem decL_none {l:List UInt8} (h:oneN l=none):decL l=[]:=by
 rw[decL]
 split
 ·rfl
 ·rename_i r' n' h';rw[h]at h';cases h'
theorem decL_isR (l:List UInt8):∀r∈decL l,isR r:=by
 induction hn:l.length using Nat.strongRecOn generalizing l with
 |_ n ih=>
  cases h:oneN l with
  |none=>rw[decL_none h];intro r hr;cases hr
  |some p=>
   obtain⟨r,k⟩:=p
   obtain⟨h1,h2,_,_⟩:=oneN_run l r k h
   rw[decL_some h]
   intro x hx
   rcases List.mem_cons.1 hx with rfl|hx
   ·exact(oneN_is h).1
   ·exact ih (l.drop k).length (by simp;omega) (l.drop k) rfl x hx
theorem decL_length (l:List UInt8):(decL l).length≤l.length:=by
 induction hn:l.length using Nat.strongRecOn generalizing l with
 |_ n ih=>
  cases h:oneN l with
  |none=>rw[decL_none h];simp
  |some p=>
   obtain⟨r,k⟩:=p
   obtain⟨h1,h2,_,_⟩:=oneN_run l r k h
   rw[decL_some h]
   have:=ih (l.drop k).length (by simp;omega) (l.drop k) rfl
   simp at this ⊢
   omega
def decF (f:Nat→Nat) (g:Nat→Bool):Nat×Nat:=
 if f 0<0x80 then (f 0,1)
 else if f 0 / 32==6&&(g 1&&f 1 / 64==2) then
  if (f 0 % 32)*64+f 1 % 64≥0x80 then ((f 0 % 32)*64+f 1 % 64,2) else (Utf8.runeError,1)
 else if f 0 / 16==14&&(g 1&&f 1 / 64==2)&&(g 2&&f 2 / 64==2) then
  if (f 0 % 16)*4096+(f 1 % 64)*64+f 2 % 64≥0x800&&Utf8.valid ((f 0 % 16)*4096+(f 1 % 64)*64+f 2 % 64:Nat) then ((f 0 % 16)*4096+(f 1 % 64)*64+f 2 % 64,3) else (Utf8.runeError,1)
 else if f 0 / 8==30&&(g 1&&f 1 / 64==2)&&(g 2&&f 2 / 64==2)&&(g 3&&f 3 / 64==2) then
  if (f 0 % 8)*262144+(f 1 % 64)*4096+(f 2 % 64)*64+f 3 % 64≥0x10000&&Utf8.valid ((f 0 % 8)*262144+(f 1 % 64)*4096+(f 2 % 64)*64+f 3 % 64:Nat) then ((f 0 % 8)*262144+(f 1 % 64)*4096+(f 2 % 64)*64+f 3 % 64,4) else (Utf8.runeError,1)
 else (Utf8.runeError,1)
theorem decode_F (s:ByteArray) (i:Nat):Utf8.decode s i=decF (fun k=>(s.get! (i+k)).toNat) (fun k=>decide (i+k<s.size)):=rfl
theorem decode_one (s:ByteArray) (pos:Nat) (r:Int) (n:Nat) (h:oneN (s.data.toList.drop pos)=some (r,n)):Utf8.decode s pos=(r.toNat,n):=by
 have key:∀(k:Nat) (x:UInt8) (t:List UInt8),s.data.toList.drop (pos+k)=x::t→(s.get! (pos+k)).toNat=x.toNat∧pos+k<s.size:=by
  intro k x t e
  have hlt:pos+k<s.data.toList.length:=by
   have:(s.data.toList.drop (pos+k)).length=t.length+1:=by rw[e];rfl
   rw[List.length_drop]at this;omega
  have hx:s.data.toList[pos+k]?=some x:=by
   have:(s.data.toList.drop (pos+k))[0]?=some x:=by rw[e];rfl
   rw[List.getElem?_drop]at this
   simpa using this
  have hs:pos+k<s.size:=by simpa using hlt
  refine⟨?_,hs⟩
  have:s.get! (pos+k)=x:=by
   show s.data[pos+k]! =x
   have h2:s.data[pos+k]?=some x:=by rw[←Array.getElem?_toList];exact hx
   simp[getElem!_def,h2]
  rw[this]
 have dr:∀(k:Nat) (x:UInt8) (t:List UInt8),s.data.toList.drop (pos+k)=x::t→s.data.toList.drop (pos+(k+1))=t:=by
  intro k x t e
  have:(s.data.toList.drop (pos+k)).drop 1=t:=by rw[e];rfl
  rw[List.drop_drop]at this
  exact this
 obtain⟨l,hl⟩:∃l,s.data.toList.drop pos=l:=⟨_,rfl⟩
 rw[hl]at h
 have E0:s.data.toList.drop (pos+0)=l:=hl
 clear hl
 unfold oneN at h
 rw[decode_F]
 have key':∀(k:Nat) (x:UInt8) (t:List UInt8),s.data.toList.drop (pos+k)=x::t→(fun k=>(s.get! (pos+k)).toNat) k=x.toNat∧(fun k=>decide (pos+k<s.size)) k=true:=fun k x t e=>⟨(key k x t e).1,decide_eq_true (key k x t e).2⟩
 generalize (fun k=>(s.get! (pos+k)).toNat)=f at key' ⊢
 generalize (fun k=>decide (pos+k<s.size))=g at key' ⊢
 unfold decF
 match l with
 |[]=>simp at h
 |a::t=>
  have ua:=a.toNat_lt
  obtain⟨k0,_⟩:=key' 0 a t E0
  have E1:=dr 0 a t E0
  simp only[k0]
  simp only at h
  by_cases ha:a.toNat<128
  ·rw[if_pos ha]at h
   injection h with h;injection h with h1 h2
   subst h2
   rw[if_pos ha,←h1];simp
  rw[if_neg ha]at h ⊢
  match t with
  |[]=>simp at h
  |b::t=>
   have ub:=b.toNat_lt
   obtain⟨k1,s1⟩:=key' 1 b t E1
   have E2:=dr 1 b t E1
   simp only[k1,s1]
   simp only at h
   by_cases hb:194≤a.toNat∧a.toNat≤223∧128≤b.toNat∧b.toNat≤191
   ·rw[if_pos hb]at h
    injection h with h;injection h with h1 h2
    subst h2
    have c1:a.toNat / 32=6:=by omega
    have c2:b.toNat / 64=2:=by omega
    simp only[c1,c2,beq_self_eq_true,Bool.and_self,if_true]
    rw[if_pos (by omega)]
    congr 1;omega
   rw[if_neg hb]at h
   match t with
   |[]=>simp at h
   |c::t=>
    have uc:=c.toNat_lt
    obtain⟨k2,s2⟩:=key' 2 c t E2
    have E3:=dr 2 c t E2
    simp only[k2,s2]
    simp only at h
    by_cases hc:224≤a.toNat∧a.toNat≤239∧128≤b.toNat∧b.toNat≤191∧(a.toNat=224→160≤b.toNat)∧(a.toNat=237→b.toNat≤159)∧128≤c.toNat∧c.toNat≤191
    ·rw[if_pos hc]at h
     injection h with h;injection h with h1 h2
     subst h2
     have c0:(a.toNat / 32==6)=false:=by simp;omega
     have c1:a.toNat / 16=14:=by omega
     have c2:b.toNat / 64=2:=by omega
     have c3:c.toNat / 64=2:=by omega
     simp only[c0,c1,c2,c3,beq_self_eq_true,Bool.and_self,Bool.false_and,if_true,Bool.false_eq_true,if_false]
     have hv:Utf8.valid ((a.toNat % 16*4096+b.toNat % 64*64+c.toNat % 64:Nat):Int)=true:=by
      unfold Utf8.valid
      simp
      omega
     have hg:(decide (a.toNat % 16*4096+b.toNat % 64*64+c.toNat % 64≥2048)&&true)=true:=by rw[Bool.and_true];exact decide_eq_true (by omega)
     rw[hv,hg,if_pos rfl]
     refine Prod.ext ?_ rfl
     show a.toNat % 16*4096+b.toNat % 64*64+c.toNat % 64=r.toNat
     omega
    rw[if_neg hc]at h
    match t with
    |[]=>simp at h
    |d::t=>
     have ud:=d.toNat_lt
     obtain⟨k3,s3⟩:=key' 3 d t E3
     simp only[k3,s3]
     simp only at h
     by_cases hd:240≤a.toNat∧a.toNat≤244∧128≤b.toNat∧b.toNat≤191∧(a.toNat=240→144≤b.toNat)∧(a.toNat=244→b.toNat≤143)∧128≤c.toNat∧c.toNat≤191∧128≤d.toNat∧d.toNat≤191
     ·rw[if_pos hd]at h
      injection h with h;injection h with h1 h2
      subst h2
      have c0:(a.toNat / 32==6)=false:=by simp;omega
      have c0':(a.toNat / 16==14)=false:=by simp;omega
      have c1:a.toNat / 8=30:=by omega
      have c2:b.toNat / 64=2:=by omega
      have c3:c.toNat / 64=2:=by omega
      have c4:d.toNat / 64=2:=by omega
      simp only[c0,c0',c1,c2,c3,c4,beq_self_eq_true,Bool.and_self,Bool.false_and,if_true,Bool.false_eq_true,if_false]
      have hv:Utf8.valid ((a.toNat % 8*262144+b.toNat % 64*4096+c.toNat % 64*64+d.toNat % 64:Nat):Int)=true:=by
       unfold Utf8.valid
       simp
       omega
      have hg:(decide (a.toNat % 8*262144+b.toNat % 64*4096+c.toNat % 64*64+d.toNat % 64≥65536)&&true)=true:=by rw[Bool.and_true];exact decide_eq_true (by omega)
      rw[hv,hg,if_pos rfl]
      refine Prod.ext ?_ rfl
      show a.toNat % 8*262144+b.toNat % 64*4096+c.toNat % 64*64+d.toNat % 64=r.toNat
      omega
     ·rw[if_neg hd]at h
      cases h
def qs8:List Q:=[(0,0,0),(1,128,191),(2,160,191),(2,128,191),(2,128,159),(3,144,191),(3,128,191),(3,128,143)]
theorem begQ_mem {b:Nat} {q:Q} (h:begQ b=some q):q∈qs8:=by
 unfold begQ at h
 repeat' (split at h)
 all_goals (first|(injection h with h;subst h;decide)|cases h)
theorem stepQ_mem {q q':Q} {b:Nat} (hq:q∈qs8) (h:stepQ q b=some q'):q'∈qs8:=by
 have h3:q.1≤3:=by
  have:∀q∈qs8,q.1≤3:=by decide
  exact this q hq
 unfold stepQ at h
 split at h
 ·exact begQ_mem h
 ·rename_i h0
  split at h
  ·cases h
  ·split at h
   ·injection h with h;subst h;decide
   ·rename_i h1
    injection h with h
    subst h
    have:q.1=2∨q.1=3:=by omega
    rcases this with e|e
    ·rw[e];decide
    ·rw[e];decide
theorem runQ_mem:∀(l:List UInt8) (q q':Q),q∈qs8→runQ q l=some q'→q'∈qs8
 |[],q,q',hq,h=>by
  simp only[runQ]at h
  injection h with h
  rw[←h]
  exact hq
 |b::t,q,q',hq,h=>by
  simp only[runQ,Option.bind_eq_some_iff]at h
  obtain⟨q1,h1,h2⟩:=h
  exact runQ_mem t q1 q' (stepQ_mem hq h1) h2
theorem badUA_whole:∀(l:List UInt8) (q:Q) (n w:Nat),l≠[]→w≤n→(badUA q n w l=n+l.length↔∃q',runQ q l=some q'∧q'.1=0)
 |[],_,_,_,h,_=>absurd rfl h
 |b::t,q,n,w,_,hw=>by
  simp only[badUA,runQ]
  cases hs:stepQ q b.toNat with
  |none=>
   simp only[Option.bind_none,List.length_cons]
   constructor
   ·intro h;omega
   ·intro ⟨q',h,_⟩;cases h
  |some q1=>
   simp only[Option.bind_some,List.length_cons]
   cases t with
   |nil=>
    simp only[badUA,runQ,List.length_nil]
    constructor
    ·intro h
     refine⟨q1,rfl,?_⟩
     by_cases h0:q1.1=0
     ·exact h0
     ·rw[if_neg h0]at h;omega
    ·intro ⟨q',h,h0⟩
     injection h with h
     subst h
     rw[if_pos h0]
   |cons c t=>
    have:=badUA_whole (c::t) q1 (n+1) (if q1.1=0 then n+1 else w) (by simp) (by split<;>omega)
    rw[←this]
    constructor<;>intro h<;>omega
theorem badU_whole (l:List UInt8):badU l=l.length↔∃q',runQ q0 l=some q'∧q'.1=0:=by
 cases l with
 |nil=>exact⟨fun _=>⟨q0,rfl,rfl⟩,fun _=>rfl⟩
 |cons b t=>
  have:=badUA_whole (b::t) q0 0 0 (by simp) (Nat.le_refl _)
  rw[Nat.zero_add]at this
  exact this
theorem qs8_zero:∀q∈qs8,q.1=0→q=q0:=by decide
def Wf (l:List UInt8):Prop:=badU l=l.length
theorem wf_iff (l:List UInt8):Wf l↔runQ q0 l=some q0:=by
 unfold Wf
 rw[badU_whole]
 constructor
 ·rintro ⟨q,h,h0⟩
  rw[h,qs8_zero q (runQ_mem l q0 q (by decide) h) h0]
 ·intro h
  exact⟨q0,h,rfl⟩
theorem smB_high {c:UInt8} (h:¬c.toNat<128):smB c=c:=by
 unfold smB
 rw[if_neg (by omega)]
theorem splitD_none:∀x:List UInt8,(∀c∈x,c≠46)→splitD x=[x]
 |[],_=>rfl
 |c::r,h=>by
  rw[splitD,if_neg (h c (by simp)),splitD_none r fun x hx=>h x (by simp[hx])]
theorem splitD_dot:∀(x y:List UInt8),(∀c∈x,c≠46)→splitD (x++46::y)=x::splitD y
 |[],y,_=>by rw[List.nil_append,splitD,if_pos rfl]
 |c::r,y,h=>by
  rw[List.cons_append,splitD,if_neg (h c (by simp)),splitD_dot r y fun x hx=>h x (by simp[hx])]
theorem split_cases:∀s:List UInt8,(∀c∈s,c≠46)∨∃x y,(∀c∈x,c≠46)∧s=x++46::y
 |[]=>Or.inl fun c hc=>by cases hc
 |c::r=>by
  by_cases hc:c=46
  ·exact Or.inr ⟨[],r,fun c hc=>(by cases hc),by rw[hc];rfl⟩
  ·rcases split_cases r with h|⟨x,y,h,e⟩
   ·refine Or.inl fun d hd=>?_
    rcases List.mem_cons.1 hd with rfl|hd
    ·exact hc
    ·exact h d hd
   ·refine Or.inr ⟨c::x,y,fun d hd=>?_,by rw[e];rfl⟩
    rcases List.mem_cons.1 hd with rfl|hd
    ·exact hc
    ·exact h d hd
theorem splitD_ne:∀s:List UInt8,splitD s≠[]
 |[]=>by simp[splitD]
 |c::r=>by
  rw[splitD]
  split
  ·simp
  ·split<;>simp
structure LabW (l:List UInt8):Prop where
 ne:l≠[]
 le:l.length≤63
 ch:∀c∈l,lbB c=true∨128≤c.toNat
 hd:l.head?≠some 45
 la:l.getLast?≠some 45
structure LabA (l:List UInt8):Prop where
 ne:l≠[]
 le:l.length≤63
 ch:∀c∈l,lbB c=true
 hd:l.head?≠some 45
 la:l.getLast?≠some 45
structure RestA (n:Nat) (h:Bool) (x:List UInt8):Prop where
 ch:∀c∈x,lbB c=true
 hd:n=0→x.head?≠some 45
 le:n+x.length≤63
 ne:0<n+x.length
 em:x=[]→h=false
 la:x.getLast?≠some 45
theorem LabA.rest {x:List UInt8} (h:LabA x):RestA 0 false x:=
 ⟨h.ch,fun _=>h.hd,by have:=h.le;omega,by
  cases x with
  |nil=>exact absurd rfl h.ne
  |cons c r=>simp,fun _=>rfl,h.la⟩
theorem lbB_fin:∀b:Fin 256,lbB (UInt8.ofNat b.val)=lbB (smB (UInt8.ofNat b.val))∧smB (smB (UInt8.ofNat b.val))=smB (UInt8.ofNat b.val)∧(smB (UInt8.ofNat b.val)=45↔UInt8.ofNat b.val=45)∧(lbB (UInt8.ofNat b.val)=true→b.val<128):=by decide+kernel
theorem smB_facts (c:UInt8):lbB c=lbB (smB c)∧smB (smB c)=smB c∧(smB c=45↔c=45)∧(lbB c=true→c.toNat<128):=by
 have:=lbB_fin ⟨c.toNat,c.toNat_lt⟩
 simpa using this
theorem sml_head (l:List UInt8):(sml l).head?=some 45↔l.head?=some 45:=by
 cases l with
 |nil=>simp[sml]
 |cons c r=>simp[sml,(smB_facts c).2.2.1]
theorem sml_last (l:List UInt8):(sml l).getLast?=some 45↔l.getLast?=some 45:=by
 unfold sml
 rw[List.getLast?_map]
 cases l.getLast? with
 |none=>simp
 |some c=>simp[(smB_facts c).2.2.1]
theorem LabW.sml {l:List UInt8} (h:LabW l):LabW (sml l):=by
 refine⟨fun e=>h.ne (by simpa [Go.Proofs.YtfjpkfhbmldmfaaGreatDoor.sml] using e),by have:=h.le;simpa [Go.Proofs.YtfjpkfhbmldmfaaGreatDoor.sml] using this,fun c hc=>?_,fun e=>h.hd ((sml_head l).1 e),fun e=>h.la ((sml_last l).1 e)⟩
 obtain⟨d,hd,rfl⟩:=List.mem_map.1 hc
 rcases h.ch d hd with h1|h1
 ·exact Or.inl ((smB_facts d).1 ▸ h1)
 ·exact Or.inr (by rw[smB_high (by omega)];exact h1)
end Go.Proofs.YtfjpkfhbmldmfaaGreatDoor
