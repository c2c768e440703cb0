/-
  Nets within nets (P8.13), and hosts that are one (P8.11), in plain mathematics. What a label becomes on old wires is left open here.
-/
import Derived.Test.YtfjpkfhbmldmfaaGreatDoorDmR
import Derived.Test.YtfjpkfhbmldmfaaGreatDoorChk
namespace Go.Proofs.YtfjpkfhbmldmfaaGreatDoor
def splitD:List UInt8→List (List UInt8)
 |[]=>[[]]
 |c::r=>if c=46 then []::splitD r else match splitD r with
  |[]=>[[c]]
  |x::xs=>(c::x)::xs
def longB (L:List (List UInt8)):Bool:=L.any fun x=>decide (63<x.length)
def asciiD (f:List UInt8→List UInt8) (s:List UInt8):List UInt8×Nat:=
 if longB ((splitD (sml s)).map f)=true then ([],80)
 else if 255<(joinL [46] ((splitD (sml s)).map f)).length then ([],81)
 else (joinL [46] ((splitD (sml s)).map f),0)
def tagS (t:List UInt8):List UInt8:=match colonAt t with
 |none=>t
 |some k=>sml (t.take k)++t.drop k
def ascii (f:List UInt8→List UInt8) (h:Ho):Ho×Nat:=
 if check h true=0 then
  (if h.k=1 then (if (asciiD f h.n).2=0 then (⟨1,(asciiD f h.n).1,h.a⟩,0) else (ho0,(asciiD f h.n).2))
  else if h.k=4 then (⟨4,tagS h.n,h.a⟩,0)
  else (h,0))
 else (ho0,check h true)
def same (f:List UInt8→List UInt8) (a b:Ho):Bool:=
 decide (a.k=b.k)&&decide (check a true=0)&&decide (check b true=0)&&
  (if (ascii f a).2=0∧(ascii f b).2=0 then decide ((ascii f a).1=(ascii f b).1) else decide (sml a.n=sml b.n))
theorem Ho.eq {a b:Ho} (h1:a.k=b.k) (h2:a.n=b.n) (h3:a.a=b.a):a=b:=by
 cases a
 cases b
 simp_all
theorem u8_of (x:Int) (h0:0≤x) (h1:x<256):(x.toNat.toUInt8).toNat=x.toNat:=by
 have:x.toNat<256:=by omega
 simp
 omega
theorem u8_eq {x:Int} {b:UInt8} (h:x=(b.toNat:Int)):x.toNat.toUInt8=b:=by
 subst h
 simp
theorem oneN_enc (r:Int) (h:isR r) (t:List UInt8):oneN (Lib.encodeRune r++t)=some (r,(Lib.encodeRune r).length):=by
 obtain⟨h0,h1,h2⟩:=h
 unfold Lib.encodeRune
 by_cases c1:r≤127
 ·rw[Lib.encodeRuneZ_one h0 c1]
  simp only[List.map_cons,List.map_nil,List.cons_append,List.nil_append,oneN,u8_of r h0 (by omega),List.length_cons,List.length_nil]
  rw[if_pos (by omega)]
  simp;omega
 by_cases c2:r≤2047
 ·rw[Lib.encodeRuneZ_two (by omega) c2]
  have a1:=u8_of (192+r / 64) (by omega) (by omega)
  have a2:=u8_of (128+r % 64) (by omega) (by omega)
  simp only[List.map_cons,List.map_nil,List.cons_append,List.nil_append,oneN,a1,a2,List.length_cons,List.length_nil]
  rw[if_neg (by omega),if_pos (by omega)]
  simp;omega
 by_cases c3:r≤65535
 ·rw[Lib.encodeRuneZ_three (by omega)]
  have a1:=u8_of (224+r / 4096) (by omega) (by omega)
  have a2:=u8_of (128+r / 64 % 64) (by omega) (by omega)
  have a3:=u8_of (128+r % 64) (by omega) (by omega)
  simp only[List.map_cons,List.map_nil,List.cons_append,List.nil_append,oneN,a1,a2,a3,List.length_cons,List.length_nil]
  rw[if_neg (by omega),if_neg (by omega),if_pos (by omega)]
  simp;omega
 ·rw[Lib.encodeRuneZ_four (by omega) (by omega)]
  have a1:=u8_of (240+r / 262144) (by omega) (by omega)
  have a2:=u8_of (128+r / 4096 % 64) (by omega) (by omega)
  have a3:=u8_of (128+r / 64 % 64) (by omega) (by omega)
  have a4:=u8_of (128+r % 64) (by omega) (by omega)
  simp only[List.map_cons,List.map_nil,List.cons_append,List.nil_append,oneN,a1,a2,a3,a4,List.length_cons,List.length_nil]
  rw[if_neg (by omega),if_neg (by omega),if_neg (by omega),if_pos (by omega)]
  simp;omega
theorem oneN_is {l:List UInt8} {r:Int} {n:Nat} (h:oneN l=some (r,n)):isR r∧n=(Lib.encodeRune r).length∧l=Lib.encodeRune r++l.drop n:=by
 unfold oneN at h
 match l with
 |[]=>simp at h
 |a::t=>
  have ua:=a.toNat_lt
  simp only at h
  by_cases ha:a.toNat<128
  ·rw[if_pos ha]at h
   injection h with h;injection h with h1 h2
   subst h2
   have e:=Lib.encodeRuneZ_one (r:=r) (by omega) (by omega)
   refine⟨⟨by omega,by omega,by omega⟩,by simp[Lib.encodeRune,e],?_⟩
   simp[Lib.encodeRune,e]
   exact(u8_eq h1.symm).symm
  rw[if_neg ha]at h
  match t with
  |[]=>simp at h
  |b::t=>
   have ub:=b.toNat_lt
   simp only at h
   by_cases hb:194≤a.toNat∧a.toNat≤223∧128≤b.toNat∧b.toNat≤191
   ·rw[if_pos hb]at h
    injection h with h;injection h with h1 h2
    subst h2
    have e:=Lib.encodeRuneZ_two (r:=r) (by omega) (by omega)
    refine⟨⟨by omega,by omega,by omega⟩,by simp[Lib.encodeRune,e],?_⟩
    simp only[Lib.encodeRune,e,List.map_cons,List.map_nil,List.cons_append,List.nil_append,List.drop_succ_cons,List.drop_zero]
    rw[u8_eq (b:=a) (by omega),u8_eq (b:=b) (by omega)]
   rw[if_neg hb]at h
   match t with
   |[]=>simp at h
   |c::t=>
    have uc:=c.toNat_lt
    simp only at h
    by_cases hc:224≤a.toNat∧a.toNat≤239∧128≤b.toNat∧b.toNat≤191∧(a.toNat=224→160≤b.toNat)∧(a.toNat=237→b.toNat≤159)∧128≤c.toNat∧c.toNat≤191
    ·rw[if_pos hc]at h
     injection h with h;injection h with h1 h2
     subst h2
     have e:=Lib.encodeRuneZ_three (r:=r) (by omega)
     refine⟨⟨by omega,by omega,by omega⟩,by simp[Lib.encodeRune,e],?_⟩
     simp only[Lib.encodeRune,e,List.map_cons,List.map_nil,List.cons_append,List.nil_append,List.drop_succ_cons,List.drop_zero]
     rw[u8_eq (b:=a) (by omega),u8_eq (b:=b) (by omega),u8_eq (b:=c) (by omega)]
    rw[if_neg hc]at h
    match t with
    |[]=>simp at h
    |d::t=>
     have ud:=d.toNat_lt
     simp only at h
     by_cases hd:240≤a.toNat∧a.toNat≤244∧128≤b.toNat∧b.toNat≤191∧(a.toNat=240→144≤b.toNat)∧(a.toNat=244→b.toNat≤143)∧128≤c.toNat∧c.toNat≤191∧128≤d.toNat∧d.toNat≤191
     ·rw[if_pos hd]at h
      injection h with h;injection h with h1 h2
      subst h2
      have e:=Lib.encodeRuneZ_four (r:=r) (by omega) (by omega)
      refine⟨⟨by omega,by omega,by omega⟩,by simp[Lib.encodeRune,e],?_⟩
      simp only[Lib.encodeRune,e,List.map_cons,List.map_nil,List.cons_append,List.nil_append,List.drop_succ_cons,List.drop_zero]
      rw[u8_eq (b:=a) (by omega),u8_eq (b:=b) (by omega),u8_eq (b:=c) (by omega),u8_eq (b:=d) (by omega)]
     ·rw[if_neg hd]at h
      cases h
end Go.Proofs.YtfjpkfhbmldmfaaGreatDoor
