/-
  The library's IndexRune of a rune beyond 127 in a text of bytes below 128.
-/
import Derived.Test.YtfjpkfhbmldmfaaGreatDoorRl8
import Derived.Test.YtfjpkfhbmldmfaaGreatDoorLt8
import Derived.Test.YtfjpkfhbmldmfaaGreatDoorLate5
import Derived.Test.YtfjpkfhbmldmfaaGreatDoorQa9
import Derived.Laws.RangeAny
import Derived.Lib.OthersKept
import Derived.Deep.DeepCutAuto
import Derived.Laws.Concat
import Derived.Test.YtfjpkfhbmldmfaaGreatDoorPg8
namespace Go.Proofs.YtfjpkfhbmldmfaaGreatDoor
open Go.RowKit
theorem enc_last (r:Int) (h:128≤r):∃n,(Utf8.encode r).size=n+1∧1≤n∧n≤3∧∀hn:n<(Utf8.encode r).size,128≤((Utf8.encode r)[n]).toNat:=by
 have hc:128≤(if Utf8.valid r=true then r.toNat else Utf8.runeError):=by
  split
  ·omega
  ·decide
 unfold Utf8.encode
 generalize (if Utf8.valid r=true then r.toNat else Utf8.runeError)=c at hc ⊢
 dsimp only
 have hm:128≤(UInt8.ofNat (128+c % 64)).toNat:=by
  rw[UInt8.toNat_ofNat']
  omega
 have h0:¬c<128:=by omega
 by_cases h1:c<2048
 ·simp only[if_neg h0,if_pos h1]
  exact⟨1,rfl,by omega,by omega,fun _=>hm⟩
 ·by_cases h2:c<65536
  ·simp only[if_neg h0,if_neg h1,if_pos h2]
   exact⟨2,rfl,by omega,by omega,fun _=>hm⟩
  ·simp only[if_neg h0,if_neg h1,if_neg h2]
   exact⟨3,rfl,by omega,by omega,fun _=>hm⟩
theorem index_none (c:UInt8):∀l:List UInt8,(∀x∈l,x≠c)→Lib.indexByte l c= -1
 |[],_=>rfl
 |x::r,h=>by
  rw[Lib.indexByte,index_none c r (fun y hy=>h y (List.mem_cons_of_mem _ hy))]
  simp[h x List.mem_cons_self]
theorem dec_span (s:ByteArray) (pos:Nat) (h:pos<s.size) (ha:128≤(s[pos]'h).toNat):pos+(Utf8.decode s pos).2≤s.size∧∀j (hj:j<s.size),pos≤j→j<pos+(Utf8.decode s pos).2→128≤(s[j]'hj).toNat:=by
 have g:∀j (hj:j<s.size),s[j]'hj=s.get! j:=fun j hj=>by
  have:=get_at s j hj
  rw[Nat.add_zero]at this
  exact this.symm
 have h0:128≤(s.get! pos).toNat:=by rw[←g pos h];exact ha
 have hz:(s.get! (pos+0)).toNat=(s.get! pos).toNat:=by rw[Nat.add_zero]
 have hn:¬(s.get! (pos+0)).toNat<128:=by omega
 have key:∀m:Nat,pos+m<s.size→(∀k,1≤k→k≤m→128≤(s.get! (pos+k)).toNat)→pos+(m+1)≤s.size∧∀j (hj:j<s.size),pos≤j→j<pos+(m+1)→128≤(s[j]'hj).toNat:=fun m hm hk=>by
  refine⟨by omega,fun j hj h1 h2=>?_⟩
  rw[g j hj]
  rcases Nat.eq_or_lt_of_le h1 with e|e
  ·rw[←e];exact h0
  ·have:=hk (j - pos) (by omega) (by omega)
   have e2:pos+(j - pos)=j:=by omega
   rw[e2]at this
   exact this
 have one:=key 0 (by omega) (fun k a b=>by omega)
 have c1:∀k:Nat,(decide (pos+k<s.size)&&(s.get! (pos+k)).toNat / 64==2)=true→pos+k<s.size∧128≤(s.get! (pos+k)).toNat:=fun k hk=>by
  rw[Bool.and_eq_true,decide_eq_true_eq,beq_iff_eq]at hk
  exact⟨hk.1,by omega⟩
 unfold Utf8.decode
 simp only[if_neg hn]
 split
 ·rename_i hq
  rw[Bool.and_eq_true]at hq
  obtain⟨a1,b1⟩:=c1 1 hq.2
  split
  ·exact key 1 a1 (fun k x y=>by
    obtain rfl:k=1:=by omega
    exact b1)
  ·exact one
 ·split
  ·rename_i hq
   rw[Bool.and_eq_true,Bool.and_eq_true]at hq
   obtain⟨a1,b1⟩:=c1 1 hq.1.2
   obtain⟨a2,b2⟩:=c1 2 hq.2
   split
   ·exact key 2 a2 (fun k x y=>by
     rcases (by omega:k=1∨k=2) with rfl|rfl
     ·exact b1
     ·exact b2)
   ·exact one
  ·split
   ·rename_i hq
    rw[Bool.and_eq_true,Bool.and_eq_true,Bool.and_eq_true]at hq
    obtain⟨a1,b1⟩:=c1 1 hq.1.1.2
    obtain⟨a2,b2⟩:=c1 2 hq.1.2
    obtain⟨a3,b3⟩:=c1 3 hq.2
    split
    ·exact key 3 a3 (fun k x y=>by
      rcases (by omega:k=1∨k=2∨k=3) with rfl|rfl|rfl
      ·exact b1
      ·exact b2
      ·exact b3)
    ·exact one
   ·exact one
open Go.RowKit
def txt (l:List UInt8):ByteArray:=⟨l.toArray⟩
theorem txt_size (l:List UInt8):(txt l).size=l.length:=List.size_toArray ..
theorem txt_cat (x y:List UInt8):txt x++txt y=txt (x++y):=by
 apply ByteArray.ext
 rw[ByteArray.data_append]
 show x.toArray++y.toArray=(x++y).toArray
 simp
theorem txt_back (s:ByteArray):txt s.data.toList=s:=by
 show(⟨s.data.toList.toArray⟩:ByteArray)=s
 rw[Array.toArray_toList]
theorem txt_list (l:List UInt8):(txt l).data.toList=l:=by simp[txt]
open Go.RowKit
theorem conv_own {w:World} {B:Nat} {v:Value} {l:List UInt8} (h:w.ownsRow B 5 1 v l.length (cellsB l)):(convert 98 9 v).run Tryz.prog w=.ok (.string (txt l)) w:=by
 obtain⟨a,cap,rfl,hb,_⟩:=own_bts h
 exact bts_back hb cap
def preA (acc:List UInt8):Except (Option Nat) (List UInt8×Nat)→Except (Option Nat) (List UInt8×Nat)
 | .ok (m,n)=>.ok (acc++m,n)
 | .error e=>.error e
theorem preA_pre (acc:List UInt8) (c:UInt8) (x:Except (Option Nat) (List UInt8×Nat)):preA acc (preQ c x)=preA (acc++[c]) x:=by
 match x with
 | .ok (m,n)=>simp[preA,preQ]
 | .error e=>rfl
theorem preA_nil (x:Except (Option Nat) (List UInt8×Nat)):x=preA [] x:=by
 match x with
 | .ok (m,n)=>rfl
 | .error e=>rfl
end Go.Proofs.YtfjpkfhbmldmfaaGreatDoor
