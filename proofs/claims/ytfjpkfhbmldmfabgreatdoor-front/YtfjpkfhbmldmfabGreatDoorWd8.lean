/-
  Domains and hosts in plain mathematics, as the program reads and writes them; no Go in sight.
-/
import Derived.Test.YtfjpkfhbmldmfabGreatDoorLate5
import Derived.Test.YtfjpkfhbmldmfabGreatDoorChk
import Derived.Test.YtfjpkfhbmldmfabGreatDoorPureBad
import Derived.Test.YtfjpkfhbmldmfabGreatDoorV4a
import Derived.Test.YtfjpkfhbmldmfabGreatDoorGa8
namespace Go.Proofs.YtfjpkfhbmldmfabGreatDoor
def ldB (c:UInt8):Bool:=dgB c||(decide (65≤c.toNat)&&decide (c.toNat≤90))||(decide (97≤c.toNat)&&decide (c.toNat≤122))
def lbB (c:UInt8):Bool:=ldB c||decide (c=45)
def plB (c:UInt8):Bool:=decide (33≤c.toNat)&&decide (c.toNat≤126)&&!decide (c=91)&&!decide (c=92)&&!decide (c=93)
def smB (c:UInt8):UInt8:=if 65≤c.toNat∧c.toNat≤90 then UInt8.ofNat (c.toNat+32) else c
def sml (s:List UInt8):List UInt8:=s.map smB
def spB (f:UInt8→Bool):List UInt8→Nat
 |[]=>0
 |c::r=>if f c=true then spB f r+1 else 0
theorem spB_le (f:UInt8→Bool):∀l:List UInt8,spB f l≤l.length
 |[]=>Nat.le_refl _
 |c::r=>by
  rw[spB,List.length_cons]
  have:=spB_le f r
  split<;>omega
def stB (formed a n:Nat) (c:UInt8):Bool:=ldB c||(decide (c=45)&&decide (0<n))||(decide (128≤c.toNat)&&decide (a<formed))
def wdGo (formed:Nat):Nat→Nat→Bool→List UInt8→Option Nat
 |a,n,h,[]=>if 0<n∧h=false then none else some a
 |a,n,h,c::r=>
  if c=46 then (if 0<n∧h=false then wdGo formed (a+1) 0 false r else some a)
  else if n=63∨stB formed a n c=false then some a
  else wdGo formed (a+1) (n+1) (decide (c=45)) r
def wd (wide:Bool) (s:List UInt8):Nat×Nat:=
 if 255<s.length then (81,255)
 else match wdGo (if wide then badU s else 0) 0 0 false s with
  |none=>(0,0)
  |some a=>(80,a)
def tagged (t:List UInt8) (k:Nat):Nat×Nat:=
 if spB lbB (t.take k)<k∨k=0∨t[k - 1]?=some 45 then (83,spB lbB (t.take k))
 else if k+1+spB plB (t.drop (k+1))<t.length∨spB plB (t.drop (k+1))=0 then (83,k+1+spB plB (t.drop (k+1)))
 else (0,0)
def colonAt:List UInt8→Option Nat
 |[]=>none
 |c::r=>if c=58 then some 0 else (colonAt r).map (· +1)
def sixB (t:List UInt8):Bool:=decide (5≤t.length)&&decide (sml (t.take 5)=[105,112,118,54,58])
structure Ho where
 k:Int
 n:List UInt8
 a:List Nat
deriving DecidableEq
def z16:List Nat:=List.replicate 16 0
def ho0:Ho:=⟨0,[],z16⟩
def told (p:Nat) (h:Ho) (e:Nat×Nat):Ho×(Nat×Nat):=if e.1=0 then (h,(0,0)) else (ho0,(e.1,p+e.2))
def spotOf {α:Type} (r:Except Nat α):Nat×Nat:=match r with
 | .ok _=>(0,0)
 | .error p=>(82,p)
def addrOf (k:Nat) (r:Except Nat (List Nat)):List Nat:=match r with
 | .ok l=>l
 | .error _=>List.replicate k 0
def fourH (l:List Nat):Ho:=⟨2,[],l++List.replicate 12 0⟩
def lit (s:List UInt8):Ho×(Nat×Nat):=
 if 255<s.length then (ho0,(82,255))
 else if s.getLast?≠some 93 then (ho0,(82,s.length))
 else if sixB ((s.drop 1).take (s.length - 2))=true then told 6 ⟨3,[],addrOf 16 (v6 (((s.drop 1).take (s.length - 2)).drop 5))⟩ (spotOf (v6 (((s.drop 1).take (s.length - 2)).drop 5)))
 else match colonAt ((s.drop 1).take (s.length - 2)) with
  |some k=>told 1 ⟨4,(s.drop 1).take (s.length - 2),z16⟩ (tagged ((s.drop 1).take (s.length - 2)) k)
  |none=>told 1 (fourH (addrOf 4 (v4 ((s.drop 1).take (s.length - 2))))) (spotOf (v4 ((s.drop 1).take (s.length - 2))))
def parse (s:List UInt8) (wide:Bool):Ho×(Nat×Nat):=
 if s.head?=some 91 then lit s
 else if (wd wide s).1=0 then (⟨1,s,z16⟩,(0,0)) else (ho0,wd wide s)
def chTag (t:List UInt8):Nat:=
 if 253<t.length then 82
 else match colonAt t with
  |none=>83
  |some k=>if sixB t=true then 83 else (tagged t k).1
def check (h:Ho) (wide:Bool):Nat:=
 if h.k=1 then (if h.a=z16 then (wd wide h.n).1 else 2)
 else if h.k=2 then (if h=fourH (h.a.take 4) then 0 else 2)
 else if h.k=3 then (if h.n=[] then 0 else 2)
 else if h.k=4 then (if h.a=z16 then chTag h.n else 2)
 else 2
def print (h:Ho):List UInt8×Nat:=
 if check h true=0 then
  (if h.k=2 then [91]++print4 (h.a.take 4)++[93]
  else if h.k=3 then [91,73,80,118,54,58]++print6 h.a++[93]
  else if h.k=4 then [91]++h.n++[93]
  else h.n,0)
 else ([],check h true)
def widthN (k:Int):Int:=if k=2 then 32 else if k=3 then 128 else -1
def cutB (i:Nat) (bits:Int) (x:Nat):Nat:=if bits - 8*i<8 then x - x % 2 ^ (8 - (max (bits - 8*i) 0).toNat) else x
def cutGo:Nat→Int→List Nat→List Nat
 |_,_,[]=>[]
 |i,bits,x::r=>cutB i bits x::cutGo (i+1) bits r
def within (a b:Ho) (bits:Int):Bool:=
 decide (a.k=b.k)&&decide (check a false=0)&&decide (check b false=0)&&decide (0≤bits)&&decide (bits≤widthN a.k)&&decide (cutGo 0 bits a.a=cutGo 0 bits b.a)
open Go.RowKit
theorem ld_fin:∀b:Fin 256,isB 3 (b.val:Int)=ldB (UInt8.ofNat b.val)∧isB 14 (b.val:Int)=decide (128≤b.val)∧isB 10 (b.val:Int)=lbB (UInt8.ofNat b.val)∧isB 7 (b.val:Int)=plB (UInt8.ofNat b.val)∧isB 13 (b.val:Int)=decide (b.val<128):=by decide+kernel
theorem ld_is (c:UInt8):isB 3 (c.toNat:Int)=ldB c∧isB 14 (c.toNat:Int)=decide (128≤c.toNat)∧isB 10 (c.toNat:Int)=lbB c∧isB 7 (c.toNat:Int)=plB c∧isB 13 (c.toNat:Int)=decide (c.toNat<128):=by
 have:=ld_fin ⟨c.toNat,c.toNat_lt⟩
 simpa using this
def mE (s:ByteArray) (a b:Nat):Bool:=decide (b<a)&&!decide (s.data.toList[a - 1]?=some 45)
theorem list_at (s:ByteArray) (k:Nat) (h:k<s.size):s.data.toList[k]?=some s[k]:=by
 rw[List.getElem?_eq_getElem (by rw[len_list];exact h)]
 rfl
def spotV (e:Nat×Nat):Array Value:=#[.int .i64 (e.1:Nat),.int .i64 (e.2:Nat)]
set_option maxHeartbeats 1000000 in
set_option maxRecDepth 100000 in
theorem wdw_any (b:Nat) (p:Nat) (w:World) (hc:w.cell? ⟨b,0,none⟩=some (.int .i64 (p:Nat))):
  Calls Tryz.prog 69 #[.pointer (some ⟨b,0,none⟩)] w fun e w'=>e=.returned (.agg #[.int .i64 80,.int .i64 (p:Nat)])∧Below w.heap.size w w':=by
 have hb:b<w.heap.size:=World.block_lt_of_cell? w _ hc
 have HL:Hid (Lies ((w.alloc (.cells #[.int .i64 0,.int .i64 0] 35)).setRow w.heap.size #[.int .i64 80,.int .i64 (p:Int)]) w.heap.size #[.int .i64 80,.int .i64 (p:Int)] 35):=(Lies.new w _ _).row _
 have HL0:Hid (Lies (w.alloc (.cells #[.int .i64 0,.int .i64 0] 35)) w.heap.size #[.int .i64 0,.int .i64 0] 35):=Lies.new w _ _
 have HB:Hid (Below w.heap.size w ((w.alloc (.cells #[.int .i64 0,.int .i64 0] 35)).setRow w.heap.size #[.int .i64 80,.int .i64 (p:Int)])):=below_row ((Below.refl _ _).alloc (Nat.le_refl _) _) (Nat.le_refl _) _
 go_enter Tryz.func69,Tryz.ntmps69
 go_wp2_with (refine wpList_store_row rfl 35 _ _ rfl w.heap.size rfl _ #[.int .i64 80,.int .i64 (p:Int)] rfl 35 HL0.out infoSp rfl (by simp[Value.oneCell']) rfl ?_)
 exact bodyPost_ret (results_row (p:=1) (by kernel_rfl) _ _ w.heap.size 35 _ (0,0) _ rfl HL.out Tryz.underlying35 rfl infoSp) rfl ⟨rfl,HB.out⟩
set_option maxHeartbeats 1000000 in
set_option maxRecDepth 100000 in
theorem wdm_any (pa pb ps:Nat) (s:ByteArray) (a b:Nat) (w:World) (h1:w.cell? ⟨pa,0,none⟩=some (.int .i64 (a:Nat))) (h2:w.cell? ⟨pb,0,none⟩=some (.int .i64 (b:Nat))) (h3:w.cell? ⟨ps,0,none⟩=some (.string s)) (ha:a≤s.size) (hs:s.size≤255):
  Calls Tryz.prog 70 #[.pointer (some ⟨pa,0,none⟩),.pointer (some ⟨pb,0,none⟩),.pointer (some ⟨ps,0,none⟩)] w fun e w'=>e=.returned (.bool (mE s a b))∧w'=w:=by
 have z1:=World.block_lt_of_cell? w _ h1
 have z2:=World.block_lt_of_cell? w _ h2
 have z3:=World.block_lt_of_cell? w _ h3
 dsimp only at z1 z2 z3
 by_cases hlt:b<a
 ·obtain⟨k,rfl⟩:∃k,a=k+1:=⟨a - 1,by omega⟩
  have hk:k<s.size:=by omega
  have hlt':(b:Int)<(k:Int)+1:=by omega
  have hE:mE s (k+1) b=!(s[k]==45):=by
   unfold mE
   rw[decide_eq_true hlt,Bool.true_and,Nat.add_sub_cancel,list_at s k hk,Bool.eq_iff_iff]
   simp
  have h1':w.cell? ⟨pa,0,none⟩=some (.int .i64 ((k:Int)+1)):=h1
  rw[hE]
  clear hE hlt h1
  have he:((s[k].toNat:Int) != 45)=!(s[k]==45):=by
   rw[bne,Bool.eq_iff_iff]
   simp only[Bool.not_eq_true',beq_eq_false_iff_ne,ne_eq]
   constructor
   ·intro h e
    exact h (by rw[e];rfl)
   ·intro h e
    exact h (UInt8.toNat_inj.1 (by rw[show(45:UInt8).toNat=45 from rfl];omega))
  have HE:Hid (((s[k].toNat:Int) != 45)=!(s[k]==45)):=he
  clear he
  go_enter Tryz.func70,Tryz.ntmps70
  go_wp2_with fail
  go_ret
  refine⟨?_,rfl⟩
  show Ending.returned (.bool ((s[k].toNat:Int) != 45))=_
  rw[HE.out]
 ·have hE:mE s a b=false:=by
   unfold mE
   rw[decide_eq_false hlt,Bool.false_and]
  rw[hE]
  have hlt':¬(b:Int)<(a:Int):=by omega
  clear hlt hE
  go_enter Tryz.func70,Tryz.ntmps70
  go_wp2_with fail
  go_ret
  exact⟨rfl,rfl⟩
set_option maxHeartbeats 2000000 in
set_option maxRecDepth 100000 in
theorem wds_any (pa pb ps pf:Nat) (s:ByteArray) (a b f:Nat) (w:World) (ht:Table w) (h1:w.cell? ⟨pa,0,none⟩=some (.int .i64 (a:Nat))) (h2:w.cell? ⟨pb,0,none⟩=some (.int .i64 (b:Nat))) (h3:w.cell? ⟨ps,0,none⟩=some (.string s)) (h4:w.cell? ⟨pf,0,none⟩=some (.int .i64 (f:Nat))) (ha:a<s.size):
  Calls Tryz.prog 71 #[.pointer (some ⟨ps,0,none⟩),.pointer (some ⟨pa,0,none⟩),.pointer (some ⟨pb,0,none⟩),.pointer (some ⟨pf,0,none⟩)] w fun e w'=>e=.returned (.bool (stB f a (a - b) s[a]))∧w'=w:=by
 have z1:=World.block_lt_of_cell? w _ h1
 have z2:=World.block_lt_of_cell? w _ h2
 have z3:=World.block_lt_of_cell? w _ h3
 have z4:=World.block_lt_of_cell? w _ h4
 dsimp only at z1 z2 z3 z4
 have HI:Hid (∀c:Int,Calls Tryz.prog 56 #[.int .i64 c,.int .u8 (s[a].toNat:Int)] w fun e w'=>e=.returned (.bool (isB c (s[a].toNat:Int)))∧w'=w):=fun c=>is_any c _ w ht
 obtain⟨i3,i14,_⟩:=ld_is s[a]
 have HI3:Hid (Calls Tryz.prog 56 #[.int .i64 3,.int .u8 (s[a].toNat:Int)] w fun e w'=>e=.returned (.bool (ldB s[a]))∧w'=w):=by
  have:=HI.out 3
  rw[i3]at this
  exact this
 have HI14:Hid (Calls Tryz.prog 56 #[.int .i64 14,.int .u8 (s[a].toNat:Int)] w fun e w'=>e=.returned (.bool (decide (128≤s[a].toNat)))∧w'=w):=by
  have:=HI.out 14
  rw[i14]at this
  exact this
 clear HI i3 i14 ht
 have e45:decide (s[a]=45)=((s[a].toNat:Int)==45):=by
  rw[Bool.eq_iff_iff,decide_eq_true_eq,beq_iff_eq]
  constructor
  ·intro h;rw[h];rfl
  ·intro h;exact UInt8.toNat_inj.1 (by rw[show(45:UInt8).toNat=45 from rfl];omega)
 have HST:Hid (stB f a (a - b) s[a]=(ldB s[a]||(((s[a].toNat:Int)==45)&&decide (b<a))||(decide (128≤s[a].toNat)&&decide (a<f)))):=by
  show _=_
  unfold stB
  rw[e45,show decide (0<a - b)=decide (b<a) from by rw[Bool.eq_iff_iff];simp;omega]
 clear e45
 generalize hst:stB f a (a - b) s[a]=r at HST ⊢
 clear hst
 obtain⟨l,hl⟩:∃l,l=ldB s[a]:=⟨_,rfl⟩
 obtain⟨h,hh⟩:∃h,h=decide (128≤s[a].toNat):=⟨_,rfl⟩
 rw[←hl]at HI3 HST
 rw[←hh]at HI14 HST
 clear hl hh
 obtain⟨y,hy⟩:∃y,((s[a].toNat:Int)==45)=y:=⟨_,rfl⟩
 rw[hy]at HST
 have hab:decide (b<a)=decide ((b:Int)<(a:Int)):=by rw[Bool.eq_iff_iff];simp
 have haf:decide (a<f)=decide ((a:Int)<(f:Int)):=by rw[Bool.eq_iff_iff];simp
 rw[hab,haf]at HST
 clear hab haf
 cases l
 ·cases y
  ·cases h
   ·go_enter Tryz.func71,Tryz.ntmps71
    go_wp2_with fail
    refine HI3.out.mono ?_
    rintro e w1 ⟨rfl,rfl⟩
    go_wp2_with fail
    refine HI14.out.mono ?_
    rintro e w1 ⟨rfl,rfl⟩
    go_wp2_with fail
    go_ret
    exact⟨by rw[HST.out];first|rfl|(simp;omega),rfl⟩
   ·by_cases haf:(a:Int)<(f:Int)
    ·rw[decide_eq_true haf]at HST
     go_enter Tryz.func71,Tryz.ntmps71
     go_wp2_with fail
     refine HI3.out.mono ?_
     rintro e w1 ⟨rfl,rfl⟩
     go_wp2_with fail
     refine HI14.out.mono ?_
     rintro e w1 ⟨rfl,rfl⟩
     go_wp2_with fail
     go_ret
     exact⟨by rw[HST.out];first|rfl|(simp;omega),rfl⟩
    ·rw[decide_eq_false haf]at HST
     go_enter Tryz.func71,Tryz.ntmps71
     go_wp2_with fail
     refine HI3.out.mono ?_
     rintro e w1 ⟨rfl,rfl⟩
     go_wp2_with fail
     refine HI14.out.mono ?_
     rintro e w1 ⟨rfl,rfl⟩
     go_wp2_with fail
     go_ret
     exact⟨by rw[HST.out];first|rfl|(simp;omega),rfl⟩
  ·by_cases hba:(b:Int)<(a:Int)
   ·rw[decide_eq_true hba]at HST
    go_enter Tryz.func71,Tryz.ntmps71
    go_wp2_with fail
    refine HI3.out.mono ?_
    rintro e w1 ⟨rfl,rfl⟩
    go_wp2_with fail
    go_ret
    exact⟨by rw[HST.out];first|rfl|(simp;omega),rfl⟩
   ·rw[decide_eq_false hba]at HST
    cases h
    ·go_enter Tryz.func71,Tryz.ntmps71
     go_wp2_with fail
     refine HI3.out.mono ?_
     rintro e w1 ⟨rfl,rfl⟩
     go_wp2_with fail
     refine HI14.out.mono ?_
     rintro e w1 ⟨rfl,rfl⟩
     go_wp2_with fail
     go_ret
     exact⟨by rw[HST.out];first|rfl|(simp;omega),rfl⟩
    ·by_cases haf:(a:Int)<(f:Int)
     ·rw[decide_eq_true haf]at HST
      go_enter Tryz.func71,Tryz.ntmps71
      go_wp2_with fail
      refine HI3.out.mono ?_
      rintro e w1 ⟨rfl,rfl⟩
      go_wp2_with fail
      refine HI14.out.mono ?_
      rintro e w1 ⟨rfl,rfl⟩
      go_wp2_with fail
      go_ret
      exact⟨by rw[HST.out];first|rfl|(simp;omega),rfl⟩
     ·rw[decide_eq_false haf]at HST
      go_enter Tryz.func71,Tryz.ntmps71
      go_wp2_with fail
      refine HI3.out.mono ?_
      rintro e w1 ⟨rfl,rfl⟩
      go_wp2_with fail
      refine HI14.out.mono ?_
      rintro e w1 ⟨rfl,rfl⟩
      go_wp2_with fail
      go_ret
      exact⟨by rw[HST.out];first|rfl|(simp;omega),rfl⟩
 ·go_enter Tryz.func71,Tryz.ntmps71
  go_wp2_with fail
  refine HI3.out.mono ?_
  rintro e w1 ⟨rfl,rfl⟩
  go_wp2_with fail
  go_ret
  exact⟨by rw[HST.out];first|rfl|(simp;omega),rfl⟩
end Go.Proofs.YtfjpkfhbmldmfabGreatDoor
