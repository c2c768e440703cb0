/-
  The plain mathematics of counting marked places by stretches: no Go in sight.
-/
import Derived.WalkKit
import Derived.Test.YtfjpkfhbmldmfabGreatDoorNum
namespace Go.Proofs.YtfjpkfhbmldmfabGreatDoor
def lowb (k:Nat):Nat:=if k=0 then 0 else if k % 2=1 then 1 else 2*lowb (k / 2)
termination_by k
decreasing_by omega
theorem lowb_zero:lowb 0=0:=by rw[lowb];simp
theorem lowb_odd {k:Nat} (h:k % 2=1):lowb k=1:=by rw[lowb,if_neg (by omega),if_pos h]
theorem lowb_even {k:Nat} (h:k % 2=0):lowb k=2*lowb (k / 2):=by
 by_cases h0:k=0
 ·subst h0;simp[lowb_zero]
 ·rw[lowb,if_neg h0,if_neg (by omega)]
theorem lowb_pos {k:Nat} (h:0<k):0<lowb k:=by
 induction k using Nat.strongRecOn with
 |_ k ih=>
  by_cases h1:k % 2=1
  ·rw[lowb_odd h1];omega
  ·rw[lowb_even (by omega)]
   have:=ih (k / 2) (by omega) (by omega)
   omega
theorem lowb_le (k:Nat):lowb k≤k:=by
 induction k using Nat.strongRecOn with
 |_ k ih=>
  by_cases h0:k=0
  ·subst h0;rw[lowb_zero];omega
  by_cases h1:k % 2=1
  ·rw[lowb_odd h1];omega
  ·rw[lowb_even (by omega)]
   have:=ih (k / 2) (by omega)
   omega
theorem lowb_add (c:Nat):∀d,0<d→d<lowb c→lowb (c+d)=lowb d:=by
 induction c using Nat.strongRecOn with
 |_ c ih=>
  intro d h0 h1
  by_cases hc0:c=0
  ·subst hc0;rw[Nat.zero_add]
  by_cases hc:c % 2=1
  ·rw[lowb_odd hc]at h1;omega
  ·rw[lowb_even (by omega)]at h1
   by_cases hd:d % 2=1
   ·rw[lowb_odd hd,lowb_odd (by omega)]
   ·rw[lowb_even (k:=d) (by omega),lowb_even (k:=c+d) (by omega),show(c+d) / 2=c / 2+d / 2 from by omega,ih (c / 2) (by omega) (d / 2) (by omega) (by omega)]
theorem lowb_next {c:Nat} (h:0<c):2*lowb c≤lowb (c+lowb c):=by
 induction c using Nat.strongRecOn with
 |_ c ih=>
  by_cases hc:c % 2=1
  ·rw[lowb_odd hc,lowb_even (by omega)]
   have:=lowb_pos (k:=(c+1) / 2) (by omega)
   omega
  ·have e:=lowb_even (k:=c) (by omega)
   have:=ih (c / 2) (by omega) (by omega)
   have e2:=lowb_even (k:=c+lowb c) (by omega)
   rw[show(c+lowb c) / 2=c / 2+lowb (c / 2) from by omega]at e2
   omega
def pre (f:Nat→Int):Nat→Int
 |0=>0
 |n+1=>pre f n+f n
def put1 (f:Nat→Int) (at':Nat) (by':Int):Nat→Int:=fun j=>if j=at' then f j+by' else f j
theorem pre_put (f:Nat→Int) (at':Nat) (by':Int) (n:Nat):pre (put1 f at' by') n=pre f n+(if at'<n then by' else 0):=by
 induction n with
 |zero=>simp[pre]
 |succ n ih=>
  simp only[pre,ih,put1]
  by_cases h:n=at'
  ·subst h
   simp;omega
  ·rw[if_neg h]
   by_cases h2:at'<n
   ·rw[if_pos h2,if_pos (by omega)];omega
   ·rw[if_neg h2,if_neg (by omega)];omega
def ent (f:Nat→Int) (k:Nat):Int:=pre f k - pre f (k - lowb k)
theorem ent_cover (f:Nat→Int) (at':Nat) (by':Int) (k:Nat) (h1:k - lowb k≤at') (h2:at'<k):ent (put1 f at' by') k=ent f k+by':=by
 simp only[ent,pre_put]
 rw[if_pos h2,if_neg (by omega)];omega
theorem ent_other (f:Nat→Int) (at':Nat) (by':Int) (k:Nat) (h:k≤at'∨at'<k - lowb k):ent (put1 f at' by') k=ent f k:=by
 simp only[ent,pre_put]
 have:=lowb_le k
 rcases h with h|h
 ·rw[if_neg (by omega),if_neg (by omega)];omega
 ·rw[if_pos (by omega),if_pos (by omega)];omega
theorem cover_start (j:Nat):(j+1) - lowb (j+1)≤j∧j<j+1:=by
 have:=lowb_pos (k:=j+1) (by omega)
 omega
theorem cover_next {c j:Nat} (h1:c - lowb c≤j) (h2:j<c):(c+lowb c) - lowb (c+lowb c)≤j∧j<c+lowb c:=by
 have:=lowb_next (c:=c) (by omega)
 omega
theorem cover_between {c k j:Nat} (h2:j<c) (h3:c<k) (h4:k<c+lowb c):j<k - lowb k:=by
 have:=lowb_add c (k - c) (by omega) (by omega)
 rw[show c+(k - c)=k from by omega]at this
 have:=lowb_le (k - c)
 omega
theorem pre_mono (f:Nat→Int) (h:∀j,0≤f j) {a b:Nat} (hab:a≤b):pre f a≤pre f b:=by
 induction b with
 |zero=>rw[show a=0 from by omega];exact Int.le_refl _
 |succ b ih=>
  by_cases e:a=b+1
  ·rw[e];exact Int.le_refl _
  ·have:=ih (by omega)
   have:=h b
   simp only[pre];omega
theorem pre_le (f:Nat→Int) (h:∀j,f j≤1) (n:Nat):pre f n≤n:=by
 induction n with
 |zero=>simp[pre]
 |succ n ih=>have:=h n;simp only[pre];omega
theorem pre_ext (f g:Nat→Int) (n:Nat) (h:∀j,j<n→f j=g j):pre f n=pre g n:=by
 induction n with
 |zero=>rfl
 |succ n ih=>simp only[pre];rw[ih (fun j hj=>h j (by omega)),h n (by omega)]
theorem pre_zero (n:Nat):pre (fun _=>0) n=0:=by
 induction n with
 |zero=>rfl
 |succ n ih=>simp only[pre,ih];omega
theorem ent_zero (k:Nat):ent (fun _=>0) k=0:=by simp[ent,pre_zero]
theorem ent_range (f:Nat→Int) (h0:∀j,0≤f j) (h1:∀j,f j≤1) (k:Nat):0≤ent f k∧ent f k≤k:=by
 have a:=pre_mono f h0 (a:=k - lowb k) (b:=k) (by omega)
 have b:=pre_le f h1 k
 have c:=pre_mono f h0 (a:=0) (b:=k - lowb k) (by omega)
 simp only[pre]at c
 simp only[ent];omega
def fill:List (Option Int)→List Int→List Int
 |[],_=>[]
 |some r::t,l=>r::fill t l
 |none::t,x::l=>x::fill t l
 |none::t,[]=>0::fill t []
def free (s:List (Option Int)) (j:Nat):Int:=if s[j]?=some none then 1 else 0
theorem and_odd (x y:Nat):(2*x+1)&&& (2*y+1)=2*(x&&& y)+1:=by
 apply Nat.eq_of_testBit_eq
 intro i
 cases i with
 |zero=>simp[Nat.testBit_zero]
 |succ i=>
  rw[Nat.testBit_and,Nat.testBit_succ,Nat.testBit_succ,Nat.testBit_succ]
  rw[show(2*x+1) / 2=x from by omega,show(2*y+1) / 2=y from by omega,show(2*(x&&& y)+1) / 2=x&&& y from by omega,Nat.testBit_and]
theorem and_even (x y:Nat):(2*x)&&& (2*y)=2*(x&&& y):=by
 apply Nat.eq_of_testBit_eq
 intro i
 cases i with
 |zero=>simp[Nat.testBit_zero]
 |succ i=>
  rw[Nat.testBit_and,Nat.testBit_succ,Nat.testBit_succ,Nat.testBit_succ]
  rw[show(2*x) / 2=x from by omega,show(2*y) / 2=y from by omega,show(2*(x&&& y)) / 2=x&&& y from by omega,Nat.testBit_and]
theorem and_mix (x y:Nat):(2*x)&&& (2*y+1)=2*(x&&& y):=by
 apply Nat.eq_of_testBit_eq
 intro i
 cases i with
 |zero=>simp[Nat.testBit_zero]
 |succ i=>
  rw[Nat.testBit_and,Nat.testBit_succ,Nat.testBit_succ,Nat.testBit_succ]
  rw[show(2*x) / 2=x from by omega,show(2*y+1) / 2=y from by omega,show(2*(x&&& y)) / 2=x&&& y from by omega,Nat.testBit_and]
theorem and_mix' (x y:Nat):(2*x+1)&&& (2*y)=2*(x&&& y):=by rw[Nat.and_comm,and_mix,Nat.and_comm]
theorem and_compl (n m:Nat) (h:m<2 ^ n):m&&& (2 ^ n - (m+1))=0:=by
 apply Nat.eq_of_testBit_eq
 intro i
 rw[Nat.testBit_and,Nat.testBit_two_pow_sub_succ h,Nat.zero_testBit]
 cases m.testBit i<;>simp
theorem and_neg (k:Nat):∀n,0<k→k<2 ^ n→k&&& (2 ^ n - k)=lowb k:=by
 induction k using Nat.strongRecOn with
 |_ k ih=>
  intro n h0 h1
  cases n with
  |zero=>simp at h1;omega
  |succ n=>
   have e:(2:Nat) ^ (n+1)=2*2 ^ n:=by rw[Nat.pow_succ];omega
   by_cases hk:k % 2=1
   ·obtain⟨m,rfl⟩:∃m,k=2*m+1:=⟨k / 2,by omega⟩
    rw[lowb_odd hk,e,show 2*2 ^ n - (2*m+1)=2*(2 ^ n - (m+1))+1 from by omega,and_odd,and_compl n m (by omega)]
   ·obtain⟨m,rfl⟩:∃m,k=2*m:=⟨k / 2,by omega⟩
    rw[lowb_even (by omega),e,show 2*2 ^ n - 2*m=2*(2 ^ n - m) from by omega,and_even,ih m (by omega) n (by omega) (by omega),show 2*m / 2=m from by omega]
theorem and_pred (k:Nat) (h:0<k):k&&& (k - 1)=k - lowb k:=by
 induction k using Nat.strongRecOn with
 |_ k ih=>
  by_cases hk:k % 2=1
  ·obtain⟨m,rfl⟩:∃m,k=2*m+1:=⟨k / 2,by omega⟩
   rw[lowb_odd hk,show 2*m+1 - 1=2*m from by omega,and_mix',Nat.and_self]
  ·obtain⟨m,rfl⟩:∃m,k=2*m:=⟨k / 2,by omega⟩
   have:=lowb_le m
   rw[lowb_even (by omega),show 2*m - 1=2*(m - 1)+1 from by omega,and_mix,ih m (by omega) (by omega),show 2*m / 2=m from by omega]
   omega
theorem wrap_small (n:Nat) (h:n<2 ^ 63):IntKind.i64.wrap (n:Int)=n:=by
 rw[IntKind.wrap_i64]
 omega
theorem bits_low (k:Nat) (h:k<2 ^ 62):bits .and .i64 (k:Int) (-(k:Int))=lowb k:=by
 have hl:=lowb_le k
 show IntKind.i64.wrap (((BitVec.ofInt 64 (k:Int))&&& (BitVec.ofInt 64 (-(k:Int)))).toNat:Int)=_
 rw[BitVec.toNat_and,BitVec.toNat_ofInt,BitVec.toNat_ofInt]
 by_cases h0:k=0
 ·subst h0
  rw[lowb_zero]
  decide
 ·have e1:((k:Int) % ((2 ^ 64:Nat):Int)).toNat=k:=by omega
  have e2:((-(k:Int)) % ((2 ^ 64:Nat):Int)).toNat=2 ^ 64 - k:=by omega
  rw[e1,e2,and_neg k 64 (by omega) (by omega),wrap_small _ (by omega)]
theorem bits_pred (k:Nat) (h0:0<k) (h:k<2 ^ 62):bits .and .i64 (k:Int) ((k:Int) - 1)=((k - lowb k:Nat):Int):=by
 show IntKind.i64.wrap (((BitVec.ofInt 64 (k:Int))&&& (BitVec.ofInt 64 ((k:Int) - 1))).toNat:Int)=_
 rw[BitVec.toNat_and,BitVec.toNat_ofInt,BitVec.toNat_ofInt]
 have e1:((k:Int) % ((2 ^ 64:Nat):Int)).toNat=k:=by omega
 have e2:(((k:Int) - 1) % ((2 ^ 64:Nat):Int)).toNat=k - 1:=by omega
 rw[e1,e2,and_pred k h0,wrap_small _ (by omega)]
open Go.RowKit
def MkAt (w:World) (g N:Nat) (f:Nat→Int):Prop:=∃cs:List Int,cs.length=N+1∧Lies w g (cellsN .i32 cs).toArray 21∧∀k,1≤k→k≤N→cs[k]?=some (ent f k)
def F01 (f:Nat→Int):Prop:=(∀j,0≤f j)∧∀j,f j≤1
theorem MkAt.lt {w:World} {g N:Nat} {f:Nat→Int} (h:MkAt w g N f):g<w.heap.size:=by
 obtain⟨_,_,h,_⟩:=h
 exact h.lt
theorem MkAt.keep {w w':World} {g N:Nat} {f:Nat→Int} (h:MkAt w g N f) (e:w'.heap[g]?=w.heap[g]?):MkAt w' g N f:=by
 obtain⟨cs,h1,h2,h3⟩:=h
 exact⟨cs,h1,e.trans h2,h3⟩
theorem MkAt.below {w w':World} {g N B:Nat} {f:Nat→Int} (h:MkAt w g N f) (hb:Below B w w') (hg:g<B):MkAt w' g N f:=h.keep (hb.block g hg)
theorem MkAt.ext {w:World} {g N:Nat} {f f':Nat→Int} (h:MkAt w g N f) (e:∀j,j<N→f j=f' j):MkAt w g N f':=by
 obtain⟨cs,h1,h2,h3⟩:=h
 refine⟨cs,h1,h2,fun k hk1 hk2=>?_⟩
 rw[h3 k hk1 hk2]
 have:=lowb_le k
 simp only[ent]
 rw[pre_ext f f' k (fun j hj=>e j (by omega)),pre_ext f f' (k - lowb k) (fun j hj=>e j (by omega))]
theorem cellsN_cell {w:World} {g:Nat} {cs:List Int} {t:TypeId} (h:Lies w g (cellsN .i32 cs).toArray t) (k:Nat) (x:Int) (hx:cs[k]?=some x):w.cell? ⟨g,k,none⟩=some (.int .i32 x):=by
 rw[h.cell k]
 simp[cellsN,hx]
theorem cellsN_set {w:World} {g:Nat} {cs:List Int} {t:TypeId} (h:Lies w g (cellsN .i32 cs).toArray t) (k:Nat) (x:Int):Lies (w.setCell ⟨g,k,none⟩ (.int .i32 x)) g (cellsN .i32 (cs.set k x)).toArray t:=by
 have:=h.set k (.int .i32 x)
 rw[List.setIfInBounds_toArray]at this
 have e:(cellsN .i32 cs).set k (.int .i32 x)=cellsN .i32 (cs.set k x):=by simp[cellsN,List.map_set]
 rw[e]at this
 exact this
theorem F01.put {f:Nat→Int} (h:F01 f) (at':Nat) (by':Int) (h0:0≤f at'+by') (h1:f at'+by'≤1):F01 (put1 f at' by'):=by
 refine⟨fun j=>?_,fun j=>?_⟩
 ·unfold put1
  split
  ·rename_i e;subst e;exact h0
  ·exact h.1 j
 ·unfold put1
  split
  ·rename_i e;subst e;exact h1
  ·exact h.2 j
set_option maxHeartbeats 1000000 in
set_option maxRecDepth 100000 in
theorem mfor_any (n:Nat) (w:World) (hn:n≤1073741824):
  Calls Tryz.prog 137 #[.int .i64 n] w fun e w'=>e=.returned (.slice (some ⟨w.heap.size,0,none⟩) (n+1) (n+1))∧Below w.heap.size w w'∧MkAt w' w.heap.size n (fun _=>0)∧w'.heap.size=w.heap.size+1:=by
 obtain⟨w3,hmk,hown3,b3,hsz3⟩:=make_roomN w 174 21 4 .i32 Tryz.underlying174 infoR (by omega) (n+1) (n+1) ((n:Int)+1) ((n:Int)+1) (by push_cast;rfl) (by push_cast;rfl) (by omega) (by omega) w.heap.size (Nat.le_refl _)
 have HM:Hid (MkAt w3 w.heap.size n (fun _=>0)):=by
  obtain⟨h1,⟨h2,_⟩|⟨g,cap,cur,hv,hB,hg,hcap,_,hs,ht⟩⟩:=hown3
  ·cases h2
  ·injection hv with e1 e2 e3
   injection e1 with e1
   injection e1 with e1 e4
   subst e1 e3
   refine⟨List.replicate (n+1) 0,by simp,?_,fun k hk1 hk2=>?_⟩
   ·have:cur=(cellsN .i32 (List.replicate (n+1) 0)).toArray:=by
     apply Array.ext'
     show cur.toList=cellsN .i32 (List.replicate (n+1) 0)
     rw[←ht,Nat.mul_one,List.take_of_length_le (by simp;omega)]
    rw[←this]
    exact hg
   ·rw[ent_zero,List.getElem?_replicate,if_pos (by omega)]
 have HB:Hid (Below w.heap.size w w3):=b3
 clear hown3 b3
 go_enter Tryz.func137,Tryz.ntmps137
 go_wp2
 go_ret
 exact⟨rfl,HB.out,HM.out,hsz3⟩
set_option maxHeartbeats 1000000 in
set_option maxRecDepth 100000 in
theorem ahead_any (g N at':Nat) (f:Nat→Int) (w:World) (h:MkAt w g N f) (hf:F01 f) (hN:N≤1073741824) (ha:at'≤N):
  Calls Tryz.prog 143 #[.slice (some ⟨g,0,none⟩) (N+1) (N+1),.int .i64 at'] w fun e w'=>e=.returned (.int .i64 (pre f at'))∧w'=w:=by
 obtain⟨cs,hl,hL,he⟩:=h
 have HC:Hid (∀k,1≤k→k≤N→w.cell? ⟨g,k,none⟩=some (.int .i32 (ent f k))):=fun k h1 h2=>cellsN_cell hL k _ (he k h1 h2)
 have HF:Hid (F01 f):=hf
 have hg:=hL.lt
 clear hL he hl hf
 go_enter Tryz.func143,Tryz.ntmps143
 go_wp2
 go_loop [5,6] (fun n k=>∃(c:Nat) (m:Int),k=.int .i64 c∧n=.int .i64 m∧c≤at'∧Hid (m+pre f c=pre f at')) (fun _ k=>(intOf k).toNat)
 case atStart=>exact⟨at',0,rfl,rfl,Nat.le_refl _,by show _=_;omega⟩
 case round=>
  obtain⟨c,m,rfl,rfl,hc,HM⟩:=hrel
  have hm0:=pre_mono f HF.out.1 (a:=0) (b:=c) (by omega)
  have hm1:=pre_le f HF.out.2 at'
  have hm2:=pre_le f HF.out.2 c
  have hm3:=HM.out
  have hm4:=pre_mono f HF.out.1 (a:=c) (b:=at') hc
  simp only[pre]at hm0
  by_cases h0:0<c
  ·have hcell:=HC.out c h0 (by omega)
   have hb:=bits_pred c h0 (by omega)
   have hr:=ent_range f HF.out.1 HF.out.2 c
   have hlp:=lowb_pos h0
   have hle:=lowb_le c
   have HN:Hid ((m+ent f c)+pre f (c - lowb c)=pre f at'):=by show _=_;unfold ent;omega
   have hw:IntKind.i64.wrap (m+ent f c)=m+ent f c:=by rw[IntKind.wrap_i64];omega
   clear hm3 HM
   go_wp2
   go_round
   case rel=>exact⟨c - lowb c,m+ent f c,rfl,rfl,by omega,HN⟩
   case measure=>simp[intOf];omega
  ·obtain rfl:c=0:=by omega
   have HR:Hid (m=pre f at'):=by
    have:=HM.out
    simp only[pre]at this
    show _=_
    omega
   clear hm3 HM
   go_wp2
   go_ret
   exact⟨ret_i64 HR.out,rfl⟩
set_option maxHeartbeats 1000000 in
set_option maxRecDepth 100000 in
theorem add_any (g N at':Nat) (by':Int) (f:Nat→Int) (w:World) (h:MkAt w g N f) (hf:F01 f) (hf':F01 (put1 f at' by')) (hN:N≤1073741824) (ha:at'<N):
  Calls Tryz.prog 139 #[.slice (some ⟨g,0,none⟩) (N+1) (N+1),.int .i64 at',.int .i32 by'] w fun e w'=>e=.returned (.tuple #[])∧But g w w'∧MkAt w' g N (put1 f at' by'):=by
 obtain⟨cs,hl,hL,he⟩:=h
 have HF:Hid (F01 f):=hf
 have HF':Hid (F01 (put1 f at' by')):=hf'
 have HL:Hid (Lies w g (cellsN .i32 cs).toArray 21):=hL
 have HE:Hid (∀k,1≤k→k≤N→cs[k]?=some (if k<at'+1 then ent (put1 f at' by') k else ent f k)):=fun k h1 h2=>by
  rw[he k h1 h2]
  by_cases e:k<at'+1
  ·rw[if_pos e,ent_other f at' by' k (.inl (by omega))]
  ·rw[if_neg e]
 clear hL he hf hf'
 go_enter Tryz.func139,Tryz.ntmps139
 go_wp2
 go_loopw [6] (fun k wr=>∃(c:Nat) (ds:List Int),k=.int .i64 c∧at'<c∧c≤2147483649∧Hid (c - lowb c≤at')∧ds.length=N+1∧Hid (Lies wr g (cellsN .i32 ds).toArray 21)∧Hid (∀k,1≤k→k≤N→ds[k]?=some (if k<c then ent (put1 f at' by') k else ent f k))∧Hid (But g w wr)) (fun k _=>N+1 - (intOf k).toNat)
 case atStart=>exact⟨at'+1,cs,by go_num,by omega,by omega,(cover_start at').1,hl,HL,HE,But.refl _ _⟩
 case round=>
  obtain⟨c,ds,rfl,hc0,hcm,HC,hdl,HL1,HE1,HB⟩:=hrel
  have hg:=HL1.out.lt
  by_cases hcN:c≤N
  ·have hd:=HE1.out c (by omega) hcN
   rw[if_neg (by omega)]at hd
   have hcell:=cellsN_cell HL1.out c _ hd
   have hfr:=HL1.out.frozen c
   have hr:=ent_range f HF.out.1 HF.out.2 c
   have hr':=ent_range _ HF'.out.1 HF'.out.2 c
   have hcv:=ent_cover f at' by' c HC.out hc0
   rw[hcv]at hr'
   have hb:=bits_low c (by omega)
   have hlp:=lowb_pos (k:=c) (by omega)
   have hle:=lowb_le c
   have hw:IntKind.i32.wrap (ent f c+by')=ent f c+by':=by rw[IntKind.wrap_i32];omega
   have HL2:Hid (Lies (wr.setCell ⟨g,c,none⟩ (.int .i32 (ent f c+by'))) g (cellsN .i32 (ds.set c (ent f c+by'))).toArray 21):=cellsN_set HL1.out c _
   have HB2:Hid (But g w (wr.setCell ⟨g,c,none⟩ (.int .i32 (ent f c+by')))):=HB.out.set c _
   have HC2:Hid ((c+lowb c) - lowb (c+lowb c)≤at'):=(cover_next HC.out hc0).1
   have HE2:Hid (∀k,1≤k→k≤N→(ds.set c (ent f c+by'))[k]?=some (if k<c+lowb c then ent (put1 f at' by') k else ent f k)):=fun k h1 h2=>by
    by_cases e:k=c
    ·subst e
     rw[List.getElem?_set_self (by omega),if_pos (by omega),hcv]
    ·rw[List.getElem?_set_ne (Ne.symm e),HE1.out k h1 h2]
     by_cases e1:k<c
     ·rw[if_pos e1,if_pos (by omega)]
     ·by_cases e2:k<c+lowb c
      ·rw[if_neg e1,if_pos e2,ent_other f at' by' k (.inr (cover_between hc0 (by omega) e2))]
      ·rw[if_neg e1,if_neg e2]
   clear hd hcv HE1 HL1 HB HC
   go_wp2
   go_roundw
   case rel=>exact⟨c+lowb c,_,by go_num,by omega,by omega,HC2,by rw[List.length_set];exact hdl,HL2,HE2,HB2⟩
   case measure=>simp[intOf];omega
  ·go_wp2
   go_end0
   refine⟨rfl,HB.out,ds,hdl,HL1.out,fun k h1 h2=>?_⟩
   rw[HE1.out k h1 h2,if_pos (by omega)]
end Go.Proofs.YtfjpkfhbmldmfabGreatDoor
