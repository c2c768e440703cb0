/-
  The plain mathematics of counting marked places by stretches: no Go in sight.
-/
import Derived.WalkKit
import Derived.Test.YtfjpkfhbmldmfaaGreatDoorDec
import Derived.Test.YtfjpkfhbmldmfaaGreatDoorChk
import Derived.Shelf.SlSortCmp.NoneTotal
import Derived.Ground.SlsfProg
import Derived.Test.YtfjpkfhbmldmfaaGreatDoorProg
namespace Go.Proofs.YtfjpkfhbmldmfaaGreatDoor
def lowb (k:Nat):Nat:=if k=0 then 0 else if k % 2=1 then 1 else 2*lowb (k / 2)
termination_by k
decreasing_by omega
theorem lowb_zero:lowb 0=0:=by rw[lowb];simp
theorem lowb_odd {k:Nat} (h:k % 2=1):lowb k=1:=by rw[lowb,if_neg (by omega),if_pos h]
theorem lowb_even {k:Nat} (h:k % 2=0):lowb k=2*lowb (k / 2):=by
 by_cases h0:k=0
 ·subst h0;simp[lowb_zero]
 ·rw[lowb,if_neg h0,if_neg (by omega)]
theorem lowb_pos {k:Nat} (h:0<k):0<lowb k:=by
 induction k using Nat.strongRecOn with
 |_ k ih=>
  by_cases h1:k % 2=1
  ·rw[lowb_odd h1];omega
  ·rw[lowb_even (by omega)]
   have:=ih (k / 2) (by omega) (by omega)
   omega
theorem lowb_le (k:Nat):lowb k≤k:=by
 induction k using Nat.strongRecOn with
 |_ k ih=>
  by_cases h0:k=0
  ·subst h0;rw[lowb_zero];omega
  by_cases h1:k % 2=1
  ·rw[lowb_odd h1];omega
  ·rw[lowb_even (by omega)]
   have:=ih (k / 2) (by omega)
   omega
theorem lowb_add (c:Nat):∀d,0<d→d<lowb c→lowb (c+d)=lowb d:=by
 induction c using Nat.strongRecOn with
 |_ c ih=>
  intro d h0 h1
  by_cases hc0:c=0
  ·subst hc0;rw[Nat.zero_add]
  by_cases hc:c % 2=1
  ·rw[lowb_odd hc]at h1;omega
  ·rw[lowb_even (by omega)]at h1
   by_cases hd:d % 2=1
   ·rw[lowb_odd hd,lowb_odd (by omega)]
   ·rw[lowb_even (k:=d) (by omega),lowb_even (k:=c+d) (by omega),show(c+d) / 2=c / 2+d / 2 from by omega,ih (c / 2) (by omega) (d / 2) (by omega) (by omega)]
theorem lowb_next {c:Nat} (h:0<c):2*lowb c≤lowb (c+lowb c):=by
 induction c using Nat.strongRecOn with
 |_ c ih=>
  by_cases hc:c % 2=1
  ·rw[lowb_odd hc,lowb_even (by omega)]
   have:=lowb_pos (k:=(c+1) / 2) (by omega)
   omega
  ·have e:=lowb_even (k:=c) (by omega)
   have:=ih (c / 2) (by omega) (by omega)
   have e2:=lowb_even (k:=c+lowb c) (by omega)
   rw[show(c+lowb c) / 2=c / 2+lowb (c / 2) from by omega]at e2
   omega
def pre (f:Nat→Int):Nat→Int
 |0=>0
 |n+1=>pre f n+f n
def put1 (f:Nat→Int) (at':Nat) (by':Int):Nat→Int:=fun j=>if j=at' then f j+by' else f j
theorem pre_put (f:Nat→Int) (at':Nat) (by':Int) (n:Nat):pre (put1 f at' by') n=pre f n+(if at'<n then by' else 0):=by
 induction n with
 |zero=>simp[pre]
 |succ n ih=>
  simp only[pre,ih,put1]
  by_cases h:n=at'
  ·subst h
   simp;omega
  ·rw[if_neg h]
   by_cases h2:at'<n
   ·rw[if_pos h2,if_pos (by omega)];omega
   ·rw[if_neg h2,if_neg (by omega)];omega
def ent (f:Nat→Int) (k:Nat):Int:=pre f k - pre f (k - lowb k)
theorem ent_cover (f:Nat→Int) (at':Nat) (by':Int) (k:Nat) (h1:k - lowb k≤at') (h2:at'<k):ent (put1 f at' by') k=ent f k+by':=by
 simp only[ent,pre_put]
 rw[if_pos h2,if_neg (by omega)];omega
theorem ent_other (f:Nat→Int) (at':Nat) (by':Int) (k:Nat) (h:k≤at'∨at'<k - lowb k):ent (put1 f at' by') k=ent f k:=by
 simp only[ent,pre_put]
 have:=lowb_le k
 rcases h with h|h
 ·rw[if_neg (by omega),if_neg (by omega)];omega
 ·rw[if_pos (by omega),if_pos (by omega)];omega
theorem cover_start (j:Nat):(j+1) - lowb (j+1)≤j∧j<j+1:=by
 have:=lowb_pos (k:=j+1) (by omega)
 omega
theorem cover_next {c j:Nat} (h1:c - lowb c≤j) (h2:j<c):(c+lowb c) - lowb (c+lowb c)≤j∧j<c+lowb c:=by
 have:=lowb_next (c:=c) (by omega)
 omega
theorem cover_between {c k j:Nat} (h2:j<c) (h3:c<k) (h4:k<c+lowb c):j<k - lowb k:=by
 have:=lowb_add c (k - c) (by omega) (by omega)
 rw[show c+(k - c)=k from by omega]at this
 have:=lowb_le (k - c)
 omega
theorem pre_mono (f:Nat→Int) (h:∀j,0≤f j) {a b:Nat} (hab:a≤b):pre f a≤pre f b:=by
 induction b with
 |zero=>rw[show a=0 from by omega];exact Int.le_refl _
 |succ b ih=>
  by_cases e:a=b+1
  ·rw[e];exact Int.le_refl _
  ·have:=ih (by omega)
   have:=h b
   simp only[pre];omega
theorem pre_le (f:Nat→Int) (h:∀j,f j≤1) (n:Nat):pre f n≤n:=by
 induction n with
 |zero=>simp[pre]
 |succ n ih=>have:=h n;simp only[pre];omega
theorem pre_ext (f g:Nat→Int) (n:Nat) (h:∀j,j<n→f j=g j):pre f n=pre g n:=by
 induction n with
 |zero=>rfl
 |succ n ih=>simp only[pre];rw[ih (fun j hj=>h j (by omega)),h n (by omega)]
theorem pre_zero (n:Nat):pre (fun _=>0) n=0:=by
 induction n with
 |zero=>rfl
 |succ n ih=>simp only[pre,ih];omega
theorem ent_zero (k:Nat):ent (fun _=>0) k=0:=by simp[ent,pre_zero]
theorem ent_range (f:Nat→Int) (h0:∀j,0≤f j) (h1:∀j,f j≤1) (k:Nat):0≤ent f k∧ent f k≤k:=by
 have a:=pre_mono f h0 (a:=k - lowb k) (b:=k) (by omega)
 have b:=pre_le f h1 k
 have c:=pre_mono f h0 (a:=0) (b:=k - lowb k) (by omega)
 simp only[pre]at c
 simp only[ent];omega
def fill:List (Option Int)→List Int→List Int
 |[],_=>[]
 |some r::t,l=>r::fill t l
 |none::t,x::l=>x::fill t l
 |none::t,[]=>0::fill t []
def free (s:List (Option Int)) (j:Nat):Int:=if s[j]?=some none then 1 else 0
theorem free_cons (o:Option Int) (s:List (Option Int)) (n:Nat):pre (free (o::s)) (n+1)=(if o=none then 1 else 0)+pre (free s) n:=by
 induction n with
 |zero=>simp[pre,free]
 |succ n ih=>
  rw[pre,ih,pre]
  have:free (o::s) (n+1)=free s n:=by simp[free]
  omega
theorem fill_insert (s:List (Option Int)):∀(l:List Int) (p at':Nat) (r:Int),p≤l.length→s[at']?=some none→pre (free s) at'=p→fill s (l.insertIdx p r)=fill (s.set at' (some r)) l:=by
 induction s with
 |nil=>intro l p at' r _ h _;simp at h
 |cons o s ih=>
  intro l p at' r hp h1 h2
  cases at' with
  |zero=>
   simp at h1
   subst h1
   simp only[pre]at h2
   have:p=0:=by omega
   subst this
   simp[fill,List.insertIdx_zero]
  |succ at'=>
   rw[free_cons]at h2
   simp at h1
   cases o with
   |none=>
    simp at h2
    obtain⟨p,rfl⟩:∃q,p=q+1:=⟨p - 1,by
     have:=pre_mono (free s) (fun j=>by unfold free;split<;>omega) (a:=0) (b:=at') (by omega)
     simp only[pre]at this
     omega⟩
    cases l with
    |nil=>simp at hp
    |cons x l=>
     simp only[List.insertIdx_succ_cons,List.set_cons_succ,fill]
     rw[ih l p at' r (by simpa using hp) h1 (by omega)]
   |some y=>
    simp at h2
    simp only[List.set_cons_succ]
    cases hl:l.insertIdx p r with
    |nil=>
     have:=congrArg List.length hl
     rw[List.length_insertIdx_of_le_length hp]at this
     simp at this
    |cons z zs=>
     simp only[fill]
     rw[←hl,ih l p at' r hp h1 (by omega)]
theorem free_set (s:List (Option Int)) (at':Nat) (r:Int) (h:s[at']?=some none):∀j,free (s.set at' (some r)) j=put1 (free s) at' (-1) j:=by
 intro j
 unfold free put1
 by_cases e:j=at'
 ·subst e
  have hlt:=(List.getElem?_eq_some_iff.1 h).1
  rw[if_pos rfl,List.getElem?_set_self hlt,if_neg (by simp)]
  show 0=(if s[j]?=some none then (1:Int) else 0)+ -1
  rw[h,if_pos rfl]
  omega
 ·rw[if_neg e,List.getElem?_set_ne (Ne.symm e)]
theorem and_odd (x y:Nat):(2*x+1)&&& (2*y+1)=2*(x&&& y)+1:=by
 apply Nat.eq_of_testBit_eq
 intro i
 cases i with
 |zero=>simp[Nat.testBit_zero]
 |succ i=>
  rw[Nat.testBit_and,Nat.testBit_succ,Nat.testBit_succ,Nat.testBit_succ]
  rw[show(2*x+1) / 2=x from by omega,show(2*y+1) / 2=y from by omega,show(2*(x&&& y)+1) / 2=x&&& y from by omega,Nat.testBit_and]
theorem and_even (x y:Nat):(2*x)&&& (2*y)=2*(x&&& y):=by
 apply Nat.eq_of_testBit_eq
 intro i
 cases i with
 |zero=>simp[Nat.testBit_zero]
 |succ i=>
  rw[Nat.testBit_and,Nat.testBit_succ,Nat.testBit_succ,Nat.testBit_succ]
  rw[show(2*x) / 2=x from by omega,show(2*y) / 2=y from by omega,show(2*(x&&& y)) / 2=x&&& y from by omega,Nat.testBit_and]
theorem and_mix (x y:Nat):(2*x)&&& (2*y+1)=2*(x&&& y):=by
 apply Nat.eq_of_testBit_eq
 intro i
 cases i with
 |zero=>simp[Nat.testBit_zero]
 |succ i=>
  rw[Nat.testBit_and,Nat.testBit_succ,Nat.testBit_succ,Nat.testBit_succ]
  rw[show(2*x) / 2=x from by omega,show(2*y+1) / 2=y from by omega,show(2*(x&&& y)) / 2=x&&& y from by omega,Nat.testBit_and]
theorem and_mix' (x y:Nat):(2*x+1)&&& (2*y)=2*(x&&& y):=by rw[Nat.and_comm,and_mix,Nat.and_comm]
theorem and_compl (n m:Nat) (h:m<2 ^ n):m&&& (2 ^ n - (m+1))=0:=by
 apply Nat.eq_of_testBit_eq
 intro i
 rw[Nat.testBit_and,Nat.testBit_two_pow_sub_succ h,Nat.zero_testBit]
 cases m.testBit i<;>simp
theorem and_neg (k:Nat):∀n,0<k→k<2 ^ n→k&&& (2 ^ n - k)=lowb k:=by
 induction k using Nat.strongRecOn with
 |_ k ih=>
  intro n h0 h1
  cases n with
  |zero=>simp at h1;omega
  |succ n=>
   have e:(2:Nat) ^ (n+1)=2*2 ^ n:=by rw[Nat.pow_succ];omega
   by_cases hk:k % 2=1
   ·obtain⟨m,rfl⟩:∃m,k=2*m+1:=⟨k / 2,by omega⟩
    rw[lowb_odd hk,e,show 2*2 ^ n - (2*m+1)=2*(2 ^ n - (m+1))+1 from by omega,and_odd,and_compl n m (by omega)]
   ·obtain⟨m,rfl⟩:∃m,k=2*m:=⟨k / 2,by omega⟩
    rw[lowb_even (by omega),e,show 2*2 ^ n - 2*m=2*(2 ^ n - m) from by omega,and_even,ih m (by omega) n (by omega) (by omega),show 2*m / 2=m from by omega]
theorem and_pred (k:Nat) (h:0<k):k&&& (k - 1)=k - lowb k:=by
 induction k using Nat.strongRecOn with
 |_ k ih=>
  by_cases hk:k % 2=1
  ·obtain⟨m,rfl⟩:∃m,k=2*m+1:=⟨k / 2,by omega⟩
   rw[lowb_odd hk,show 2*m+1 - 1=2*m from by omega,and_mix',Nat.and_self]
  ·obtain⟨m,rfl⟩:∃m,k=2*m:=⟨k / 2,by omega⟩
   have:=lowb_le m
   rw[lowb_even (by omega),show 2*m - 1=2*(m - 1)+1 from by omega,and_mix,ih m (by omega) (by omega),show 2*m / 2=m from by omega]
   omega
theorem wrap_small (n:Nat) (h:n<2 ^ 63):IntKind.i64.wrap (n:Int)=n:=by
 rw[IntKind.wrap_i64]
 omega
theorem bits_low (k:Nat) (h:k<2 ^ 62):bits .and .i64 (k:Int) (-(k:Int))=lowb k:=by
 have hl:=lowb_le k
 show IntKind.i64.wrap (((BitVec.ofInt 64 (k:Int))&&& (BitVec.ofInt 64 (-(k:Int)))).toNat:Int)=_
 rw[BitVec.toNat_and,BitVec.toNat_ofInt,BitVec.toNat_ofInt]
 by_cases h0:k=0
 ·subst h0
  rw[lowb_zero]
  decide
 ·have e1:((k:Int) % ((2 ^ 64:Nat):Int)).toNat=k:=by omega
  have e2:((-(k:Int)) % ((2 ^ 64:Nat):Int)).toNat=2 ^ 64 - k:=by omega
  rw[e1,e2,and_neg k 64 (by omega) (by omega),wrap_small _ (by omega)]
theorem bits_pred (k:Nat) (h0:0<k) (h:k<2 ^ 62):bits .and .i64 (k:Int) ((k:Int) - 1)=((k - lowb k:Nat):Int):=by
 show IntKind.i64.wrap (((BitVec.ofInt 64 (k:Int))&&& (BitVec.ofInt 64 ((k:Int) - 1))).toNat:Int)=_
 rw[BitVec.toNat_and,BitVec.toNat_ofInt,BitVec.toNat_ofInt]
 have e1:((k:Int) % ((2 ^ 64:Nat):Int)).toNat=k:=by omega
 have e2:(((k:Int) - 1) % ((2 ^ 64:Nat):Int)).toNat=k - 1:=by omega
 rw[e1,e2,and_pred k h0,wrap_small _ (by omega)]
open Go.RowKit
def MkAt (w:World) (g N:Nat) (f:Nat→Int):Prop:=∃cs:List Int,cs.length=N+1∧Lies w g (cellsN .i32 cs).toArray 21∧∀k,1≤k→k≤N→cs[k]?=some (ent f k)
def F01 (f:Nat→Int):Prop:=(∀j,0≤f j)∧∀j,f j≤1
theorem MkAt.lt {w:World} {g N:Nat} {f:Nat→Int} (h:MkAt w g N f):g<w.heap.size:=by
 obtain⟨_,_,h,_⟩:=h
 exact h.lt
theorem MkAt.keep {w w':World} {g N:Nat} {f:Nat→Int} (h:MkAt w g N f) (e:w'.heap[g]?=w.heap[g]?):MkAt w' g N f:=by
 obtain⟨cs,h1,h2,h3⟩:=h
 exact⟨cs,h1,e.trans h2,h3⟩
theorem MkAt.below {w w':World} {g N B:Nat} {f:Nat→Int} (h:MkAt w g N f) (hb:Below B w w') (hg:g<B):MkAt w' g N f:=h.keep (hb.block g hg)
theorem MkAt.ext {w:World} {g N:Nat} {f f':Nat→Int} (h:MkAt w g N f) (e:∀j,j<N→f j=f' j):MkAt w g N f':=by
 obtain⟨cs,h1,h2,h3⟩:=h
 refine⟨cs,h1,h2,fun k hk1 hk2=>?_⟩
 rw[h3 k hk1 hk2]
 have:=lowb_le k
 simp only[ent]
 rw[pre_ext f f' k (fun j hj=>e j (by omega)),pre_ext f f' (k - lowb k) (fun j hj=>e j (by omega))]
theorem cellsN_cell {w:World} {g:Nat} {cs:List Int} {t:TypeId} (h:Lies w g (cellsN .i32 cs).toArray t) (k:Nat) (x:Int) (hx:cs[k]?=some x):w.cell? ⟨g,k,none⟩=some (.int .i32 x):=by
 rw[h.cell k]
 simp[cellsN,hx]
theorem cellsN_set {w:World} {g:Nat} {cs:List Int} {t:TypeId} (h:Lies w g (cellsN .i32 cs).toArray t) (k:Nat) (x:Int):Lies (w.setCell ⟨g,k,none⟩ (.int .i32 x)) g (cellsN .i32 (cs.set k x)).toArray t:=by
 have:=h.set k (.int .i32 x)
 rw[List.setIfInBounds_toArray]at this
 have e:(cellsN .i32 cs).set k (.int .i32 x)=cellsN .i32 (cs.set k x):=by simp[cellsN,List.map_set]
 rw[e]at this
 exact this
theorem F01.put {f:Nat→Int} (h:F01 f) (at':Nat) (by':Int) (h0:0≤f at'+by') (h1:f at'+by'≤1):F01 (put1 f at' by'):=by
 refine⟨fun j=>?_,fun j=>?_⟩
 ·unfold put1
  split
  ·rename_i e;subst e;exact h0
  ·exact h.1 j
 ·unfold put1
  split
  ·rename_i e;subst e;exact h1
  ·exact h.2 j
set_option maxHeartbeats 1000000 in
set_option maxRecDepth 100000 in
theorem mfor_any (n:Nat) (w:World) (hn:n≤1073741824):
  Calls Tryz.prog 216 #[.int .i64 n] w fun e w'=>e=.returned (.slice (some ⟨w.heap.size,0,none⟩) (n+1) (n+1))∧Below w.heap.size w w'∧MkAt w' w.heap.size n (fun _=>0)∧w'.heap.size=w.heap.size+1:=by
 obtain⟨w3,hmk,hown3,b3,hsz3⟩:=make_roomN w 217 21 4 .i32 Tryz.underlying217 infoR (by omega) (n+1) (n+1) ((n:Int)+1) ((n:Int)+1) (by push_cast;rfl) (by push_cast;rfl) (by omega) (by omega) w.heap.size (Nat.le_refl _)
 have HM:Hid (MkAt w3 w.heap.size n (fun _=>0)):=by
  obtain⟨h1,⟨h2,_⟩|⟨g,cap,cur,hv,hB,hg,hcap,_,hs,ht⟩⟩:=hown3
  ·cases h2
  ·injection hv with e1 e2 e3
   injection e1 with e1
   injection e1 with e1 e4
   subst e1 e3
   refine⟨List.replicate (n+1) 0,by simp,?_,fun k hk1 hk2=>?_⟩
   ·have:cur=(cellsN .i32 (List.replicate (n+1) 0)).toArray:=by
     apply Array.ext'
     show cur.toList=cellsN .i32 (List.replicate (n+1) 0)
     rw[←ht,Nat.mul_one,List.take_of_length_le (by simp;omega)]
    rw[←this]
    exact hg
   ·rw[ent_zero,List.getElem?_replicate,if_pos (by omega)]
 have HB:Hid (Below w.heap.size w w3):=b3
 clear hown3 b3
 go_enter Tryz.func216,Tryz.ntmps216
 go_wp2
 go_ret
 exact⟨rfl,HB.out,HM.out,hsz3⟩
set_option maxHeartbeats 1000000 in
set_option maxRecDepth 100000 in
theorem ahead_any (g N at':Nat) (f:Nat→Int) (w:World) (h:MkAt w g N f) (hf:F01 f) (hN:N≤1073741824) (ha:at'≤N):
  Calls Tryz.prog 222 #[.slice (some ⟨g,0,none⟩) (N+1) (N+1),.int .i64 at'] w fun e w'=>e=.returned (.int .i64 (pre f at'))∧w'=w:=by
 obtain⟨cs,hl,hL,he⟩:=h
 have HC:Hid (∀k,1≤k→k≤N→w.cell? ⟨g,k,none⟩=some (.int .i32 (ent f k))):=fun k h1 h2=>cellsN_cell hL k _ (he k h1 h2)
 have HF:Hid (F01 f):=hf
 have hg:=hL.lt
 clear hL he hl hf
 go_enter Tryz.func222,Tryz.ntmps222
 go_wp2
 go_loop [5,6] (fun n k=>∃(c:Nat) (m:Int),k=.int .i64 c∧n=.int .i64 m∧c≤at'∧Hid (m+pre f c=pre f at')) (fun _ k=>(intOf k).toNat)
 case atStart=>exact⟨at',0,rfl,rfl,Nat.le_refl _,by show _=_;omega⟩
 case round=>
  obtain⟨c,m,rfl,rfl,hc,HM⟩:=hrel
  have hm0:=pre_mono f HF.out.1 (a:=0) (b:=c) (by omega)
  have hm1:=pre_le f HF.out.2 at'
  have hm2:=pre_le f HF.out.2 c
  have hm3:=HM.out
  have hm4:=pre_mono f HF.out.1 (a:=c) (b:=at') hc
  simp only[pre]at hm0
  by_cases h0:0<c
  ·have hcell:=HC.out c h0 (by omega)
   have hb:=bits_pred c h0 (by omega)
   have hr:=ent_range f HF.out.1 HF.out.2 c
   have hlp:=lowb_pos h0
   have hle:=lowb_le c
   have HN:Hid ((m+ent f c)+pre f (c - lowb c)=pre f at'):=by show _=_;unfold ent;omega
   have hw:IntKind.i64.wrap (m+ent f c)=m+ent f c:=by rw[IntKind.wrap_i64];omega
   clear hm3 HM
   go_wp2
   go_round
   case rel=>exact⟨c - lowb c,m+ent f c,rfl,rfl,by omega,HN⟩
   case measure=>simp[intOf];omega
  ·obtain rfl:c=0:=by omega
   have HR:Hid (m=pre f at'):=by
    have:=HM.out
    simp only[pre]at this
    show _=_
    omega
   clear hm3 HM
   go_wp2
   go_ret
   exact⟨ret_i64 HR.out,rfl⟩
set_option maxHeartbeats 1000000 in
set_option maxRecDepth 100000 in
theorem add_any (g N at':Nat) (by':Int) (f:Nat→Int) (w:World) (h:MkAt w g N f) (hf:F01 f) (hf':F01 (put1 f at' by')) (hN:N≤1073741824) (ha:at'<N):
  Calls Tryz.prog 218 #[.slice (some ⟨g,0,none⟩) (N+1) (N+1),.int .i64 at',.int .i32 by'] w fun e w'=>e=.returned (.tuple #[])∧But g w w'∧MkAt w' g N (put1 f at' by'):=by
 obtain⟨cs,hl,hL,he⟩:=h
 have HF:Hid (F01 f):=hf
 have HF':Hid (F01 (put1 f at' by')):=hf'
 have HL:Hid (Lies w g (cellsN .i32 cs).toArray 21):=hL
 have HE:Hid (∀k,1≤k→k≤N→cs[k]?=some (if k<at'+1 then ent (put1 f at' by') k else ent f k)):=fun k h1 h2=>by
  rw[he k h1 h2]
  by_cases e:k<at'+1
  ·rw[if_pos e,ent_other f at' by' k (.inl (by omega))]
  ·rw[if_neg e]
 clear hL he hf hf'
 go_enter Tryz.func218,Tryz.ntmps218
 go_wp2
 go_loopw [6] (fun k wr=>∃(c:Nat) (ds:List Int),k=.int .i64 c∧at'<c∧c≤2147483649∧Hid (c - lowb c≤at')∧ds.length=N+1∧Hid (Lies wr g (cellsN .i32 ds).toArray 21)∧Hid (∀k,1≤k→k≤N→ds[k]?=some (if k<c then ent (put1 f at' by') k else ent f k))∧Hid (But g w wr)) (fun k _=>N+1 - (intOf k).toNat)
 case atStart=>exact⟨at'+1,cs,by go_num,by omega,by omega,(cover_start at').1,hl,HL,HE,But.refl _ _⟩
 case round=>
  obtain⟨c,ds,rfl,hc0,hcm,HC,hdl,HL1,HE1,HB⟩:=hrel
  have hg:=HL1.out.lt
  by_cases hcN:c≤N
  ·have hd:=HE1.out c (by omega) hcN
   rw[if_neg (by omega)]at hd
   have hcell:=cellsN_cell HL1.out c _ hd
   have hfr:=HL1.out.frozen c
   have hr:=ent_range f HF.out.1 HF.out.2 c
   have hr':=ent_range _ HF'.out.1 HF'.out.2 c
   have hcv:=ent_cover f at' by' c HC.out hc0
   rw[hcv]at hr'
   have hb:=bits_low c (by omega)
   have hlp:=lowb_pos (k:=c) (by omega)
   have hle:=lowb_le c
   have hw:IntKind.i32.wrap (ent f c+by')=ent f c+by':=by rw[IntKind.wrap_i32];omega
   have HL2:Hid (Lies (wr.setCell ⟨g,c,none⟩ (.int .i32 (ent f c+by'))) g (cellsN .i32 (ds.set c (ent f c+by'))).toArray 21):=cellsN_set HL1.out c _
   have HB2:Hid (But g w (wr.setCell ⟨g,c,none⟩ (.int .i32 (ent f c+by')))):=HB.out.set c _
   have HC2:Hid ((c+lowb c) - lowb (c+lowb c)≤at'):=(cover_next HC.out hc0).1
   have HE2:Hid (∀k,1≤k→k≤N→(ds.set c (ent f c+by'))[k]?=some (if k<c+lowb c then ent (put1 f at' by') k else ent f k)):=fun k h1 h2=>by
    by_cases e:k=c
    ·subst e
     rw[List.getElem?_set_self (by omega),if_pos (by omega),hcv]
    ·rw[List.getElem?_set_ne (Ne.symm e),HE1.out k h1 h2]
     by_cases e1:k<c
     ·rw[if_pos e1,if_pos (by omega)]
     ·by_cases e2:k<c+lowb c
      ·rw[if_neg e1,if_pos e2,ent_other f at' by' k (.inr (cover_between hc0 (by omega) e2))]
      ·rw[if_neg e1,if_neg e2]
   clear hd hcv HE1 HL1 HB HC
   go_wp2
   go_roundw
   case rel=>exact⟨c+lowb c,_,by go_num,by omega,by omega,HC2,by rw[List.length_set];exact hdl,HL2,HE2,HB2⟩
   case measure=>simp[intOf];omega
  ·go_wp2
   go_end0
   refine⟨rfl,HB.out,ds,hdl,HL1.out,fun k h1 h2=>?_⟩
   rw[HE1.out k h1 h2,if_pos (by omega)]
def bnd (i bias:Nat):Nat:=min (max (36*(i+1) - bias) 1) 26
theorem bnd_pos (i bias:Nat):1≤bnd i bias:=by unfold bnd;omega
theorem bnd_le (i bias:Nat):bnd i bias≤26:=by unfold bnd;omega
def dgt (v:Nat):UInt8:=if v<26 then UInt8.ofNat (97+v) else UInt8.ofNat (22+v)
theorem digs_less {q i bias:Nat} (h:¬q<bnd i bias):(q - bnd i bias) / (36 - bnd i bias)<q:=by
 have h1:=bnd_pos i bias
 have:=Nat.div_le_self (q - bnd i bias) (36 - bnd i bias)
 omega
def digs (q i bias:Nat):List UInt8:=
 if _h:q<bnd i bias then [dgt q]
 else dgt (bnd i bias+(q - bnd i bias) % (36 - bnd i bias))::digs ((q - bnd i bias) / (36 - bnd i bias)) (i+1) bias
termination_by q
decreasing_by exact digs_less _h
theorem digs_last {q i bias:Nat} (h:q<bnd i bias):digs q i bias=[dgt q]:=by rw[digs,dif_pos h]
theorem digs_more {q i bias:Nat} (h:¬q<bnd i bias):digs q i bias=dgt (bnd i bias+(q - bnd i bias) % (36 - bnd i bias))::digs ((q - bnd i bias) / (36 - bnd i bias)) (i+1) bias:=by rw[digs,dif_neg h]
theorem digs_length (q i bias:Nat):(digs q i bias).length≤q+1:=by
 induction q using Nat.strongRecOn generalizing i with
 |_ q ih=>
  by_cases h:q<bnd i bias
  ·rw[digs_last h];simp
  ·rw[digs_more h]
   have h1:=digs_less h
   have:=ih _ h1 (i+1)
   simp only[List.length_cons]
   omega
theorem digs_short (q i bias:Nat):∀k,q<10 ^ k→(digs q i bias).length≤k+1:=by
 induction q using Nat.strongRecOn generalizing i with
 |_ q ih=>
  intro k hk
  by_cases h:q<bnd i bias
  ·rw[digs_last h];simp
  ·rw[digs_more h]
   have h1:=digs_less h
   have h2:=bnd_pos i bias
   have h3:=bnd_le i bias
   cases k with
   |zero=>simp at hk;omega
   |succ k=>
    have h4:(q - bnd i bias) / (36 - bnd i bias)<10 ^ k:=by
     rw[Nat.div_lt_iff_lt_mul (by omega)]
     rw[Nat.pow_succ]at hk
     have:10 ^ k*10≤10 ^ k*(36 - bnd i bias):=Nat.mul_le_mul_left _ (by omega)
     omega
    have:=ih _ h1 (i+1) k h4
    simp only[List.length_cons]
    omega
def biasL (d k:Nat):Nat:=if _h:455<d then biasL (d / 35) (k+36) else k+36*d / (d+38)
termination_by d
decreasing_by omega
theorem biasL_go {d k:Nat} (h:455<d):biasL d k=biasL (d / 35) (k+36):=by rw[biasL,dif_pos h]
theorem biasL_end {d k:Nat} (h:¬455<d):biasL d k=k+36*d / (d+38):=by rw[biasL,dif_neg h]
theorem biasL_le (d:Nat):∀k,biasL d k≤k+d+36:=by
 induction d using Nat.strongRecOn with
 |_ d ih=>
  intro k
  by_cases h:455<d
  ·rw[biasL_go h]
   have:=ih (d / 35) (by omega) (k+36)
   omega
  ·rw[biasL_end h]
   have:36*d / (d+38)≤36:=by
    rw[←Nat.lt_succ_iff,Nat.div_lt_iff_lt_mul (by omega)]
    omega
   omega
def biasB (s h:Nat) (first:Bool):Nat:=biasL ((if first then s / 700 else s / 2)+(if first then s / 700 else s / 2) / h) 0
theorem biasB_le (s h:Nat) (first:Bool):biasB s h first≤2*s+36:=by
 unfold biasB
 have h1:(if first then s / 700 else s / 2)≤s / 2:=by split<;>omega
 generalize (if first then s / 700 else s / 2)=d at h1
 have:=Nat.div_le_self d h
 have:=biasL_le (d+d / h) 0
 omega
def rn (l:List Int) (k:Nat):Int:=l.getD k 0
theorem rn_get (l:List Int) (k:Nat) (h:k<l.length):rn l k=l[k]:=by simp[rn,List.getD_eq_getElem?_getD,List.getElem?_eq_getElem h]
def ltW (l:List Int) (a b:Nat):Bool:=decide (rn l a<rn l b∨(rn l a=rn l b∧a<b))
def leW (l:List Int) (a b:Nat):Bool:=!ltW l b a
theorem leW_iff (l:List Int) (a b:Nat):leW l a b=true↔(rn l a<rn l b∨(rn l a=rn l b∧a≤b)):=by
 unfold leW ltW
 simp only[Bool.not_eq_true',decide_eq_false_iff_not]
 omega
theorem leW_trans (l:List Int) (a b c:Nat) (h1:leW l a b=true) (h2:leW l b c=true):leW l a c=true:=by
 rw[leW_iff]at*
 omega
theorem leW_total (l:List Int) (a b:Nat):(leW l a b||leW l b a)=true:=by
 rw[Bool.or_eq_true,leW_iff,leW_iff]
 omega
def wideK (l:List Int) (k:Nat):List Nat:=(List.range k).filter fun j=>decide (128≤rn l j)
theorem wideK_succ (l:List Int) (k:Nat):wideK l (k+1)=wideK l k++(if 128≤rn l k then [k] else []):=by
 unfold wideK
 rw[List.range_succ,List.filter_append]
 congr 1
 by_cases h:128≤rn l k
 ·simp[h]
 ·simp[h]
theorem wideK_lt {l:List Int} {k j:Nat} (h:j∈wideK l k):j<k∧128≤rn l j:=by
 unfold wideK at h
 rw[List.mem_filter]at h
 exact⟨List.mem_range.1 h.1,by simpa using h.2⟩
theorem wideK_length (l:List Int) (k:Nat):(wideK l k).length≤k:=by
 have:=List.length_filter_le (fun j=>decide (128≤rn l j)) (List.range k)
 rw[List.length_range]at this
 exact this
def ordW (l:List Int):List Nat:=(wideK l l.length).mergeSort (leW l)
theorem ordW_mem {l:List Int} {j:Nat} (h:j∈ordW l):j<l.length∧128≤rn l j:=by
 unfold ordW at h
 rw[List.mem_mergeSort]at h
 exact wideK_lt h
theorem ordW_length (l:List Int):(ordW l).length≤l.length:=by
 unfold ordW
 rw[List.length_mergeSort]
 exact wideK_length l l.length
def stp (l:List Int) (f:Nat→Int) (n:Int) (i h at':Nat):Int:=(rn l at' - n)*((h:Int)+1)+pre f at' - i
def punL (l:List Int):List Nat→(Nat→Int)→Int→Nat→Nat→Nat→Bool→Option (List UInt8)
 |[],_,_,_,_,_,_=>some []
 |at'::rest,f,n,i,h,bias,first=>
  if 2147483647<stp l f n i h at' then none
  else (punL l rest (put1 f at' 1) (rn l at') ((pre f at').toNat+1) (h+1) (biasB (stp l f n i h at').toNat (h+1) first) false).map fun d=>digs (stp l f n i h at').toNat 0 bias++d
def lowF (l:List Int) (k:Nat):Nat→Int:=fun j=>if j<k∧rn l j<128 then 1 else 0
def lowB (l:List Int) (k:Nat):List UInt8:=((l.take k).filter fun r=>decide (r<128)).map fun r=>UInt8.ofNat r.toNat
def punH (l:List Int):List UInt8:=lowB l l.length++(if lowB l l.length=[] then [] else [45])
def punD (l:List Int):Option (List UInt8):=punL l (ordW l) (lowF l l.length) 128 0 (lowB l l.length).length 72 true
structure PunOk (l:List Int) (rest:List Nat) (f:Nat→Int) (n:Int) (i h:Nat):Prop where
 f01:F01 f
 tot:pre f l.length=h
 ile:i≤h
 n01:0≤n∧n≤1114111
 nxt:∀j∈rest,j<l.length∧f j=0∧128≤rn l j∧rn l j≤1114111∧(n<rn l j∨(n=rn l j∧(i:Int)≤pre f j))
 srt:rest.Pairwise fun a b=>rn l a<rn l b∨(rn l a=rn l b∧a<b)
theorem PunOk.pre0 {l:List Int} {rest:List Nat} {f:Nat→Int} {n:Int} {i h:Nat} (H:PunOk l rest f n i h) (j:Nat):0≤pre f j:=by
 have:=pre_mono f H.f01.1 (a:=0) (b:=j) (Nat.zero_le _)
 simpa [pre] using this
theorem PunOk.preh {l:List Int} {rest:List Nat} {f:Nat→Int} {n:Int} {i h:Nat} (H:PunOk l rest f n i h) {j:Nat} (hj:j≤l.length):pre f j≤h:=by
 have:=pre_mono f H.f01.1 hj
 rw[H.tot]at this
 exact this
theorem PunOk.hle {l:List Int} {rest:List Nat} {f:Nat→Int} {n:Int} {i h:Nat} (H:PunOk l rest f n i h):h≤l.length:=by
 have:=pre_le f H.f01.2 l.length
 rw[H.tot]at this
 omega
theorem PunOk.step0 {l:List Int} {rest:List Nat} {f:Nat→Int} {n:Int} {i h at':Nat} (H:PunOk l (at'::rest) f n i h):0≤stp l f n i h at':=by
 obtain⟨h1,h2,h3,h4,h5⟩:=H.nxt at' List.mem_cons_self
 have hp:=H.pre0 at'
 have hi:=H.ile
 unfold stp
 rcases h5 with h5|⟨h5,h6⟩
 ·have:1*((h:Int)+1)≤(rn l at' - n)*((h:Int)+1):=Int.mul_le_mul_of_nonneg_right (by omega) (by omega)
  omega
 ·rw[h5,Int.sub_self,Int.zero_mul]
  omega
theorem PunOk.step {l:List Int} {rest:List Nat} {f:Nat→Int} {n:Int} {i h at':Nat} (H:PunOk l (at'::rest) f n i h):PunOk l rest (put1 f at' 1) (rn l at') ((pre f at').toNat+1) (h+1):=by
 obtain⟨h1,h2,h3,h4,h5⟩:=H.nxt at' List.mem_cons_self
 have hp:=H.pre0 at'
 have hph:=H.preh (Nat.le_of_lt h1)
 have hs:=List.pairwise_cons.1 H.srt
 refine⟨H.f01.put at' 1 (by omega) (by omega),?_,by omega,⟨by omega,h4⟩,fun j hj=>?_,hs.2⟩
 ·rw[pre_put,if_pos h1,H.tot]
  push_cast
  rfl
 ·obtain⟨g1,g2,g3,g4,_⟩:=H.nxt j (List.mem_cons_of_mem _ hj)
  have ho:=hs.1 j hj
  have hne:j≠at':=by
   intro e
   subst e
   omega
  refine⟨g1,?_,g3,g4,?_⟩
  ·unfold put1
   rw[if_neg hne]
   exact g2
  ·rcases ho with ho|⟨ho,hlt⟩
   ·exact .inl ho
   ·refine .inr ⟨ho,?_⟩
    rw[pre_put,if_pos hlt]
    have:=pre_mono f H.f01.1 (Nat.le_of_lt hlt)
    omega
theorem lowF_01 (l:List Int) (k:Nat):F01 (lowF l k):=⟨fun j=>by unfold lowF;split<;>omega,fun j=>by unfold lowF;split<;>omega⟩
theorem lowF_zero (l:List Int) (j:Nat):lowF l 0 j=0:=by unfold lowF;rw[if_neg (by omega)]
theorem lowF_yes (l:List Int) (k:Nat) (h:rn l k<128):∀j,lowF l (k+1) j=put1 (lowF l k) k 1 j:=by
 intro j
 unfold lowF put1
 simp only
 by_cases e:j=k
 ·subst e
  rw[if_pos ⟨by omega,h⟩,if_pos rfl,if_neg (by omega)]
  omega
 ·rw[if_neg e]
  by_cases hj:j<k∧rn l j<128
  ·rw[if_pos ⟨by omega,hj.2⟩,if_pos hj]
  ·rw[if_neg (by omega),if_neg hj]
theorem lowF_no (l:List Int) (k:Nat) (h:¬rn l k<128):lowF l (k+1)=lowF l k:=by
 funext j
 unfold lowF
 by_cases e:j=k
 ·subst e
  rw[if_neg (fun x=>h x.2),if_neg (fun x=>h x.2)]
 ·by_cases hj:j<k∧rn l j<128
  ·rw[if_pos ⟨by omega,hj.2⟩,if_pos hj]
  ·rw[if_neg (by omega),if_neg hj]
theorem lowB_yes (l:List Int) (k:Nat) (hk:k<l.length) (h:l[k]<128):lowB l (k+1)=lowB l k++[UInt8.ofNat l[k].toNat]:=by
 unfold lowB
 rw[List.take_succ_eq_append_getElem hk,List.filter_append,List.map_append]
 simp[h]
theorem lowB_no (l:List Int) (k:Nat) (hk:k<l.length) (h:¬l[k]<128):lowB l (k+1)=lowB l k:=by
 unfold lowB
 rw[List.take_succ_eq_append_getElem hk,List.filter_append,List.map_append]
 simp[h]
theorem lowB_length (l:List Int) (k:Nat):(lowB l k).length≤k:=by
 unfold lowB
 rw[List.length_map]
 have:=List.length_filter_le (fun r=>decide (r<128)) (l.take k)
 rw[List.length_take]at this
 omega
theorem lowF_tot (l:List Int) (k:Nat) (hk:k≤l.length):∀m,k≤m→pre (lowF l k) m=(lowB l k).length:=by
 induction k with
 |zero=>
  intro m _
  rw[pre_ext (lowF l 0) (fun _=>0) m (fun j _=>lowF_zero l j),pre_zero]
  rfl
 |succ k ih=>
  intro m hm
  have hr:=rn_get l k (by omega)
  by_cases h:l[k]<128
  ·rw[lowB_yes l k (by omega) h,pre_ext _ _ m (fun j _=>lowF_yes l k (by rw[hr];exact h) j),pre_put,if_pos (by omega),ih (by omega) m (by omega),List.length_append]
   push_cast
   rfl
  ·rw[lowB_no l k (by omega) h,lowF_no l k (by rw[hr];exact h),ih (by omega) m (by omega)]
theorem pairwise_ord (l:List Int):(ordW l).Pairwise fun a b=>rn l a<rn l b∨(rn l a=rn l b∧a<b):=by
 have h1:(ordW l).Pairwise fun a b=>leW l a b=true:=List.pairwise_mergeSort (fun a b c=>leW_trans l a b c) (fun a b=>leW_total l a b) _
 have h2:(ordW l).Nodup:=by
  unfold ordW
  rw[(List.mergeSort_perm _ _).nodup_iff]
  unfold wideK
  exact List.Pairwise.filter _ List.nodup_range
 refine(List.Pairwise.and h1 h2).imp ?_
 intro a b ⟨h,hne⟩
 rw[leW_iff]at h
 omega
theorem punOk_start (l:List Int) (h:∀r∈l,isR r):PunOk l (ordW l) (lowF l l.length) 128 0 (lowB l l.length).length:=by
 refine⟨lowF_01 l _,lowF_tot l _ (Nat.le_refl _) _ (Nat.le_refl _),Nat.zero_le _,by omega,fun j hj=>?_,pairwise_ord l⟩
 obtain⟨h1,h2⟩:=ordW_mem hj
 have h3:=h l[j] (List.getElem_mem h1)
 have h4:=rn_get l j h1
 refine⟨h1,?_,h2,by rw[h4];exact h3.2.1,?_⟩
 ·unfold lowF
  rw[if_neg (by omega)]
 ·have:=pre_mono (lowF l l.length) (lowF_01 l _).1 (a:=0) (b:=j) (Nat.zero_le _)
  simp only[pre]at this
  omega
end Go.Proofs.YtfjpkfhbmldmfaaGreatDoor
namespace Go.Proofs
def Tryz.laysSlF6_f235_ren:Go.Shelf.Ren:=⟨fun|6=>235|15=>250|14=>249|28=>269|29=>230|20=>261|21=>262|22=>263|23=>264|24=>265|25=>266|26=>267|27=>268|46=>273|47=>274|48=>275|49=>276|50=>277|57=>279|n=>n,fun|22=>135|24=>3|25=>243|3=>3|39=>155|0=>0|53=>237|55=>153|4=>4|46=>266|45=>265|50=>188|5=>5|9=>9|66=>274|70=>278|76=>283|77=>157|n=>n,fun|n=>n⟩
theorem Tryz.laysSlF6_f235:Go.Proofs.SlLaysF.n6 Tryz.prog Tryz.laysSlF6_f235_ren:={
 mixed:=by kernel_rfl
 f6:=⟨Tryz.f235.name,by decide,Tryz.func235.trans (congrArg some (by kernel_rfl))⟩
 f14:=⟨Tryz.f249.name,by decide,Tryz.func249.trans (congrArg some (by kernel_rfl))⟩
 f15:=Tryz.func250.trans (congrArg some (by kernel_rfl))
 f20:=⟨Tryz.f261.name,by decide,Tryz.func261.trans (congrArg some (by kernel_rfl))⟩
 f21:=⟨Tryz.f262.name,by decide,Tryz.func262.trans (congrArg some (by kernel_rfl))⟩
 f22:=⟨Tryz.f263.name,by decide,Tryz.func263.trans (congrArg some (by kernel_rfl))⟩
 f23:=⟨Tryz.f264.name,by decide,Tryz.func264.trans (congrArg some (by kernel_rfl))⟩
 f24:=⟨Tryz.f265.name,by decide,Tryz.func265.trans (congrArg some (by kernel_rfl))⟩
 f25:=⟨Tryz.f266.name,by decide,Tryz.func266.trans (congrArg some (by kernel_rfl))⟩
 f26:=⟨Tryz.f267.name,by decide,Tryz.func267.trans (congrArg some (by kernel_rfl))⟩
 f27:=⟨Tryz.f268.name,by decide,Tryz.func268.trans (congrArg some (by kernel_rfl))⟩
 f28:=Tryz.func269.trans (congrArg some (by kernel_rfl))
 f29:=Tryz.func230.trans (congrArg some (by kernel_rfl))
 f46:=⟨Tryz.f273.name,by decide,Tryz.func273.trans (congrArg some (by kernel_rfl))⟩
 f47:=Tryz.func274.trans (congrArg some (by kernel_rfl))
 f48:=Tryz.func275.trans (congrArg some (by kernel_rfl))
 f49:=⟨Tryz.f276.name,by decide,Tryz.func276.trans (congrArg some (by kernel_rfl))⟩
 f50:=⟨Tryz.f277.name,by decide,Tryz.func277.trans (congrArg some (by kernel_rfl))⟩
 f57:=⟨Tryz.f279.name,by decide,Tryz.func279.trans (congrArg some (by kernel_rfl))⟩
 t0:=Tryz.underlying0
 a0:=Tryz.isAgg0
 z0:=Tryz.sizeOf0
 v0:=Tryz.zeroValue0
 t3:=Tryz.underlying3
 a3:=Tryz.isAgg3
 z3:=Tryz.sizeOf3
 v3:=Tryz.zeroValue3
 t4:=Tryz.underlying4
 a4:=Tryz.isAgg4
 z4:=Tryz.sizeOf4
 v4:=Tryz.zeroValue4
 t5:=Tryz.underlying5
 a5:=Tryz.isAgg5
 z5:=Tryz.sizeOf5
 v5:=Tryz.zeroValue5
 t9:=Tryz.underlying9
 a9:=Tryz.isAgg9
 z9:=Tryz.sizeOf9
 v9:=Tryz.zeroValue9
 t22:=Tryz.underlying135
 a22:=Tryz.isAgg135
 z22:=Tryz.sizeOf135
 v22:=Tryz.zeroValue135
 a24:=Tryz.isAgg3
 z24:=Tryz.sizeOf3
 t25:=Tryz.underlying243
 a25:=Tryz.isAgg243
 z25:=Tryz.sizeOf243
 v25:=Tryz.zeroValue243
 t39:=Tryz.underlying155
 a39:=Tryz.isAgg155
 z39:=Tryz.sizeOf155
 v39:=Tryz.zeroValue155
 t45:=Tryz.underlying265
 a45:=Tryz.isAgg265
 z45:=Tryz.sizeOf265
 v45:=Tryz.zeroValue265
 t46:=Tryz.underlying266
 a46:=Tryz.isAgg266
 z46:=Tryz.sizeOf266
 v46:=Tryz.zeroValue266
 t50:=Tryz.underlying188
 a50:=Tryz.isAgg188
 z50:=Tryz.sizeOf188
 v50:=Tryz.zeroValue188
 t53:=Tryz.underlying237
 a53:=Tryz.isAgg237
 z53:=Tryz.sizeOf237
 v53:=Tryz.zeroValue237
 t55:=Tryz.underlying153
 a55:=Tryz.isAgg153
 z55:=Tryz.sizeOf153
 v55:=Tryz.zeroValue153
 t66:=Tryz.underlying274
 a66:=Tryz.isAgg274
 z66:=Tryz.sizeOf274
 v66:=Tryz.zeroValue274
 t70:=Tryz.underlying278
 a70:=Tryz.isAgg278
 z70:=Tryz.sizeOf278
 v70:=Tryz.zeroValue278
 t76:=Tryz.underlying283
 a76:=Tryz.isAgg283
 z76:=Tryz.sizeOf283
 v76:=Tryz.zeroValue283
 t77:=Tryz.underlying157
 a77:=Tryz.isAgg157
 z77:=Tryz.sizeOf157
 v77:=Tryz.zeroValue157}
def Tryz.laysSlF06_f235_ren:Go.Shelf.Ren:=⟨fun|6=>235|15=>250|14=>249|28=>269|29=>230|20=>261|21=>262|22=>263|23=>264|24=>265|25=>266|26=>267|27=>268|46=>273|47=>274|48=>275|49=>276|50=>277|57=>279|n=>n,fun|22=>135|24=>3|25=>243|3=>3|39=>155|0=>0|53=>237|55=>153|4=>4|46=>266|45=>265|50=>188|5=>5|9=>9|66=>274|70=>278|76=>283|77=>157|n=>n,fun|n=>n⟩
theorem Tryz.laysSlF06_f235:Go.Proofs.SlLaysF0.n6 Tryz.prog Tryz.laysSlF06_f235_ren:={
 mixed:=by kernel_rfl
 f6:=⟨Tryz.f235.name,by decide,Tryz.func235.trans (congrArg some (by kernel_rfl))⟩
 f14:=⟨Tryz.f249.name,by decide,Tryz.func249.trans (congrArg some (by kernel_rfl))⟩
 f15:=Tryz.func250.trans (congrArg some (by kernel_rfl))
 f20:=⟨Tryz.f261.name,by decide,Tryz.func261.trans (congrArg some (by kernel_rfl))⟩
 f21:=⟨Tryz.f262.name,by decide,Tryz.func262.trans (congrArg some (by kernel_rfl))⟩
 f22:=⟨Tryz.f263.name,by decide,Tryz.func263.trans (congrArg some (by kernel_rfl))⟩
 f23:=⟨Tryz.f264.name,by decide,Tryz.func264.trans (congrArg some (by kernel_rfl))⟩
 f24:=⟨Tryz.f265.name,by decide,Tryz.func265.trans (congrArg some (by kernel_rfl))⟩
 f25:=⟨Tryz.f266.name,by decide,Tryz.func266.trans (congrArg some (by kernel_rfl))⟩
 f26:=⟨Tryz.f267.name,by decide,Tryz.func267.trans (congrArg some (by kernel_rfl))⟩
 f27:=⟨Tryz.f268.name,by decide,Tryz.func268.trans (congrArg some (by kernel_rfl))⟩
 f28:=Tryz.func269.trans (congrArg some (by kernel_rfl))
 f29:=Tryz.func230.trans (congrArg some (by kernel_rfl))
 f46:=⟨Tryz.f273.name,by decide,Tryz.func273.trans (congrArg some (by kernel_rfl))⟩
 f47:=Tryz.func274.trans (congrArg some (by kernel_rfl))
 f48:=Tryz.func275.trans (congrArg some (by kernel_rfl))
 f49:=⟨Tryz.f276.name,by decide,Tryz.func276.trans (congrArg some (by kernel_rfl))⟩
 f50:=⟨Tryz.f277.name,by decide,Tryz.func277.trans (congrArg some (by kernel_rfl))⟩
 f57:=⟨Tryz.f279.name,by decide,Tryz.func279.trans (congrArg some (by kernel_rfl))⟩
 t0:=Tryz.underlying0
 a0:=Tryz.isAgg0
 z0:=Tryz.sizeOf0
 v0:=Tryz.zeroValue0
 t3:=Tryz.underlying3
 a3:=Tryz.isAgg3
 z3:=Tryz.sizeOf3
 v3:=Tryz.zeroValue3
 t4:=Tryz.underlying4
 a4:=Tryz.isAgg4
 z4:=Tryz.sizeOf4
 v4:=Tryz.zeroValue4
 t5:=Tryz.underlying5
 a5:=Tryz.isAgg5
 z5:=Tryz.sizeOf5
 v5:=Tryz.zeroValue5
 t9:=Tryz.underlying9
 a9:=Tryz.isAgg9
 z9:=Tryz.sizeOf9
 v9:=Tryz.zeroValue9
 t22:=Tryz.underlying135
 a22:=Tryz.isAgg135
 z22:=Tryz.sizeOf135
 v22:=Tryz.zeroValue135
 t25:=Tryz.underlying243
 a25:=Tryz.isAgg243
 z25:=Tryz.sizeOf243
 v25:=Tryz.zeroValue243
 t39:=Tryz.underlying155
 a39:=Tryz.isAgg155
 z39:=Tryz.sizeOf155
 v39:=Tryz.zeroValue155
 t45:=Tryz.underlying265
 a45:=Tryz.isAgg265
 z45:=Tryz.sizeOf265
 v45:=Tryz.zeroValue265
 t46:=Tryz.underlying266
 a46:=Tryz.isAgg266
 z46:=Tryz.sizeOf266
 v46:=Tryz.zeroValue266
 t50:=Tryz.underlying188
 a50:=Tryz.isAgg188
 z50:=Tryz.sizeOf188
 v50:=Tryz.zeroValue188
 t53:=Tryz.underlying237
 a53:=Tryz.isAgg237
 z53:=Tryz.sizeOf237
 v53:=Tryz.zeroValue237
 t55:=Tryz.underlying153
 a55:=Tryz.isAgg153
 z55:=Tryz.sizeOf153
 v55:=Tryz.zeroValue153
 t66:=Tryz.underlying274
 a66:=Tryz.isAgg274
 z66:=Tryz.sizeOf274
 v66:=Tryz.zeroValue274
 t70:=Tryz.underlying278
 a70:=Tryz.isAgg278
 z70:=Tryz.sizeOf278
 v70:=Tryz.zeroValue278
 t76:=Tryz.underlying283
 a76:=Tryz.isAgg283
 z76:=Tryz.sizeOf283
 v76:=Tryz.zeroValue283
 t77:=Tryz.underlying157
 a77:=Tryz.isAgg157
 z77:=Tryz.sizeOf157
 v77:=Tryz.zeroValue157}
open Go.RowKit Go.Lib Go.Sort in
theorem Tryz.slices_SortFunc_none {α:Type} [Inhabited α] (p:Option Addr) (cap:Nat) (fv:Value) (w:World):
 Calls Tryz.prog 235 #[.slice p 0 cap,fv] w fun e w'=>e=.returned (.tuple #[])∧w'=w:=AnyF.slices_SortFunc_none Tryz.laysSlF06_f235 p cap fv w
open Go.RowKit Go.Lib Go.Sort in
theorem Tryz.slices_SortFunc_total {α:Type} [Inhabited α] (enc:α→Value) (h1:OneCell enc) (cf:α→α→Int) (hO:SWO (ltOf cf)) (g:Nat) (cb:Array Value) (blk off cap:Nat) (d:Array α) (w:World) (eg:∀args w,(callFunc g args).run Tryz.prog w=.ok (.enter g args) w) (hcmp:CmpLays1 Tryz.prog g cb enc cf blk off d.size w) (hH:Holds enc w blk off d) (hblk:blk<w.heap.size) (hsz:d.size<4611686018427387904) (hT:∀x y,(ltOf cf) x y=false→(ltOf cf) y x=false→x=y):
 Calls Tryz.prog 235 #[.slice (some ⟨blk,off,none⟩) d.size cap,.func (.func g) #[] cb] w fun e w'=>
  e=.returned (.tuple #[])∧∃n os,w'=sortWorld enc w blk off n (d.toList.mergeSort fun x y=>!(ltOf cf) y x).toArray os:=Any.slices_SortFunc_total Tryz.laysSlF6_f235 enc h1 cf hO g cb blk off cap d w eg hcmp hH hblk hsz hT
end Go.Proofs
namespace Go.Proofs.YtfjpkfhbmldmfaaGreatDoor
open Go.RowKit
def cmpI (x y:Int):Int:=if x<y then -1 else if y<x then 1 else 0
set_option maxHeartbeats 1000000 in
set_option maxRecDepth 100000 in
theorem nanr_any (x:Int) (w:World):Calls Tryz.prog 251 #[.int .i32 x] w fun e w'=>e=.returned (.bool false)∧w'=w:=by
 have hb:(x != x)=false:=by simp
 go_enter Tryz.func251,Tryz.ntmps251
 go_wp2
 go_ret
 exact⟨rfl,rfl⟩
set_option maxHeartbeats 1000000 in
set_option maxRecDepth 100000 in
theorem nani_any (x:Int) (w:World):Calls Tryz.prog 252 #[.int .i64 x] w fun e w'=>e=.returned (.bool false)∧w'=w:=by
 have hb:(x != x)=false:=by simp
 go_enter Tryz.func252,Tryz.ntmps252
 go_wp2
 go_ret
 exact⟨rfl,rfl⟩
set_option maxHeartbeats 1000000 in
set_option maxRecDepth 100000 in
theorem cmpr_any (x y:Int) (w:World):Calls Tryz.prog 238 #[.int .i32 x,.int .i32 y] w fun e w'=>e=.returned (.int .i64 (cmpI x y))∧w'=w:=by
 have h1:=nanr_any x w
 have h2:=nanr_any y w
 by_cases c1:x<y
 ·have HC:Hid (cmpI x y= -1):=if_pos c1
  go_enter Tryz.func238,Tryz.ntmps238
  go_wp2_with fail
  refine h1.mono ?_
  rintro e w' ⟨rfl,rfl⟩
  go_wp2_with fail
  refine h2.mono ?_
  rintro e w' ⟨rfl,rfl⟩
  go_wp2
  go_ret
  exact⟨ret_i64 HC.out.symm,rfl⟩
 by_cases c2:y<x
 ·have HC:Hid (cmpI x y=1):=by show _=_;unfold cmpI;rw[if_neg c1,if_pos c2]
  go_enter Tryz.func238,Tryz.ntmps238
  go_wp2_with fail
  refine h1.mono ?_
  rintro e w' ⟨rfl,rfl⟩
  go_wp2_with fail
  refine h2.mono ?_
  rintro e w' ⟨rfl,rfl⟩
  go_wp2
  go_ret
  exact⟨ret_i64 HC.out.symm,rfl⟩
 ·have HC:Hid (cmpI x y=0):=by show _=_;unfold cmpI;rw[if_neg c1,if_neg c2]
  go_enter Tryz.func238,Tryz.ntmps238
  go_wp2_with fail
  refine h1.mono ?_
  rintro e w' ⟨rfl,rfl⟩
  go_wp2_with fail
  refine h2.mono ?_
  rintro e w' ⟨rfl,rfl⟩
  go_wp2
  go_ret
  exact⟨ret_i64 HC.out.symm,rfl⟩
set_option maxHeartbeats 1000000 in
set_option maxRecDepth 100000 in
theorem cmpi_any (x y:Int) (w:World):Calls Tryz.prog 239 #[.int .i64 x,.int .i64 y] w fun e w'=>e=.returned (.int .i64 (cmpI x y))∧w'=w:=by
 have h1:=nani_any x w
 have h2:=nani_any y w
 by_cases c1:x<y
 ·have HC:Hid (cmpI x y= -1):=if_pos c1
  go_enter Tryz.func239,Tryz.ntmps239
  go_wp2_with fail
  refine h1.mono ?_
  rintro e w' ⟨rfl,rfl⟩
  go_wp2_with fail
  refine h2.mono ?_
  rintro e w' ⟨rfl,rfl⟩
  go_wp2
  go_ret
  exact⟨ret_i64 HC.out.symm,rfl⟩
 by_cases c2:y<x
 ·have HC:Hid (cmpI x y=1):=by show _=_;unfold cmpI;rw[if_neg c1,if_pos c2]
  go_enter Tryz.func239,Tryz.ntmps239
  go_wp2_with fail
  refine h1.mono ?_
  rintro e w' ⟨rfl,rfl⟩
  go_wp2_with fail
  refine h2.mono ?_
  rintro e w' ⟨rfl,rfl⟩
  go_wp2
  go_ret
  exact⟨ret_i64 HC.out.symm,rfl⟩
 ·have HC:Hid (cmpI x y=0):=by show _=_;unfold cmpI;rw[if_neg c1,if_neg c2]
  go_enter Tryz.func239,Tryz.ntmps239
  go_wp2_with fail
  refine h1.mono ?_
  rintro e w' ⟨rfl,rfl⟩
  go_wp2_with fail
  refine h2.mono ?_
  rintro e w' ⟨rfl,rfl⟩
  go_wp2
  go_ret
  exact⟨ret_i64 HC.out.symm,rfl⟩
def orI (x y:Int):Int:=if x=0 then y else x
set_option maxHeartbeats 1000000 in
set_option maxRecDepth 100000 in
theorem cmpor_any (g:Nat) (x y:Int) (w:World) (h0:w.cell? ⟨g,0,none⟩=some (.int .i64 x)) (h1:w.cell? ⟨g,1,none⟩=some (.int .i64 y)):Calls Tryz.prog 237 #[.slice (some ⟨g,0,none⟩) 2 2] w fun e w'=>e=.returned (.int .i64 (orI x y))∧w'=w:=by
 by_cases c1:x=0
 ·have HC:Hid (orI x y=y):=if_pos c1
  have q1:(x != 0)=false:=by simp[c1]
  by_cases c2:y=0
  ·have q2:(y != 0)=false:=by simp[c2]
   have HZ:Hid (y=0):=c2
   clear c1 c2
   go_enter Tryz.func237,Tryz.ntmps237
   go_wp2_with fail
   refine wp_loop_rounds 3 ?_
   rw[rounds_succ]
   go_wp2_with fail
   rw[rounds_succ]
   go_wp2_with fail
   rw[rounds_succ]
   go_wp2
   go_ret
   exact⟨ret_i64 (by rw[HC.out,HZ.out]),rfl⟩
  ·have q2:(y != 0)=true:=by simp[c2]
   clear c1 c2
   go_enter Tryz.func237,Tryz.ntmps237
   go_wp2_with fail
   refine wp_loop_rounds 3 ?_
   rw[rounds_succ]
   go_wp2_with fail
   rw[rounds_succ]
   go_wp2
   go_ret
   exact⟨ret_i64 (by rw[HC.out]),rfl⟩
 ·have HC:Hid (orI x y=x):=if_neg c1
  have q1:(x != 0)=true:=by simp[c1]
  clear c1
  go_enter Tryz.func237,Tryz.ntmps237
  go_wp2_with fail
  refine wp_loop_rounds 3 ?_
  rw[rounds_succ]
  go_wp2
  go_ret
  exact⟨ret_i64 (by rw[HC.out]),rfl⟩
open Go.RowKit
set_option maxHeartbeats 2000000 in
set_option maxRecDepth 100000 in
theorem clo_any (lb:Nat) (a:Option Addr) (l:List Int) (cap:Nat) (x y:Nat) (hx:x<l.length) (hy:y<l.length) (w:World) (hl:w.cell? ⟨lb,0,none⟩=some (.slice a l.length cap)) (hn:Nts .i32 a l w):
  Calls Tryz.prog 236 #[.int .i64 x,.int .i64 y,.pointer (some ⟨lb,0,none⟩)] w fun e w'=>e=.returned (.int .i64 (orI (cmpI l[x] l[y]) (cmpI x y)))∧∃q os,w'=Sort.grow (w.drewN q) os:=by
 obtain⟨g,o,rfl,hg,cx⟩:=hn.cell x hx
 obtain⟨g',o',e',_,cy⟩:=hn.cell y hy
 injection e' with e'
 injection e' with e1 e2
 subst e1 e2
 have hlb:lb<w.heap.size:=World.block_lt_of_cell? w _ hl
 have hx':(x:Int)<l.length:=by omega
 have hy':(y:Int)<l.length:=by omega
 have HR:Hid (∀wx,Calls Tryz.prog 238 #[.int .i32 l[x],.int .i32 l[y]] wx fun e w'=>e=.returned (.int .i64 (cmpI l[x] l[y]))∧w'=wx):=fun wx=>cmpr_any _ _ wx
 have HI:Hid (∀wx,Calls Tryz.prog 239 #[.int .i64 x,.int .i64 y] wx fun e w'=>e=.returned (.int .i64 (cmpI x y))∧w'=wx):=fun wx=>cmpi_any _ _ wx
 generalize cmpI l[x] l[y]=A at HR ⊢
 generalize cmpI x y=B at HI ⊢
 clear hn
 go_enter Tryz.func236,Tryz.ntmps236
 go_wp2_with fail
 go_region_with (first|(go_at_call 238;refine(HR.out _).mono ?_;rintro e w' ⟨rfl,rfl⟩)|(go_at_call 239;refine(HI.out _).mono ?_;rintro e w' ⟨rfl,rfl⟩)|(go_at_call 237;refine(cmpor_any _ A B _ (by simp) (by simp)).mono ?_;rintro e w' ⟨rfl,rfl⟩))
 all_goals (try simp only[Act.put,List.setIfInBounds_toArray,List.set_cons_zero,List.set_cons_succ,List.getElem_toArray,List.getElem_cons_succ,List.getElem_cons_zero])
 all_goals go_wp2
 all_goals go_ret
 all_goals exact⟨rfl,1,#[.cells #[.int .i64 A,.int .i64 B] 3],by rw[Sort.alloc_eq_grow];rfl⟩
end Go.Proofs.YtfjpkfhbmldmfaaGreatDoor
