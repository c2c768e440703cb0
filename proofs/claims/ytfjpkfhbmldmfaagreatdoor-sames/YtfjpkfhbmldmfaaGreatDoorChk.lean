/-
  Worlds that have grown, one behind the other.
-/
import Derived.Test.YtfjpkfhbmldmfaaGreatDoorBase
import Derived.Lib.RuneBytes
namespace Go.Proofs.YtfjpkfhbmldmfaaGreatDoor
open Go.RowKit
theorem grown_on {w w1 w2:World} {row row2:Option Nat} (h1:w.grownBy w1 row) (h2:w1.grownBy w2 row2) (h:∀k,row2=some k→some k=row∨w.heap.size≤k):w.grownBy w2 row:=
 ⟨h2.os.trans h1.os,h2.tape.trans h1.tape,h2.output.trans h1.output,Nat.le_trans h1.size h2.size,fun k hk hne=>(h2.block k (Nat.lt_of_lt_of_le hk h1.size) (fun e=>by
  rcases h k e.symm with h'|h'
  ·exact hne h'
  ·omega)).trans (h1.block k hk hne)⟩
theorem base_le {w:World} {base base' e size n:Nat} {v:Value} {xs:List Value} (h:w.ownsRow base e size v n xs) (hb:base'≤base):w.ownsRow base' e size v n xs:=by
 obtain⟨h1,h2⟩:=h
 refine⟨h1,?_⟩
 rcases h2 with h2|⟨g,cap,cur,hv,hg,r⟩
 ·exact .inl h2
 ·exact .inr ⟨g,cap,cur,hv,by omega,r⟩
def isR (x:Int):Prop:=0≤x∧x≤1114111∧(x<55296∨57343<x)
instance (x:Int):Decidable (isR x):=by unfold isR;infer_instance
abbrev Q:=Nat×Nat×Nat
def q0:Q:=(0,0,0)
def begQ (b:Nat):Option Q:=
 if b<128 then some (0,0,0)
 else if 194≤b∧b≤223 then some (1,128,191)
 else if 224≤b∧b≤224 then some (2,160,191)
 else if 225≤b∧b≤236 then some (2,128,191)
 else if 237≤b∧b≤237 then some (2,128,159)
 else if 238≤b∧b≤239 then some (2,128,191)
 else if 240≤b∧b≤240 then some (3,144,191)
 else if 241≤b∧b≤243 then some (3,128,191)
 else if 244≤b∧b≤244 then some (3,128,143)
 else none
def stepQ (q:Q) (b:Nat):Option Q:=
 if q.1=0 then begQ b
 else if b<q.2.1∨q.2.2<b then none
 else if q.1=1 then some (0,0,0) else some (q.1 - 1,128,191)
def runQ (q:Q):List UInt8→Option Q
 |[]=>some q
 |b::t=>(stepQ q b.toNat).bind fun q'=>runQ q' t
def badUA (q:Q) (n whole:Nat):List UInt8→Nat
 |[]=>whole
 |b::t=>match stepQ q b.toNat with
  |none=>whole
  |some q'=>badUA q' (n+1) (if q'.1=0 then n+1 else whole) t
def badU (l:List UInt8):Nat:=badUA q0 0 0 l
def oneN (l:List UInt8):Option (Int×Nat):=
 match l with
 |[]=>none
 |a::t=>
  if a.toNat<128 then some (a.toNat,1) else
  match t with
  |[]=>none
  |b::t=>
   if 194≤a.toNat∧a.toNat≤223∧128≤b.toNat∧b.toNat≤191 then some ((a.toNat - 192)*64+(b.toNat - 128),2) else
   match t with
   |[]=>none
   |c::t=>
    if 224≤a.toNat∧a.toNat≤239∧128≤b.toNat∧b.toNat≤191∧(a.toNat=224→160≤b.toNat)∧(a.toNat=237→b.toNat≤159)∧128≤c.toNat∧c.toNat≤191 then some (((a.toNat - 224)*64+(b.toNat - 128))*64+(c.toNat - 128),3) else
    match t with
    |[]=>none
    |d::_=>
     if 240≤a.toNat∧a.toNat≤244∧128≤b.toNat∧b.toNat≤191∧(a.toNat=240→144≤b.toNat)∧(a.toNat=244→b.toNat≤143)∧128≤c.toNat∧c.toNat≤191∧128≤d.toNat∧d.toNat≤191 then some ((((a.toNat - 240)*64+(b.toNat - 128))*64+(c.toNat - 128))*64+(d.toNat - 128),4) else none
theorem stepQ_zero (b:Nat):stepQ (0,0,0) b=begQ b:=by simp[stepQ]
theorem stepQ_low {n lo hi b:Nat} (hn:n≠0) (h:b<lo∨hi<b):stepQ (n,lo,hi) b=none:=by simp[stepQ,hn,h]
theorem stepQ_last {lo hi b:Nat} (h1:lo≤b) (h2:b≤hi):stepQ (1,lo,hi) b=some (0,0,0):=by
 have:¬(b<lo∨hi<b):=by omega
 simp[stepQ,this]
theorem stepQ_more {n lo hi b:Nat} (hn:2≤n) (h1:lo≤b) (h2:b≤hi):stepQ (n,lo,hi) b=some (n - 1,128,191):=by
 have:¬(b<lo∨hi<b):=by omega
 have h0:n≠0:=by omega
 have h1:n≠1:=by omega
 simp[stepQ,this,h0,h1]
theorem begQ_one {b:Nat} (h:b<128):begQ b=some (0,0,0):=by simp[begQ,h]
theorem begQ_cases (b:Nat):
  (b<128∧begQ b=some (0,0,0))∨
  (194≤b∧b≤223∧begQ b=some (1,128,191))∨
  (224≤b∧b≤239∧∃lo hi,begQ b=some (2,lo,hi)∧lo=(if b=224 then 160 else 128)∧hi=(if b=237 then 159 else 191))∨
  (240≤b∧b≤244∧∃lo hi,begQ b=some (3,lo,hi)∧lo=(if b=240 then 144 else 128)∧hi=(if b=244 then 143 else 191))∨
  (((128≤b∧b<194)∨244<b)∧begQ b=none):=by
 unfold begQ
 by_cases h1:b<128
 ·left;simp[h1]
 by_cases h2:194≤b∧b≤223
 ·right;left;simp[h1,h2]
 by_cases h3:224≤b∧b≤239
 ·right;right;left
  refine⟨h3.1,h3.2,?_⟩
  rw[if_neg h1,if_neg h2]
  by_cases e1:b=224
  ·subst e1;exact⟨160,191,by simp,by simp,by simp⟩
  by_cases e2:b=237
  ·subst e2;exact⟨128,159,by simp,by simp,by simp⟩
  rw[if_neg (by omega)]
  rw[if_neg e1,if_neg e2]
  refine⟨128,191,?_,rfl,rfl⟩
  by_cases e3:225≤b∧b≤236
  ·rw[if_pos e3]
  ·rw[if_neg e3,if_neg (by omega),if_pos (by omega)]
 by_cases h4:240≤b∧b≤244
 ·right;right;right;left
  refine⟨h4.1,h4.2,?_⟩
  rw[if_neg h1,if_neg h2,if_neg (by omega),if_neg (by omega),if_neg (by omega),if_neg (by omega)]
  by_cases e1:b=240
  ·subst e1;exact⟨144,191,by simp,by simp,by simp⟩
  by_cases e2:b=244
  ·subst e2;exact⟨128,143,by simp,by simp,by simp⟩
  rw[if_neg (by omega),if_neg e1,if_neg e2]
  exact⟨128,191,by rw[if_pos (by omega)],rfl,rfl⟩
 ·right;right;right;right
  refine⟨by omega,?_⟩
  rw[if_neg h1,if_neg h2,if_neg (by omega),if_neg (by omega),if_neg (by omega),if_neg (by omega),if_neg (by omega),if_neg (by omega),if_neg (by omega)]
theorem oneN_run (l:List UInt8) (r:Int) (n:Nat) (h:oneN l=some (r,n)):
  n≤l.length∧0<n∧(∀k w,badUA q0 k w l=badUA q0 (k+n) (k+n) (l.drop n))∧(runQ q0 l=runQ q0 (l.drop n)):=by
 unfold oneN at h
 match l with
 |[]=>simp at h
 |a::t=>
  simp only at h
  by_cases ha:a.toNat<128
  ·rw[if_pos ha]at h
   injection h with h;injection h with h1 h2
   subst h2
   refine⟨by simp,by omega,?_,?_⟩
   ·intro k w
    simp[badUA,q0,stepQ_zero,begQ_one ha]
   ·simp[runQ,q0,stepQ_zero,begQ_one ha]
  rw[if_neg ha]at h
  match t with
  |[]=>simp at h
  |b::t=>
   simp only at h
   by_cases hb:194≤a.toNat∧a.toNat≤223∧128≤b.toNat∧b.toNat≤191
   ·rw[if_pos hb]at h
    injection h with h;injection h with h1 h2
    subst h2
    have e1:begQ a.toNat=some (1,128,191):=by
     rcases begQ_cases a.toNat with h|h|h|h|h<;>first|exact h.2.2|omega
    have e2:=stepQ_last (b:=b.toNat) hb.2.2.1 hb.2.2.2
    refine⟨by simp,by omega,?_,?_⟩
    ·intro k w
     simp[badUA,q0,stepQ_zero,e1,e2]
    ·simp[runQ,q0,stepQ_zero,e1,e2]
   rw[if_neg hb]at h
   match t with
   |[]=>simp at h
   |c::t=>
    simp only at h
    by_cases hc:224≤a.toNat∧a.toNat≤239∧128≤b.toNat∧b.toNat≤191∧(a.toNat=224→160≤b.toNat)∧(a.toNat=237→b.toNat≤159)∧128≤c.toNat∧c.toNat≤191
    ·rw[if_pos hc]at h
     injection h with h;injection h with h1 h2
     subst h2
     obtain⟨lo,hi,e1,elo,ehi⟩:∃lo hi,begQ a.toNat=some (2,lo,hi)∧lo=(if a.toNat=224 then 160 else 128)∧hi=(if a.toNat=237 then 159 else 191):=by
      rcases begQ_cases a.toNat with h|h|h|h|h<;>first|exact h.2.2|omega
     have e2:stepQ (2,lo,hi) b.toNat=some (1,128,191):=stepQ_more (n:=2) (by omega) (by rw[elo];split<;>omega) (by rw[ehi];split<;>omega)
     have e3:=stepQ_last (b:=c.toNat) hc.2.2.2.2.2.2.1 hc.2.2.2.2.2.2.2
     refine⟨by simp,by omega,?_,?_⟩
     ·intro k w
      simp[badUA,q0,stepQ_zero,e1,e2,e3]
     ·simp[runQ,q0,stepQ_zero,e1,e2,e3]
    rw[if_neg hc]at h
    match t with
    |[]=>simp at h
    |d::t=>
     simp only at h
     by_cases hd:240≤a.toNat∧a.toNat≤244∧128≤b.toNat∧b.toNat≤191∧(a.toNat=240→144≤b.toNat)∧(a.toNat=244→b.toNat≤143)∧128≤c.toNat∧c.toNat≤191∧128≤d.toNat∧d.toNat≤191
     ·rw[if_pos hd]at h
      injection h with h;injection h with h1 h2
      subst h2
      obtain⟨lo,hi,e1,elo,ehi⟩:∃lo hi,begQ a.toNat=some (3,lo,hi)∧lo=(if a.toNat=240 then 144 else 128)∧hi=(if a.toNat=244 then 143 else 191):=by
       rcases begQ_cases a.toNat with h|h|h|h|h<;>first|exact h.2.2|omega
      have e2:stepQ (3,lo,hi) b.toNat=some (2,128,191):=stepQ_more (n:=3) (by omega) (by rw[elo];split<;>omega) (by rw[ehi];split<;>omega)
      have e3:stepQ (2,128,191) c.toNat=some (1,128,191):=stepQ_more (n:=2) (by omega) (by omega) (by omega)
      have e4:stepQ (1,128,191) d.toNat=some (0,0,0):=stepQ_last (by omega) (by omega)
      refine⟨by simp,by omega,?_,?_⟩
      ·intro k w
       simp[badUA,q0,stepQ_zero,e1,e2,e3,e4]
      ·simp[runQ,q0,stepQ_zero,e1,e2,e3,e4]
     ·rw[if_neg hd]at h
      cases h
theorem oneN_none (l:List UInt8) (h:oneN l=none) (k w:Nat):badUA q0 k w l=w:=by
 unfold oneN at h
 match l with
 |[]=>simp[badUA]
 |a::t=>
  simp only at h
  by_cases ha:a.toNat<128
  ·rw[if_pos ha]at h;cases h
  rw[if_neg ha]at h
  rcases begQ_cases a.toNat with h1|⟨h1,h2,e1⟩|⟨h1,h2,lo,hi,e1,elo,ehi⟩|⟨h1,h2,lo,hi,e1,elo,ehi⟩|⟨_,e1⟩
  ·omega
  ·match t with
   |[]=>simp[badUA,q0,stepQ_zero,e1]
   |b::t=>
    simp only at h
    by_cases hb:194≤a.toNat∧a.toNat≤223∧128≤b.toNat∧b.toNat≤191
    ·rw[if_pos hb]at h;cases h
    ·have e2:stepQ (1,128,191) b.toNat=none:=stepQ_low (by omega) (by omega)
     simp[badUA,q0,stepQ_zero,e1,e2]
  ·match t with
   |[]=>simp[badUA,q0,stepQ_zero,e1]
   |b::t=>
    simp only at h
    rw[if_neg (by omega)]at h
    by_cases hb:lo≤b.toNat∧b.toNat≤hi
    ·have e2:stepQ (2,lo,hi) b.toNat=some (1,128,191):=stepQ_more (n:=2) (by omega) hb.1 hb.2
     match t with
     |[]=>simp[badUA,q0,stepQ_zero,e1,e2]
     |c::t=>
      simp only at h
      by_cases hc:128≤c.toNat∧c.toNat≤191
      ·have g1:128≤b.toNat∧(a.toNat=224→160≤b.toNat):=by
        have:=hb.1;rw[elo]at this;split at this<;>omega
       have g2:b.toNat≤191∧(a.toNat=237→b.toNat≤159):=by
        have:=hb.2;rw[ehi]at this;split at this<;>omega
       rw[if_pos ⟨h1,h2,g1.1,g2.1,g1.2,g2.2,hc.1,hc.2⟩]at h
       cases h
      ·have e3:stepQ (1,128,191) c.toNat=none:=stepQ_low (by omega) (by omega)
       simp[badUA,q0,stepQ_zero,e1,e2,e3]
    ·have e2:stepQ (2,lo,hi) b.toNat=none:=stepQ_low (by omega) (by omega)
     simp[badUA,q0,stepQ_zero,e1,e2]
  ·match t with
   |[]=>simp[badUA,q0,stepQ_zero,e1]
   |b::t=>
    simp only at h
    rw[if_neg (by omega)]at h
    by_cases hb:lo≤b.toNat∧b.toNat≤hi
    ·have e2:stepQ (3,lo,hi) b.toNat=some (2,128,191):=stepQ_more (n:=3) (by omega) hb.1 hb.2
     match t with
     |[]=>simp[badUA,q0,stepQ_zero,e1,e2]
     |c::t=>
      simp only at h
      rw[if_neg (by omega)]at h
      by_cases hc:128≤c.toNat∧c.toNat≤191
      ·have e3:stepQ (2,128,191) c.toNat=some (1,128,191):=stepQ_more (n:=2) (by omega) hc.1 hc.2
       match t with
       |[]=>simp[badUA,q0,stepQ_zero,e1,e2,e3]
       |d::t=>
        simp only at h
        by_cases hd:128≤d.toNat∧d.toNat≤191
        ·have g1:128≤b.toNat∧(a.toNat=240→144≤b.toNat):=by
          have:=hb.1;rw[elo]at this;split at this<;>omega
         have g2:b.toNat≤191∧(a.toNat=244→b.toNat≤143):=by
          have:=hb.2;rw[ehi]at this;split at this<;>omega
         rw[if_pos ⟨h1,h2,g1.1,g2.1,g1.2,g2.2,hc.1,hc.2,hd.1,hd.2⟩]at h
         cases h
        ·have e4:stepQ (1,128,191) d.toNat=none:=stepQ_low (by omega) (by omega)
         simp[badUA,q0,stepQ_zero,e1,e2,e3,e4]
      ·have e3:stepQ (2,128,191) c.toNat=none:=stepQ_low (by omega) (by omega)
       simp[badUA,q0,stepQ_zero,e1,e2,e3]
    ·have e2:stepQ (3,lo,hi) b.toNat=none:=stepQ_low (by omega) (by omega)
     simp[badUA,q0,stepQ_zero,e1,e2]
  ·simp[badUA,q0,stepQ_zero,e1]
theorem badUA_shift (l:List UInt8):∀(q:Q) (n w k:Nat),badUA q (n+k) (w+k) l=badUA q n w l+k:=by
 induction l with
 |nil=>intro q n w k;rfl
 |cons b t ih=>
  intro q n w k
  unfold badUA
  cases stepQ q b.toNat with
  |none=>rfl
  |some q'=>
   simp only
   split
   ·rw[show n+k+1=(n+1)+k from by omega,ih]
   ·rw[show n+k+1=(n+1)+k from by omega,ih]
theorem badU_some {l:List UInt8} {r:Int} {n:Nat} (h:oneN l=some (r,n)):badU l=n+badU (l.drop n):=by
 have:=(oneN_run l r n h).2.2.1 0 0
 unfold badU
 rw[this,badUA_shift,Nat.add_comm]
theorem badU_none {l:List UInt8} (h:oneN l=none):badU l=0:=oneN_none l h 0 0
theorem badUA_le (l:List UInt8):∀(q:Q) (n w:Nat),w≤n→badUA q n w l≤n+l.length:=by
 induction l with
 |nil=>intro q n w h;simp[badUA];omega
 |cons b t ih=>
  intro q n w h
  unfold badUA
  cases stepQ q b.toNat with
  |none=>simp;omega
  |some q'=>
   have:=ih q' (n+1) (if q'.1=0 then n+1 else w) (by split<;>omega)
   simp only[List.length_cons]
   omega
theorem badU_le (l:List UInt8):badU l≤l.length:=by
 have:=badUA_le l q0 0 0 (Nat.le_refl _)
 unfold badU;omega
open Go.RowKit
def fsRows:List (List Int):=[[194,223,1,128,191],[224,224,2,160,191],[225,236,2,128,191],[237,237,2,128,159],[238,239,2,128,191],[240,240,3,144,191],[241,243,3,128,191],[244,244,3,128,143]]
def fsCells:Array Value:=(fsRows.flatten.map fun x=>Value.int .u8 x).toArray
def Fst (w:World):Prop:=∃t fr,w.heap[1]?=some (.cells fsCells t fr)
theorem wpList_load_rowF {P:Program} {ops:Array Oper} {rest:List Oper} {op:Oper} {a:Act} {w:World} {Q:Exit→Act→World→Prop} (hgd:op.guard=none) (ty:TypeId) (x:Operand) (ho:op.op=.load ty x)
  (g:Nat) (hx:a.eval x=.pointer (some ⟨g,0,none⟩)) (cs:Array Value) (t:TypeId) (fr:Nat×Nat) (d:TypeDesc) (hc:w.heap[g]?=some (.cells cs t fr))
  (hu:P.underlying ty=some d) (hd:(match d with| .struct _| .array _ _=>true|_=>false)=true) (hi:(P.info? ty).map (·.size)=some cs.size)
  (h:wpList P ops Q rest (a.put op.dst (.agg cs)) w):wpList P ops Q (op::rest) a w:=
 wpList_plain hgd fun _ hK=>by
  unfold Oper.wp execOp
  simp only[ho,hx,Instr.loadAt,Instr.sureAddr,Sem.run_bind,Sem.run_pure,Result.andThen_ok,run_loadVar_row w g t ty cs fr d hc hu hd hi]
  exact hK _ _ h
theorem fs_size:(Tryz.prog.info? 206).map (·.size)=some fsCells.size:=by kernel_rfl
def stC (left low high:Int) (wrong:Bool):List Value:=[.int .u8 left,.int .u8 low,.int .u8 high,.bool wrong]
def StAt (w:World) (g:Nat) (p:List Value) (t:TypeId) (left low high:Int) (wrong:Bool):Prop:=Lies w g (p++stC left low high wrong).toArray t
theorem StAt.cell {w:World} {g:Nat} {p:List Value} {t:TypeId} {left low high:Int} {wrong:Bool} (h:StAt w g p t left low high wrong):
  w.cell? ⟨g,p.length,none⟩=some (.int .u8 left)∧w.cell? ⟨g,p.length+1,none⟩=some (.int .u8 low)∧w.cell? ⟨g,p.length+2,none⟩=some (.int .u8 high)∧w.cell? ⟨g,p.length+3,none⟩=some (.bool wrong):=by
 refine⟨?_,?_,?_,?_⟩
 all_goals
  rw[Lies.cell h]
  simp[stC]
theorem StAt.set {w:World} {g:Nat} {p:List Value} {t:TypeId} {left low high:Int} {wrong:Bool} (h:StAt w g p t left low high wrong):
  (∀x,StAt (w.setCell ⟨g,p.length,none⟩ (.int .u8 x)) g p t x low high wrong)∧(∀x,StAt (w.setCell ⟨g,p.length+1,none⟩ (.int .u8 x)) g p t left x high wrong)∧
  (∀x,StAt (w.setCell ⟨g,p.length+2,none⟩ (.int .u8 x)) g p t left low x wrong)∧(∀x,StAt (w.setCell ⟨g,p.length+3,none⟩ (.bool x)) g p t left low high x):=by
 refine⟨fun x=>?_,fun x=>?_,fun x=>?_,fun x=>?_⟩
 all_goals
  have:=Lies.set h
  unfold StAt
 ·have h1:=this p.length (.int .u8 x)
  rwa[List.setIfInBounds_toArray,List.set_append_right _ _ (Nat.le_refl _),Nat.sub_self]at h1
 ·have h1:=this (p.length+1) (.int .u8 x)
  rwa[List.setIfInBounds_toArray,List.set_append_right _ _ (by omega),Nat.add_sub_cancel_left]at h1
 ·have h1:=this (p.length+2) (.int .u8 x)
  rwa[List.setIfInBounds_toArray,List.set_append_right _ _ (by omega),Nat.add_sub_cancel_left]at h1
 ·have h1:=this (p.length+3) (.bool x)
  rwa[List.setIfInBounds_toArray,List.set_append_right _ _ (by omega),Nat.add_sub_cancel_left]at h1
set_option maxHeartbeats 1000000 in
set_option maxRecDepth 100000 in
theorem begin_low (g:Nat) (p:List Value) (b:Int) (hb:b<128) (w:World):
  Calls Tryz.prog 176 #[.pointer (some ⟨g,p.length,none⟩),.int .u8 b] w fun e w'=>e=.returned (.tuple #[])∧w'=w:=by
 go_enter Tryz.func176,Tryz.ntmps176
 go_wp2
 (try simp only[Exit.inBlock,Exit.then])
 refine bodyPost_ret (results_none rfl _ _ _) rfl ?_
 exact⟨rfl,rfl⟩
theorem But.alloc' {g:Nat} {w w':World} (h:But g w w') (o:Obj):But g w (w'.alloc o):=
 ⟨h.os,h.tape,h.output,by simp;exact Nat.le_succ_of_le h.size,fun k hk hne=>(Below.heap_alloc _ _ _ (Nat.lt_of_lt_of_le hk h.size)).trans (h.block k hk hne)⟩
theorem But.drewK {g:Nat} {w w':World} (h:But g w w'):But g w w'.drew:=⟨h.os,h.tape,h.output,h.size,h.block⟩
def fsAt (k i:Nat):Int:=(fsRows.getD k []).getD i 0
set_option maxRecDepth 100000 in
theorem fs_index (w:World) (k:Nat) (hk:k<8):(Instr.index 206 (.agg fsCells) (.int .i64 k)).run Tryz.prog w=.ok (.agg #[.int .u8 (fsAt k 0),.int .u8 (fsAt k 1),.int .u8 (fsAt k 2),.int .u8 (fsAt k 3),.int .u8 (fsAt k 4)]) w:=by
 match k,hk with
 |0,_=>rfl
 |1,_=>rfl
 |2,_=>rfl
 |3,_=>rfl
 |4,_=>rfl
 |5,_=>rfl
 |6,_=>rfl
 |7,_=>rfl
set_option maxHeartbeats 1000000 in
set_option maxRecDepth 100000 in
theorem begin_rows (g:Nat) (p:List Value) (t:TypeId) (left low high:Int) (wrong:Bool) (b:Int) (h0:¬b<128) (w:World) (hst:StAt w g p t left low high wrong) (hf:Fst w):
  Calls Tryz.prog 176 #[.pointer (some ⟨g,p.length,none⟩),.int .u8 b] w fun e w'=>e=.returned (.tuple #[])∧But g w w'∧
   ((∃k,k<8∧fsAt k 0≤b∧b≤fsAt k 1∧StAt w' g p t (fsAt k 2) (fsAt k 3) (fsAt k 4) wrong)∨((∀k,k<8→¬(fsAt k 0≤b∧b≤fsAt k 1))∧StAt w' g p t left low high true)):=by
 have HS:Hid (StAt w g p t left low high wrong):=hst
 have HI:Hid (∀(wx:World) (k:Nat),k<8→(Instr.index 206 (.agg fsCells) (.int .i64 k)).run Tryz.prog wx=.ok (.agg #[.int .u8 (fsAt k 0),.int .u8 (fsAt k 1),.int .u8 (fsAt k 2),.int .u8 (fsAt k 3),.int .u8 (fsAt k 4)]) wx):=fs_index
 obtain⟨tf,ff,hf'⟩:=hf
 clear hst
 go_enter Tryz.func176,Tryz.ntmps176
 go_wp2_with (refine wpList_load_rowF rfl 206 _ rfl _ rfl fsCells tf ff _ hf' Tryz.underlying206 rfl fs_size ?_)
 generalize fsCells=FC at HI hf' ⊢
 go_loopw [9] (fun i wr=>∃k:Nat,i=.int .i64 k∧k≤8∧Hid (∀j,j<k→¬(fsAt j 0≤b∧b≤fsAt j 1))∧Hid (Below w.heap.size w wr)) (fun i _=>8 - (intOf i).toNat)
 case atStart=>exact⟨0,rfl,by omega,fun j hj=>by omega,Below.refl _ _⟩
 case round=>
  obtain⟨k,rfl,hk,HJ,HB⟩:=hrel
  have HSr:Hid (StAt wr g p t left low high wrong):=HS.out.below HB.out HS.out.lt
  have hgr:g<wr.heap.size:=HSr.out.lt
  by_cases hlt:k<8
  ·have hi:=HI.out wr k hlt
   go_wp2_with fail
   ·obtain⟨c0,c1,c2,c3⟩:=HSr.out.cell
    have f0:=HSr.out.frozen p.length
    have f1:=HSr.out.frozen (p.length+1)
    have f2:=HSr.out.frozen (p.length+2)
    clear hi
    go_region
    go_wp2
    (try simp only[Exit.inBlock,Exit.then])
    refine bodyPost_ret (results_none rfl _ _ _) rfl ?_
    refine⟨rfl,?_,.inl ⟨k,hlt,by assumption,by assumption,?_⟩⟩
    ·exact((((But.of_below HB.out).set _ _).set _ _).set _ _).alloc' _ |>.drewK
    ·exact((((HSr.out.set.1 _).set.2.1 _).set.2.2.1 _)).alloc _
   ·have HN:Hid (∀j,j<k+1→¬(fsAt j 0≤b∧b≤fsAt j 1)):=fun j hj=>by
     by_cases e:j=k
     ·subst e;omega
     ·exact HJ.out j (by omega)
    go_roundw
    case rel=>exact⟨k+1,by go_num,by omega,HN,HB.out.alloc HB.out.size _⟩
    case measure=>simp[intOf];omega
   ·have HN:Hid (∀j,j<k+1→¬(fsAt j 0≤b∧b≤fsAt j 1)):=fun j hj=>by
     by_cases e:j=k
     ·subst e;omega
     ·exact HJ.out j (by omega)
    go_roundw
    case rel=>exact⟨k+1,by go_num,by omega,HN,HB.out.alloc HB.out.size _⟩
    case measure=>simp[intOf];omega
  ·obtain⟨c0,c1,c2,c3⟩:=HSr.out.cell
   have f3:=HSr.out.frozen (p.length+3)
   obtain rfl:k=8:=by omega
   go_wp2
   go_end0
   refine⟨rfl,(But.of_below HB.out).set _ _,.inr ⟨HJ.out,HSr.out.set.2.2.2 _⟩⟩
theorem fs_beg (b:Nat) (hb:¬b<128):(∀k,k<8→fsAt k 0≤(b:Int)→(b:Int)≤fsAt k 1→∃n lo hi:Nat,begQ b=some (n,lo,hi)∧n≠0∧fsAt k 2=n∧fsAt k 3=lo∧fsAt k 4=hi)∧((∀k,k<8→¬(fsAt k 0≤(b:Int)∧(b:Int)≤fsAt k 1))→begQ b=none):=by
 have e0:fsAt 0 0=194∧fsAt 0 1=223∧fsAt 0 2=1∧fsAt 0 3=128∧fsAt 0 4=191:=by decide
 have e1:fsAt 1 0=224∧fsAt 1 1=224∧fsAt 1 2=2∧fsAt 1 3=160∧fsAt 1 4=191:=by decide
 have e2:fsAt 2 0=225∧fsAt 2 1=236∧fsAt 2 2=2∧fsAt 2 3=128∧fsAt 2 4=191:=by decide
 have e3:fsAt 3 0=237∧fsAt 3 1=237∧fsAt 3 2=2∧fsAt 3 3=128∧fsAt 3 4=159:=by decide
 have e4:fsAt 4 0=238∧fsAt 4 1=239∧fsAt 4 2=2∧fsAt 4 3=128∧fsAt 4 4=191:=by decide
 have e5:fsAt 5 0=240∧fsAt 5 1=240∧fsAt 5 2=3∧fsAt 5 3=144∧fsAt 5 4=191:=by decide
 have e6:fsAt 6 0=241∧fsAt 6 1=243∧fsAt 6 2=3∧fsAt 6 3=128∧fsAt 6 4=191:=by decide
 have e7:fsAt 7 0=244∧fsAt 7 1=244∧fsAt 7 2=3∧fsAt 7 3=128∧fsAt 7 4=143:=by decide
 unfold begQ
 rw[if_neg hb]
 refine⟨fun k hk h0 h1=>?_,fun h=>?_⟩
 ·match k,hk with
  |0,_=>exact⟨1,128,191,by rw[if_pos (by omega)],by omega,by omega,by omega,by omega⟩
  |1,_=>exact⟨2,160,191,by rw[if_neg (by omega),if_pos (by omega)],by omega,by omega,by omega,by omega⟩
  |2,_=>exact⟨2,128,191,by rw[if_neg (by omega),if_neg (by omega),if_pos (by omega)],by omega,by omega,by omega,by omega⟩
  |3,_=>exact⟨2,128,159,by rw[if_neg (by omega),if_neg (by omega),if_neg (by omega),if_pos (by omega)],by omega,by omega,by omega,by omega⟩
  |4,_=>exact⟨2,128,191,by rw[if_neg (by omega),if_neg (by omega),if_neg (by omega),if_neg (by omega),if_pos (by omega)],by omega,by omega,by omega,by omega⟩
  |5,_=>exact⟨3,144,191,by rw[if_neg (by omega),if_neg (by omega),if_neg (by omega),if_neg (by omega),if_neg (by omega),if_pos (by omega)],by omega,by omega,by omega,by omega⟩
  |6,_=>exact⟨3,128,191,by rw[if_neg (by omega),if_neg (by omega),if_neg (by omega),if_neg (by omega),if_neg (by omega),if_neg (by omega),if_pos (by omega)],by omega,by omega,by omega,by omega⟩
  |7,_=>exact⟨3,128,143,by rw[if_neg (by omega),if_neg (by omega),if_neg (by omega),if_neg (by omega),if_neg (by omega),if_neg (by omega),if_neg (by omega),if_pos (by omega)],by omega,by omega,by omega,by omega⟩
 ·have h0:=h 0 (by omega)
  have h1:=h 1 (by omega)
  have h2:=h 2 (by omega)
  have h3:=h 3 (by omega)
  have h4:=h 4 (by omega)
  have h5:=h 5 (by omega)
  have h6:=h 6 (by omega)
  have h7:=h 7 (by omega)
  rw[if_neg (by omega),if_neg (by omega),if_neg (by omega),if_neg (by omega),if_neg (by omega),if_neg (by omega),if_neg (by omega),if_neg (by omega)]
def Sq (q:Q) (left low high:Int):Prop:=left=(q.1:Int)∧(q.1≠0→low=(q.2.1:Int)∧high=(q.2.2:Int))
def MSq (m:Option Q) (left low high:Int) (wrong:Bool):Prop:=match m with
 |none=>wrong=true
 |some q=>wrong=false∧Sq q left low high
def MSt (w:World) (g:Nat) (p:List Value) (t:TypeId) (m:Option Q):Prop:=
 ∃left low high wrong,StAt w g p t left low high wrong∧(0≤left∧left<256)∧MSq m left low high wrong
def stepM (m:Option Q) (b:Nat):Option Q:=m.bind fun q=>stepQ q b
set_option maxHeartbeats 1000000 in
set_option maxRecDepth 100000 in
theorem take_any (g:Nat) (p:List Value) (t:TypeId) (m:Option Q) (b:UInt8) (w:World) (hst:MSt w g p t m) (hf:Fst w):
  Calls Tryz.prog 143 #[.pointer (some ⟨g,p.length,none⟩),.int .u8 (b.toNat:Int)] w fun e w'=>e=.returned (.tuple #[])∧But g w w'∧MSt w' g p t (stepM m b.toNat):=by
 obtain⟨left,low,high,wrong,hs,⟨hl0,hl1⟩,hm⟩:=hst
 obtain⟨c0,c1,c2,c3⟩:=hs.cell
 have f0:=Lies.frozen hs p.length
 have f1:=Lies.frozen hs (p.length+1)
 have f2:=Lies.frozen hs (p.length+2)
 have f3:=Lies.frozen hs (p.length+3)
 have HS:Hid (StAt w g p t left low high wrong):=hs
 have HM:Hid (MSq m left low high wrong):=hm
 clear hs hm
 by_cases h0:left=0
 ·have q0:(left==0)=true:=by simp[h0]
  by_cases hb:(b.toNat:Int)<128
  ·have HC:=begin_low g p (b.toNat:Int) hb
   go_enter Tryz.func143,Tryz.ntmps143
   go_wp2_with (go_at_call 176;refine(HC _).mono ?_;rintro e w1 ⟨rfl,rfl⟩)
   go_end0
   refine⟨rfl,But.refl _ _,left,low,high,wrong,HS.out,⟨hl0,hl1⟩,?_⟩
   have:=HM.out
   cases m with
   |none=>exact this
   |some q=>
    obtain⟨h1,h2,h3⟩:=this
    have:q.1=0:=by omega
    simp only[stepM,Option.bind_some,stepQ,if_pos this,begQ_one (show b.toNat<128 by omega)]
    exact⟨h1,by simp[h0],fun h=>absurd rfl h⟩
  ·have HC:=begin_rows g p t left low high wrong (b.toNat:Int) hb
   go_enter Tryz.func143,Tryz.ntmps143
   go_wp2_with (go_at_call 176;refine(HC _ HS.out hf).mono ?_;rintro e w1 ⟨rfl,b1,r1⟩)
   go_end0
   refine⟨rfl,b1,?_⟩
   obtain⟨F1,F2⟩:=fs_beg b.toNat (by omega)
   rcases r1 with⟨k,k1,k2,k3,k4⟩|⟨k1,k2⟩
   ·obtain⟨n,lo,hi,e1,e2,e3,e4,e5⟩:=F1 k k1 k2 k3
    have hn:n<256:=by
     rcases begQ_cases b.toNat with h|h|h|h|h
     ·omega
     ·rw[h.2.2]at e1;cases e1;omega
     ·obtain⟨_,_,l,h',h,_⟩:=h;rw[h]at e1;cases e1;omega
     ·obtain⟨_,_,l,h',h,_⟩:=h;rw[h]at e1;cases e1;omega
     ·rw[h.2]at e1;cases e1
    refine⟨_,_,_,wrong,k4,by omega,?_⟩
    have:=HM.out
    cases m with
    |none=>exact this
    |some q=>
     obtain⟨h1,h2,h3⟩:=this
     have:q.1=0:=by omega
     simp only[stepM,Option.bind_some,stepQ,if_pos this,e1]
     exact⟨h1,e3,fun _=>⟨e4,e5⟩⟩
   ·refine⟨_,_,_,true,k2,⟨hl0,hl1⟩,?_⟩
    have:=HM.out
    cases m with
    |none=>rfl
    |some q=>
     obtain⟨h1,h2,h3⟩:=this
     have:q.1=0:=by omega
     simp only[stepM,Option.bind_some,stepQ,if_pos this,F2 k1]
     exact rfl
 ·have q0:(left==0)=false:=by simp[h0]
  by_cases hb:(b.toNat:Int)<low
  ·go_enter Tryz.func143,Tryz.ntmps143
   go_wp2
   go_end0
   refine⟨rfl,(But.refl _ _).set _ _,_,_,_,true,HS.out.set.2.2.2 _,⟨hl0,hl1⟩,?_⟩
   have:=HM.out
   cases m with
   |none=>rfl
   |some q=>
    obtain⟨n,lo,hi⟩:=q
    obtain⟨h1,h2,h3⟩:=this
    simp only at h2 h3
    have hq:n≠0:=by omega
    have:=h3 hq
    have e:stepQ (n,lo,hi) b.toNat=none:=stepQ_low hq (.inl (by omega))
    simp only[stepM,Option.bind_some,e]
    exact rfl
  by_cases hb2:high<(b.toNat:Int)
  ·go_enter Tryz.func143,Tryz.ntmps143
   go_wp2
   go_end0
   refine⟨rfl,(But.refl _ _).set _ _,_,_,_,true,HS.out.set.2.2.2 _,⟨hl0,hl1⟩,?_⟩
   have:=HM.out
   cases m with
   |none=>rfl
   |some q=>
    obtain⟨n,lo,hi⟩:=q
    obtain⟨h1,h2,h3⟩:=this
    simp only at h2 h3
    have hq:n≠0:=by omega
    have:=h3 hq
    have e:stepQ (n,lo,hi) b.toNat=none:=stepQ_low hq (.inr (by omega))
    simp only[stepM,Option.bind_some,e]
    exact rfl
  ·have hw:IntKind.u8.wrap (left - 1)=left - 1:=by
    rw[IntKind.wrap_u8]
    omega
   go_enter Tryz.func143,Tryz.ntmps143
   go_wp2
   go_end0
   refine⟨rfl,(((But.refl _ _).set _ _).set _ _).set _ _,left - 1,128,191,wrong,((HS.out.set.1 _).set.2.1 _).set.2.2.1 _,by omega,?_⟩
   have:=HM.out
   cases m with
   |none=>exact this
   |some q=>
    obtain⟨n,lo,hi⟩:=q
    obtain⟨h1,h2,h3⟩:=this
    simp only at h2 h3
    have hq:n≠0:=by omega
    have:=h3 hq
    by_cases h4:n=1
    ·subst h4
     simp only[stepM,Option.bind_some]
     rw[stepQ_last (by omega) (by omega)]
     exact⟨h1,by show left - 1=0;omega,fun h=>absurd rfl h⟩
    ·simp only[stepM,Option.bind_some]
     rw[stepQ_more (by omega) (by omega) (by omega)]
     exact⟨h1,by show left - 1=((n - 1:Nat):Int);omega,fun _=>⟨rfl,rfl⟩⟩
end Go.Proofs.YtfjpkfhbmldmfaaGreatDoor
