/-
  A path as the program reads it: the short form first, in any capitals; then the parts. Plain mathematics but for the texts' places.
-/
import Derived.Test.YtfjpkfhbmldmfabGreatDoorXl9
import Derived.Test.YtfjpkfhbmldmfabGreatDoorPtF
import Derived.Test.YtfjpkfhbmldmfabGreatDoorWt8
import Derived.Test.YtfjpkfhbmldmfabGreatDoorXq9
import Derived.Test.YtfjpkfhbmldmfabGreatDoorXm9
namespace Go.Proofs.YtfjpkfhbmldmfabGreatDoor
theorem sm9_fin:∀b c:Fin 256,decide (upB (UInt8.ofNat b.val)=upB (UInt8.ofNat c.val))=decide (smB (UInt8.ofNat b.val)=smB (UInt8.ofNat c.val)):=by decide+kernel
theorem sm9_is (b c:UInt8):upB b=upB c↔smB b=smB c:=by
 have:=sm9_fin ⟨b.toNat,b.toNat_lt⟩ ⟨c.toNat,c.toNat_lt⟩
 simp only[UInt8.ofNat_toNat]at this
 rw[←decide_eq_true_iff (p:=upB b=upB c),this,decide_eq_true_iff]
theorem sm9_list:∀x y:List UInt8,upL x=upL y↔sml x=sml y
 |[],[]=>by simp[upL,sml]
 |[],_::_=>by simp[upL,sml]
 |_::_,[]=>by simp[upL,sml]
 |b::x,c::y=>by
  have:=sm9_list x y
  unfold upL sml at*
  simp only[List.map_cons,List.cons.injEq,sm9_is b c,this]
theorem same_sm9 (x y:ByteArray):sameB x y=decide (sml x.data.toList=sml y.data.toList):=by
 unfold sameB
 rw[ByteArray.toList_eq,ByteArray.toList_eq]
 unfold upS
 rw[Bool.eq_iff_iff,beq_iff_eq,decide_eq_true_eq,←sm9_list]
theorem sm_stays:∀c:Fin 256,(smB (UInt8.ofNat c.val)=60↔UInt8.ofNat c.val=60)∧(smB (UInt8.ofNat c.val)=62↔UInt8.ofNat c.val=62):=by decide+kernel
theorem sm_60 (c:UInt8):(smB c=60↔c=60)∧(smB c=62↔c=62):=by
 have:=sm_stays ⟨c.toNat,c.toNat_lt⟩
 simpa using this
def midA (wide:Bool) (s:ByteArray):Except (Nat×Nat) (List Ho×Nat):=if nxB s 1 64=true then shE 1 (rte wide 16 (s.data.toList.drop 1)) else .ok ([],1)
def endA (s:ByteArray) (r:List Ho):Except (Nat×Nat) ((List UInt8×Ho)×Nat)→Except (Nat×Nat) (Pt×Nat)
 | .error e=>.error e
 | .ok ((l,h),n)=>if nxB s n 62=true then (if 256<n+1∨256<(wrP ⟨3,r,l,h⟩).length then .error (93,0) else .ok (⟨3,r,l,h⟩,n+1)) else .error (93,n)
def rstA (wide:Bool) (s:ByteArray):Except (Nat×Nat) (Pt×Nat):=
 if nxB s 0 60=true then (match midA wide s with
  | .error e=>.error e
  | .ok (r,a)=>endA s r (shE a (bx wide (s.data.toList.drop a)))) else .error (93,0)
theorem head_at (s:List UInt8) (k:Nat):s[k]?=(s.drop k).head?:=by
 rw[List.head?_drop]
theorem nx_iff (s:ByteArray) (k:Nat) (c:UInt8):(nxB s k c=true)=(s.data.toList[k]?=some c):=by
 unfold nxB
 rw[head_at,decide_eq_true_eq]
theorem rst_is (wide:Bool) (s:ByteArray) (h1:s.data.toList.head?=some 60):(match (if s.data.toList[1]?=some 64 then rte wide 16 (s.data.toList.drop 1) else .ok ([],0)) with
   | .error (e,p)=>Except.error (e,1+p)
   | .ok (r,a)=>match bx wide (s.data.toList.drop (1+a)) with
    | .error (e,p)=>.error (e,1+a+p)
    | .ok ((l,h),n)=>
     if s.data.toList[1+a+n]?=some 62 then
      if 256<1+a+n+1∨256<(wrP ⟨3,r,l,h⟩).length then .error (93,0) else .ok ((⟨3,r,l,h⟩:Pt),1+a+n+1)
     else .error (93,1+a+n))=rstA wide s:=by
 unfold rstA midA
 rw[if_pos (show nxB s 0 60=true by rw[nx_iff,←List.head?_eq_getElem?];exact h1)]
 simp only[nx_iff]
 by_cases h2:s.data.toList[1]?=some 64
 ·rw[if_pos h2,if_pos h2]
  cases rte wide 16 (s.data.toList.drop 1) with
  |error x=>rfl
  |ok x=>
   obtain⟨r,a⟩:=x
   dsimp only[shE]
   cases bx wide (s.data.toList.drop (1+a)) with
   |error y=>rfl
   |ok y=>
    obtain⟨⟨l,h⟩,n⟩:=y
    dsimp only[shE,endA]
    simp only[nx_iff]
 ·rw[if_neg h2,if_neg h2]
  dsimp only[Nat.add_zero]
  cases bx wide (s.data.toList.drop 1) with
  |error y=>rfl
  |ok y=>
   obtain⟨⟨l,h⟩,n⟩:=y
   dsimp only[shE,endA]
   simp only[nx_iff]
theorem rst_no (wide:Bool) (s:ByteArray) (h1:¬s.data.toList.head?=some 60):rstA wide s=.error (93,0):=by
 unfold rstA
 rw[if_neg (by rw[nx_iff,←List.head?_eq_getElem?];exact h1)]
theorem pth_rev (wide:Bool) (s:ByteArray):pth wide true s.data.toList=if 2≤s.size∧sml (s.data.toList.take 2)=sml [60,62] then .ok (⟨1,[],[],ho0⟩,2) else rstA wide s:=by
 have key:(2≤s.size∧sml (s.data.toList.take 2)=sml [60,62])↔(s.data.toList.head?=some 60∧s.data.toList[1]?=some 62):=by
  rw[←len_list]
  generalize s.data.toList=l
  match l with
  |[]=>simp
  |[a]=>simp
  |a::b::r=>
   simp only[List.length_cons,List.take_succ_cons,List.take_zero,sml,List.map_cons,List.map_nil,List.cons.injEq,and_true,List.head?_cons,Option.some.injEq,List.getElem?_cons_succ,List.getElem?_cons_zero]
   rw[show smB 60=60 from rfl,show smB 62=62 from rfl,(sm_60 a).1,(sm_60 b).2]
   constructor
   ·exact fun h=>h.2
   ·exact fun h=>⟨by omega,h⟩
 unfold pth
 by_cases h1:s.data.toList.head?=some 60
 ·rw[if_pos h1]
  by_cases h2:s.data.toList[1]?=some 62
  ·rw[if_pos ⟨rfl,h2⟩,if_pos (key.2 ⟨h1,h2⟩)]
  ·rw[if_neg (fun h=>h2 h.2),if_neg (fun h=>by cases h.1),if_neg (fun h=>h2 (key.1 h).2)]
   exact rst_is wide s h1
 ·rw[if_neg h1,if_neg (fun h=>h1 (key.1 h).1),rst_no wide s h1]
theorem pth_fwd (wide:Bool) (s:ByteArray):pth wide false s.data.toList=if 12≤s.size∧sml (s.data.toList.take 12)=sml (60::(pmL++[62])) then .ok (⟨2,[],[],ho0⟩,12) else rstA wide s:=by
 have key:(12≤s.size∧sml (s.data.toList.take 12)=sml (60::(pmL++[62])))↔(s.data.toList.head?=some 60∧sml ((s.data.toList.drop 1).take 10)=sml pmL∧s.data.toList[11]?=some 62):=by
  rw[←len_list]
  generalize s.data.toList=l
  constructor
  ·rintro ⟨h1,h2⟩
   match l,h1 with
   |a::r,h1=>
    rw[List.length_cons]at h1
    have h11:r.take 11=r.take 10++[r[10]'(by omega)]:=by rw[List.take_succ_eq_append_getElem (by omega)]
    rw[List.take_succ_cons,h11]at h2
    unfold sml at h2
    rw[List.map_cons,List.map_cons,List.map_append,List.map_append]at h2
    injection h2 with e1 e2
    have hl:(List.map smB (r.take 10)).length=(List.map smB pmL).length:=by
     rw[List.length_map,List.length_take,List.length_map]
     show min 10 r.length=10
     omega
    obtain⟨e3,e4⟩:=List.append_inj e2 hl
    simp only[List.map_cons,List.map_nil,List.cons.injEq,and_true]at e4
    refine⟨?_,?_,?_⟩
    ·rw[List.head?_cons,(sm_60 a).1.1 e1]
    ·exact e3
    ·rw[List.getElem?_cons_succ,List.getElem?_eq_getElem (by omega),(sm_60 _).2.1 e4]
  ·rintro ⟨h1,h2,h3⟩
   match l,h1 with
   |a::r,h1=>
    rw[List.head?_cons]at h1
    injection h1 with h1
    subst h1
    rw[List.getElem?_cons_succ]at h3
    obtain⟨hlt,h3⟩:=List.getElem?_eq_some_iff.1 h3
    refine⟨by rw[List.length_cons];omega,?_⟩
    have h11:r.take 11=r.take 10++[r[10]]:=by rw[List.take_succ_eq_append_getElem hlt]
    rw[List.take_succ_cons,h11,h3]
    unfold sml at h2 ⊢
    rw[List.drop_succ_cons,List.drop_zero]at h2
    rw[List.map_cons,List.map_cons,List.map_append,List.map_append,h2]
 unfold pth
 by_cases h1:s.data.toList.head?=some 60
 ·rw[if_pos h1,if_neg (fun h=>by cases h.1)]
  by_cases h2:sml ((s.data.toList.drop 1).take 10)=sml pmL∧s.data.toList[11]?=some 62
  ·rw[if_pos ⟨rfl,h2⟩,if_pos (key.2 ⟨h1,h2⟩)]
  ·rw[if_neg (fun h=>h2 h.2),if_neg (fun h=>h2 (key.1 h).2)]
   exact rst_is wide s h1
 ·rw[if_neg h1,if_neg (fun h=>h1 (key.1 h).1),rst_no wide s h1]
theorem ok_n (h:Ho) (wide:Bool) (ok:h.Ok) (hc:check h wide=0):h.n.length≤255∧(wrH h).length≤255∧(h.k=1→wrH h=h.n):=by
 obtain⟨t,h1,_,h3,h4⟩:=back_host h wide ok hc
 have hw:wrH h=t:=by unfold wrH;rw[h1]
 have ht:t=(if h.k=2 then [91]++print4 (h.a.take 4)++[93]
  else if h.k=3 then [91,73,80,118,54,58]++print6 h.a++[93]
  else if h.k=4 then [91]++h.n++[93]
  else h.n):=by
  have:=h1
  unfold print at this
  rw[if_pos h4]at this
  injection this with e _
  exact e.symm
 refine⟨?_,by rw[hw];exact h3,fun hk=>?_⟩
 ·by_cases k2:h.k=2
  ·have:h.n=[]:=by
    unfold check at h4
    rw[if_neg (by omega),if_pos k2]at h4
    split at h4
    ·rename_i e
     rw[e]
     rfl
    ·cases h4
   rw[this]
   simp
  ·by_cases k3:h.k=3
   ·have:h.n=[]:=by
     unfold check at h4
     rw[if_neg (by omega),if_neg (by omega),if_pos k3]at h4
     split at h4
     ·rename_i e
      exact e
     ·cases h4
    rw[this]
    simp
   ·by_cases k4:h.k=4
    ·rw[if_neg k2,if_neg k3,if_pos k4]at ht
     have:=congrArg List.length ht
     simp at this
     omega
    ·rw[if_neg k2,if_neg k3,if_neg k4]at ht
     rw[←ht]
     exact h3
 ·rw[hw,ht,if_neg (by omega),if_neg (by omega),if_neg (by omega)]
theorem hst_ok {wide:Bool} {s:List UInt8} {h:Ho} {n:Nat} (hh:hst wide s=.ok (h,n)):h.Ok∧check h wide=0:=by
 obtain⟨_,_,h3,_⟩:=hst_is hh
 have:=(back_text (s.take n) wide).1
 rw[h3]at this
 obtain⟨_,_,h5,h6,_⟩:=this rfl
 exact⟨h6,h5⟩
open Go.RowKit
theorem wpList_load_row9 {P:Program} {ops:Array Oper} {rest:List Oper} {op:Oper} {a:Act} {w:World} {Q:Exit→Act→World→Prop} (hw:Region.wanted op (yielded ops a.tmps)=true) (ty:TypeId) (x:Operand) (ho:op.op=.load ty x)
  (g:Nat) (hx:a.eval x=.pointer (some ⟨g,0,none⟩)) (cs:Array Value) (t:TypeId) (d:TypeDesc) (hc:Lies w g cs t)
  (hu:P.underlying ty=some d) (hd:(match d with| .struct _| .array _ _=>true|_=>false)=true) (hi:(P.info? ty).map (·.size)=some cs.size)
  (h:wpList P ops Q rest (a.put op.dst (.agg cs)) w):wpList P ops Q (op::rest) a w:=by
 unfold wpList
 rw[if_pos hw]
 left
 unfold Oper.wp
 rw[exec_load_row ty x ho g hx cs t d hc hu hd hi]
 exact h
theorem gPow:Tryz.prog.globalNamed "internal/strconv.uint64pow10"=some 5:=by kernel_rfl
theorem Td.but {w w':World} {b:Nat} (h:Td w) (hb:But b w w') (h10:10≤b):Td w':=by
 obtain⟨m,hm⟩:=h.ml
 refine⟨h.tb.but hb h10,?_,m,(hb.cell (p:=⟨2,0,none⟩) (by show 2≠b;omega) (World.block_lt_of_cell? w _ hm)).trans hm⟩
 have hp:=h.pow
 unfold PowTab Lib.TabIs World.var? at hp ⊢
 rw[gPow]at hp ⊢
 simp only[Option.bind_some]at hp ⊢
 have hlt:(5:Nat)<w.heap.size:=by
  rcases Nat.lt_or_ge 5 w.heap.size with h'|h'
  ·exact h'
  ·rw[Array.getElem?_eq_none h']at hp
   cases hp
 rw[hb.block 5 hlt (by omega)]
 exact hp
def ComeP (b:Nat) (s:ByteArray) (wide:Bool) (w:World) (X:Except (Nat×Nat) (Pt×Nat)) (e:Ending) (w':World):Prop:=
 But b w w'∧match X with
  | .ok (p,n)=>∃sl,e=.returned (.agg (pthC p.k sl p.l p.h))∧RdAt w' b s n wide 0 0∧w'.ownsRow w.heap.size 28 18 sl p.r.length (cellsH p.r)
  | .error (er,p)=>e=gaveUp er∧∃a,RdAt w' b s a wide er p
theorem pthC_none9 (k:Int):pthC k (.slice none 0 0) [] ho0=#[.int .i64 k,.slice none 0 0,.string ⟨#[]⟩,.int .i64 0,.string ⟨#[]⟩,.int .u8 0,.int .u8 0,.int .u8 0,.int .u8 0,.int .u8 0,.int .u8 0,.int .u8 0,.int .u8 0,.int .u8 0,.int .u8 0,.int .u8 0,.int .u8 0,.int .u8 0,.int .u8 0,.int .u8 0,.int .u8 0]:=by kernel_rfl
def putF (x:Array Value×Nat) (v:Value):Array Value×Nat:=(x.1.setIfInBounds x.2 v,x.2+1)
theorem put_at:∀(vs:List Value) (o:Nat) (cs:Array Value) (j:Nat),o+vs.length≤cs.size→((vs.foldl putF (cs,o)).1)[j]?=if o≤j∧j<o+vs.length then vs[j - o]? else cs[j]?
 |[],o,cs,j,_=>by
  rw[if_neg (by rw[List.length_nil];omega)]
  rfl
 |v::r,o,cs,j,h=>by
  rw[List.length_cons]at h ⊢
  rw[List.foldl_cons]
  have ih:=put_at r (o+1) (cs.setIfInBounds o v) j (by rw[Array.size_setIfInBounds];omega)
  have e:putF (cs,o) v=(cs.setIfInBounds o v,o+1):=rfl
  rw[e,ih]
  by_cases h1:o+1≤j∧j<o+1+r.length
  ·rw[if_pos h1,if_pos (by omega)]
   have e2:j - o=(j - (o+1))+1:=by omega
   rw[e2,List.getElem?_cons_succ]
  ·rw[if_neg h1]
   by_cases h2:j=o
   ·subst h2
    rw[if_pos (by omega),Nat.sub_self,List.getElem?_cons_zero,Array.getElem?_setIfInBounds_self_of_lt (by omega)]
   ·rw[if_neg (by omega),Array.getElem?_setIfInBounds_ne (by omega)]
theorem Lies.cellsPut {g:Nat} {t:TypeId}:∀(vs:List Value) (o:Nat) (cs:Array Value) (w:World),Lies w g cs t→Lies (w.setCells g o vs) g (vs.foldl putF (cs,o)).1 t
 |[],_,_,_,h=>h
 |v::r,o,cs,w,h=>by
  rw[World.setCells,List.foldl_cons]
  exact Lies.cellsPut r (o+1) _ _ (h.set o v)
theorem pth_box (k:Int) (sl:Value) (l:List UInt8) (h:Ho):pthC k sl l h=#[.int .i64 k,sl]++boxC l h:=by
 unfold pthC boxC
 rw[←Array.append_assoc]
 rfl
theorem Lies.boxPut {w:World} {g:Nat} {k:Int} {sl:Value} {t:TypeId} (h:Lies w g (pthC k sl [] ho0) t) (l:List UInt8) (ho:Ho) (ha:ho.a.length=16):Lies (w.setCells g 2 (boxC l ho).toList) g (pthC k sl l ho) t:=by
 have:=Lies.cellsPut (boxC l ho).toList 2 _ w h
 have hz:=boxC_size l ho ha
 have e:((boxC l ho).toList.foldl putF (pthC k sl [] ho0,2)).1=pthC k sl l ho:=by
  apply Array.ext_getElem?
  intro j
  rw[put_at _ _ _ _ (by rw[Array.length_toList,hz,pthC_size k sl [] ho0 rfl];omega),Array.length_toList,hz]
  by_cases hj:2≤j∧j<2+19
  ·rw[if_pos hj,pth_box k sl l ho,Array.getElem?_append_right (by simp;omega)]
   simp
  ·rw[if_neg hj]
   rcases Nat.lt_or_ge j 2 with h2|h2
   ·rw[pth_box k sl l ho,pth_box k sl [] ho0,Array.getElem?_append_left (by simp;omega),Array.getElem?_append_left (by simp;omega)]
   ·rw[Array.getElem?_eq_none (by rw[pthC_size k sl [] ho0 rfl];omega),Array.getElem?_eq_none (by rw[pthC_size k sl l ho ha];omega)]
 rw[e]at this
 exact this
theorem But.setCells {g b:Nat} {a:World} (hb:b=g∨a.heap.size≤b):∀(vs:List Value) (o:Nat) (c:World),But g a c→But g a (c.setCells b o vs)
 |[],_,_,h=>h
 |v::r,o,c,h=>by
  rw[World.setCells]
  refine But.setCells hb r (o+1) _ ?_
  exact⟨h.os,h.tape,h.output,by rw[World.size_setCell];exact h.size,fun j hj hne=>(Below.heap_setCell _ _ _ _ (by show j≠b;omega)).trans (h.block j hj hne)⟩
theorem Lies.setCells_other {g b:Nat} {cs:Array Value} {t:TypeId} (hne:g≠b):∀(vs:List Value) (o:Nat) (w:World),Lies w g cs t→Lies (w.setCells b o vs) g cs t
 |[],_,_,h=>h
 |v::r,o,w,h=>by
  rw[World.setCells]
  exact Lies.setCells_other hne r (o+1) _ (h.set_other (a:=⟨b,o,none⟩) hne v)
theorem ownH_setCells {B n t k b:Nat} {v:Value} {xs:List Value} (hne:∀j,v.ownBlock=some j→j≠b):∀(vs:List Value) (o:Nat) (w:World),w.ownsRow B t k v n xs→(w.setCells b o vs).ownsRow B t k v n xs
 |[],_,_,h=>h
 |u::r,o,w,h=>by
  rw[World.setCells]
  refine ownH_setCells hne r (o+1) _ (ownH_keep h (fun j hj=>Below.heap_setCell _ _ _ _ (by show j≠b;exact hne j hj)))
theorem own_ne {w:World} {B n t k g t2:Nat} {v:Value} {xs:List Value} {cs:Array Value} (h:w.ownsRow B t k v n xs) (hl:Lies w g cs t2) (ht:t≠t2):∀j,v.ownBlock=some j→j≠g:=fun j hj e=>by
 obtain⟨_,⟨rfl,_⟩|⟨g',cap,cur,rfl,_,hg,_⟩⟩:=h
 ·cases hj
 ·injection hj with hj
  subst hj
  subst e
  have:=hg.symm.trans hl
  injection this with this
  injection this with _ e2 _
  exact ht e2
theorem RtM.ofOwn {w:World} {B:Nat} {sl:Value} {r:List Ho} (h:w.ownsRow B 28 18 sl r.length (cellsH r)) (hr:∀x∈r,x.a.length=16):∃sp c,sl=.slice sp r.length c∧RtM w sp r:=by
 obtain⟨h1,⟨rfl,h2⟩|⟨g,cap,cur,rfl,hB,hg,hcap,_,hsz,htk⟩⟩:=h
 ·exact⟨none,0,by rw[h2],.inl (List.eq_nil_of_length_eq_zero h2)⟩
 ·refine⟨_,cap,rfl,.inr ⟨g,0,rfl,(Array.getElem?_eq_some_iff.1 hg).1,fun j hj i v hv=>?_⟩⟩
  have hl:Lies w g cur 28:=hg
  have hi:i<18:=by
   have:=(List.getElem?_eq_some_iff.1 hv).1
   rw[Array.length_toList,hostC_size _ (hr _ (List.getElem_mem hj))]at this
   exact this
  rw[hl.cell]
  have e:(cellsH r)[j*18+i]?=some v:=by
   have hr1:r=r.take j++r[j]::r.drop (j+1):=by rw[List.getElem_cons_drop,List.take_append_drop]
   have hlt:(cellsH (r.take j)).length=j*18:=by
    have key:∀l:List Ho,(∀x∈l,x.a.length=16)→(cellsH l).length=l.length*18:=by
     intro l
     induction l with
     |nil=>intro _;rfl
     |cons x l ih=>
      intro hx
      have e1:cellsH (x::l)=(hostC x).toList++cellsH l:=rfl
      rw[e1,List.length_append,ih (fun y hy=>hx y (List.mem_cons_of_mem _ hy)),Array.length_toList,hostC_size x (hx x List.mem_cons_self),List.length_cons]
      omega
    rw[key _ (fun x hx=>hr x (List.mem_of_mem_take hx)),List.length_take]
    rw[Nat.min_eq_left (Nat.le_of_lt hj)]
   have e2:cellsH r=cellsH (r.take j)++((hostC r[j]).toList++cellsH (r.drop (j+1))):=by
    conv=>lhs;rw[hr1]
    rw[cellsH_append]
    rfl
   rw[e2,List.getElem?_append_right (by rw[hlt];omega),hlt,Nat.add_sub_cancel_left,List.getElem?_append_left (by rw[Array.length_toList,hostC_size _ (hr _ (List.getElem_mem hj))];exact hi)]
   exact hv
  rw[←htk]at e
  rw[List.getElem?_take]at e
  split at e
  ·rw[Nat.zero_add]
   simpa using e
  ·cases e
end Go.Proofs.YtfjpkfhbmldmfabGreatDoor
