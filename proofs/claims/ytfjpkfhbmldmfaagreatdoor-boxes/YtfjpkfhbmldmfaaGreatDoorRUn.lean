/-
  Runes laid backwards to their places: the plain mathematics.
-/
import Derived.Test.YtfjpkfhbmldmfaaGreatDoorMk
import Derived.Test.YtfjpkfhbmldmfaaGreatDoorBck
import Derived.Test.YtfjpkfhbmldmfaaGreatDoorLate5
import Derived.Lib.OthersKept
namespace Go.Proofs.YtfjpkfhbmldmfaaGreatDoor
theorem insAll_snoc (base:List Int) (ps:List (Int×Nat)) (x:Int×Nat):insAll base (ps++[x])=(insAll base ps).insertIdx x.2 x.1:=by
 unfold insAll
 rw[List.foldl_append]
 rfl
theorem PsOk_get:∀{ps:List (Int×Nat)} {h:Nat},PsOk h ps→∀j (hj:j<ps.length),ps[j].2≤h+j∧128≤ps[j].1∧ps[j].1≤1114111
 |x::t,h,hp,0,_=>⟨hp.1,hp.2.1,hp.2.2.1⟩
 |x::t,h,hp,j+1,hj=>by
  have:=PsOk_get hp.2.2.2 j (by simpa using hj)
  simp only[List.getElem_cons_succ]
  omega
theorem insAll_length (base:List Int):∀ps:List (Int×Nat),PsOk base.length ps→(insAll base ps).length=base.length+ps.length:=by
 intro ps
 induction ps generalizing base with
 |nil=>intro _;rfl
 |cons x t ih=>
  intro hp
  have h1:(base.insertIdx x.2 x.1).length=base.length+1:=List.length_insertIdx_of_le_length hp.1 _
  have:=ih (base.insertIdx x.2 x.1) (by rw[h1];exact hp.2.2.2)
  show(insAll (base.insertIdx x.2 x.1) t).length=_
  rw[this,h1,List.length_cons]
  omega
theorem PsOk_take {ps:List (Int×Nat)} {h:Nat} (hp:PsOk h ps) (k:Nat):PsOk h (ps.take k):=by
 induction ps generalizing h k with
 |nil=>simpa using hp
 |cons x t ih=>
  cases k with
  |zero=>trivial
  |succ k=>exact⟨hp.1,hp.2.1,hp.2.2.1,ih hp.2.2.2 k⟩
structure SlOk (base:List Int) (ps:List (Int×Nat)) (t:Nat) (sl:List (Option Int)):Prop where
 len:sl.length=base.length+ps.length
 fil:fill sl (insAll base (ps.take (ps.length - t)))=insAll base ps
 cnt:pre (free sl) (base.length+ps.length)=((base.length+ps.length - t:Nat):Int)
 big:∀r,some r∈sl→128≤r
theorem free_01 (sl:List (Option Int)):(∀j,0≤free sl j)∧∀j,free sl j≤1:=⟨fun j=>by unfold free;split<;>omega,fun j=>by unfold free;split<;>omega⟩
theorem free_one {sl:List (Option Int)} {j:Nat} (h:free sl j=1):sl[j]?=some none:=by
 unfold free at h
 split at h
 ·assumption
 ·omega
theorem SlOk.step {base:List Int} {ps:List (Int×Nat)} {t:Nat} {sl:List (Option Int)} (H:SlOk base ps t sl) (hp:PsOk base.length ps) (ht:t<ps.length) (at':Nat) (h1:free sl at'=1) (h2:pre (free sl) at'=((ps[ps.length - 1 - t]'(by omega)).2:Int)):
  SlOk base ps (t+1) (sl.set at' (some (ps[ps.length - 1 - t]'(by omega)).1)):=by
 have hg:=PsOk_get hp (ps.length - 1 - t) (by omega)
 have hn:=free_one h1
 have hlt:at'<sl.length:=(List.getElem?_eq_some_iff.1 hn).1
 have hfs:=free_set sl at' (ps[ps.length - 1 - t]'(by omega)).1 hn
 refine⟨by rw[List.length_set];exact H.len,?_,?_,fun r hr=>?_⟩
 ·have e:ps.take (ps.length - t)=ps.take (ps.length - (t+1))++[ps[ps.length - 1 - t]'(by omega)]:=by
   rw[show ps.length - t=(ps.length - 1 - t)+1 from by omega,show ps.length - (t+1)=ps.length - 1 - t from by omega,List.take_succ_eq_append_getElem (by omega)]
  have:=H.fil
  rw[e,insAll_snoc]at this
  rw[←this]
  symm
  refine fill_insert sl _ _ at' _ ?_ hn h2
  rw[insAll_length base _ (PsOk_take hp _),List.length_take]
  omega
 ·rw[pre_ext _ _ _ (fun j _=>hfs j),pre_put,H.cnt,if_pos (by rw[←H.len];exact hlt)]
  omega
 ·rcases List.mem_or_eq_of_mem_set hr with hr|hr
  ·exact H.big r hr
  ·injection hr with hr
   rw[hr]
   exact hg.2.1
def slC (sl:List (Option Int)):List Int:=sl.map fun o=>o.getD 0
structure FlOk (base:List Int) (sl:List (Option Int)) (k a:Nat) (cs:List Int):Prop where
 le:a≤sl.length
 cnt:pre (free sl) a=k
 eq:cs=fill (sl.take a) (base.take k)++slC (sl.drop a)
theorem fill_snoc (s:List (Option Int)):∀(l:List Int) (o:Option Int) (x:Int),pre (free s) s.length=l.length→fill (s++[o]) (match o with|none=>l++[x]|some _=>l)=fill s l++[match o with|none=>x|some r=>r]:=by
 induction s with
 |nil=>
  intro l o x h
  have:l=[]:=by
   simp only[pre,List.length_nil]at h
   exact List.eq_nil_of_length_eq_zero (by omega)
  subst this
  cases o<;>rfl
 |cons q s ih=>
  intro l o x h
  rw[List.length_cons,free_cons]at h
  cases q with
  |some r=>
   simp only[if_neg (show ¬(some r=(none:Option Int)) by simp),Int.zero_add]at h
   simp only[List.cons_append,fill]
   rw[←ih l o x h]
  |none=>
   simp only[if_true]at h
   cases l with
   |nil=>
    have:=pre_mono (free s) (free_01 s).1 (a:=0) (b:=s.length) (Nat.zero_le _)
    simp only[pre]at this
    simp at h
    omega
   |cons y l=>
    have h':pre (free s) s.length=l.length:=by simp only[List.length_cons]at h;omega
    have:=ih l o x h'
    cases o with
    |none=>simp only[List.cons_append,fill]at this ⊢;rw[this]
    |some r=>simp only[List.cons_append,fill]at this ⊢;rw[this]
theorem free_take (s:List (Option Int)) (a:Nat) (_:a≤s.length):pre (free (s.take a)) a=pre (free s) a:=by
 refine pre_ext _ _ _ (fun j hj=>?_)
 unfold free
 rw[List.getElem?_take,if_pos hj]
theorem FlOk.next {base:List Int} {sl:List (Option Int)} {k a:Nat} {cs:List Int} (H:FlOk base sl k a cs) (hs:pre (free sl) sl.length=base.length) (hk:k<base.length):a<sl.length:=by
 rcases Nat.lt_or_ge a sl.length with h|h
 ·exact h
 ·have:=H.le
  obtain rfl:a=sl.length:=by omega
  have:=H.cnt
  omega
theorem FlOk.done {base:List Int} {sl:List (Option Int)} {a:Nat} {cs:List Int} (H:FlOk base sl base.length a cs) (hs:pre (free sl) sl.length=base.length):cs=fill sl base:=by
 have key:∀(d:List (Option Int)) (s:List (Option Int)) (l:List Int),pre (free s) s.length=l.length→pre (free (s++d)) (s++d).length=l.length→fill s l++slC d=fill (s++d) l:=by
  intro d
  induction d with
  |nil=>intro s l _ _;simp[slC]
  |cons o d ih=>
   intro s l h1 h2
   have e:pre (free (s++[o])) (s++[o]).length=l.length:=by
    have a1:pre (free (s++[o])) s.length=l.length:=by
     rw[←h1]
     refine pre_ext _ _ _ (fun j hj=>?_)
     unfold free
     rw[List.getElem?_append_left hj]
    have a2:pre (free (s++o::d)) (s.length+1)=pre (free (s++[o])) (s.length+1):=by
     refine pre_ext _ _ _ (fun j hj=>?_)
     unfold free
     rw[show s++o::d=(s++[o])++d from by simp,List.getElem?_append_left (by simp;omega)]
    have a3:=pre_mono (free (s++o::d)) (free_01 _).1 (a:=s.length+1) (b:=(s++o::d).length) (by simp)
    rw[a2,h2]at a3
    have a4:=pre_mono (free (s++[o])) (free_01 _).1 (a:=s.length) (b:=s.length+1) (by omega)
    simp only[List.length_append,List.length_cons,List.length_nil]
    simp only[Nat.zero_add]
    omega
   have ho:o≠none:=by
    intro e0
    subst e0
    have:free (s++[none]) s.length=1:=by
     unfold free
     rw[List.getElem?_append_right (Nat.le_refl _),Nat.sub_self]
     simp
    have a1:pre (free (s++[none])) s.length=l.length:=by
     rw[←h1]
     refine pre_ext _ _ _ (fun j hj=>?_)
     unfold free
     rw[List.getElem?_append_left hj]
    simp only[List.length_append,List.length_cons,List.length_nil,pre,Nat.zero_add]at e
    omega
   obtain⟨r,rfl⟩:=Option.ne_none_iff_exists'.1 ho
   have f:=fill_snoc s l (some r) 0 h1
   simp only at f
   have:=ih (s++[some r]) l e (by simpa using h2)
   rw[f]at this
   rw[show s++some r::d=(s++[some r])++d from by simp,←this]
   simp[slC]
 rw[H.eq,List.take_of_length_le (Nat.le_refl _)]
 have:=key (sl.drop a) (sl.take a) base (by rw[List.length_take,Nat.min_eq_left H.le,free_take sl a H.le,H.cnt]) (by rw[List.take_append_drop];exact hs)
 rw[this,List.take_append_drop]
open Go.RowKit
attribute [local go_sem] Oper.semAt_some
theorem Lies.grown {W W':World} {g:Nat} {cs:Array Value} {t:TypeId} {row:Option Nat} {B:Nat} (h:Lies W g cs t) (hg:W.grownBy W' row) (hr:∀r,row=some r→B≤r∧∃o:Obj,W.heap[r]?=some o∧o.isCells=false):Lies W' g cs t:=
 (hg.block g h.lt (fun e=>by
  obtain⟨_,o,ho,hc⟩:=hr g e.symm
  rw[h]at ho
  injection ho with ho
  subst ho
  cases hc)).trans h
theorem MkAt.but {w w':World} {g N k:Nat} {f:Nat→Int} (h:MkAt w g N f) (hb:But k w w') (hne:g≠k):MkAt w' g N f:=h.keep (hb.block g h.lt hne)
open Go.RowKit
open Go.RowKit
end Go.Proofs.YtfjpkfhbmldmfaaGreatDoor
