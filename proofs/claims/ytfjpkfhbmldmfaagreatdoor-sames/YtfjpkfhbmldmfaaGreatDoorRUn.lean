/-
  The document's Wide and bit.
-/
import Derived.Test.YtfjpkfhbmldmfaaGreatDoorRc8
import Derived.Test.YtfjpkfhbmldmfaaGreatDoorRpP
import Derived.Test.YtfjpkfhbmldmfaaGreatDoorClo
import Derived.Test.YtfjpkfhbmldmfaaGreatDoorChk
import Derived.Test.YtfjpkfhbmldmfaaGreatDoorWst
import Derived.Test.YtfjpkfhbmldmfaaGreatDoorLate5
import Derived.Test.YtfjpkfhbmldmfaaGreatDoorREnc
import Derived.Lib.SlBytesConst
import Derived.RangeFuncNested
import Derived.RangeFuncBound
import Derived.RangeFuncCalls
import Derived.RangeFuncLeaves
import Derived.Shelf.Abstract
import Derived.Shelf.RegionOpen
import Derived.WalkKit
import Derived.OwnWalkIn
import Derived.TacticsInMore
import Derived.LoopNIn
import Derived.LoopIn
import Derived.Test.YtfjpkfhbmldmfaaGreatDoorDec
import Derived.Lib.OthersKept
namespace Go.Proofs.YtfjpkfhbmldmfaaGreatDoor
open Go.RowKit
def asc (l:List UInt8):Bool:=l.all fun c=>decide (c.toNat<128)
set_option maxHeartbeats 1000000 in
set_option maxRecDepth 100000 in
theorem rwide_any (s:ByteArray) (w:World) (hs:s.size≤maxLen):Calls Tryz.prog 118 #[.string s] w fun e w'=>e=.returned (.bool (!asc s.data.toList))∧w'=w:=by
 unfold maxLen at hs
 go_enter Tryz.func118,Tryz.ntmps118
 go_wp2_with fail
 go_loopw [3] (fun c wr=>∃k:Nat,k≤s.size∧c=.int .i64 k∧Hid (AllF (fun c=>decide (c.toNat<128)) s 0 k)∧Hid (wr=w)) (fun c _=>s.size - (intOf c).toNat)
 case atStart=>exact⟨0,Nat.zero_le _,rfl,AllF.none _ _ _,rfl⟩
 case round=>
  obtain⟨k,hk,rfl,HA,HV⟩:=hrel
  obtain rfl:w=wr:=HV.out.symm
  clear HV
  by_cases hlt:k<s.size
  ·have hlt':(k:Int)<(s.size:Int):=by omega
   by_cases hc:s[k].toNat<128
   ·have HN:Hid (AllF (fun c=>decide (c.toNat<128)) s 0 (k+1)):=HA.out.step hlt (decide_eq_true hc)
    have hc':¬(127:Int)<(s[k].toNat:Int):=by omega
    clear HA hc
    go_wp2_with fail
    go_roundw
    case rel=>exact⟨k+1,by omega,by go_num,HN,trivial⟩
    case measure=>simp[intOf];omega
   ·have HT:Hid (asc s.data.toList=false):=by
     show _=_
     unfold asc
     rw[List.all_eq_false]
     exact⟨s[k],by rw[←get_list s k (by rw[len_list];exact hlt)];exact List.getElem_mem _,by simpa using hc⟩
    have hc':(127:Int)<(s[k].toNat:Int):=by omega
    clear HA hc
    go_wp2_with fail
    go_ret
    exact⟨by rw[HT.out];rfl,rfl⟩
  ·have hlt':¬(k:Int)<(s.size:Int):=by omega
   have HT:Hid (asc s.data.toList=true):=by
    show _=_
    unfold asc
    rw[List.all_eq_true]
    intro c hc
    obtain⟨j,hj,rfl⟩:=List.getElem_of_mem hc
    rw[get_list]
    exact HA.out j _ (Nat.zero_le _) (by rw[len_list]at hj;omega)
   clear HA
   go_wp2_with fail
   go_ret
   exact⟨by rw[HT.out];rfl,rfl⟩
def Rw2 (l:List Int) (a b:Nat):Prop:=rn l a<rn l b∨(rn l a=rn l b∧a<b)
theorem sorted_eq {R:Nat→Nat→Prop} (hirr:∀a,¬R a a) (hasym:∀a b,R a b→R b a→False):∀(a b:List Nat),a.Pairwise R→b.Pairwise R→(∀x,x∈a↔x∈b)→a=b
 |[],[],_,_,_=>rfl
 |[],y::b,_,_,h=>by have:=(h y).2 (by simp);cases this
 |x::a,[],_,_,h=>by have:=(h x).1 (by simp);cases this
 |x::a,y::b,ha,hb,h=>by
  rw[List.pairwise_cons]at ha hb
  have e:x=y:=by
   have h1:=(h x).1 (by simp)
   have h2:=(h y).2 (by simp)
   rw[List.mem_cons]at h1 h2
   rcases h1 with h1|h1
   ·exact h1
   ·rcases h2 with h2|h2
    ·exact h2.symm
    ·exact absurd (hb.1 x h1) (fun h'=>hasym _ _ h' (ha.1 y h2))
  subst e
  congr 1
  refine sorted_eq hirr hasym a b ha.2 hb.2 (fun z=>?_)
  have hz:=h z
  rw[List.mem_cons,List.mem_cons]at hz
  constructor
  ·intro hm
   rcases hz.1 (.inr hm) with e|e
   ·subst e;exact absurd (ha.1 z hm) (hirr z)
   ·exact e
  ·intro hm
   rcases hz.2 (.inr hm) with e|e
   ·subst e;exact absurd (hb.1 z hm) (hirr z)
   ·exact e
structure OrdOk (l:List Int) (k:Nat) (S:List Nat):Prop where
 sorted:S.Pairwise (Rw2 l)
 mem:∀x,x∈S↔x∈wideK l k
theorem ordOk_start (l:List Int):OrdOk l 0 []:=⟨List.Pairwise.nil,fun x=>by simp[wideK]⟩
theorem OrdOk.done {l:List Int} {S:List Nat} (h:OrdOk l l.length S):S=ordW l:=by
 refine sorted_eq (R:=Rw2 l) (fun a h=>?_) (fun a b h1 h2=>?_) S (ordW l) h.sorted (pairwise_ord l) (fun x=>?_)
 ·unfold Rw2 at h;omega
 ·unfold Rw2 at h1 h2;omega
 ·rw[h.mem x]
  unfold ordW
  rw[List.mem_mergeSort]
theorem OrdOk.small {l:List Int} {k:Nat} {S:List Nat} (h:OrdOk l k S) (hr:¬128≤rn l k):OrdOk l (k+1) S:=
 ⟨h.sorted,fun x=>by rw[wideK_succ,if_neg hr,List.append_nil];exact h.mem x⟩
theorem OrdOk.lt {l:List Int} {k:Nat} {S:List Nat} (h:OrdOk l k S) {x:Nat} (hx:x∈S):x<k∧128≤rn l x:=wideK_lt ((h.mem x).1 hx)
theorem OrdOk.put {l:List Int} {k at':Nat} {S:List Nat} (h:OrdOk l k S) (hr:128≤rn l k) (ha:at'≤S.length) (hhi:∀j (hj:j<S.length),at'≤j→rn l k<rn l S[j]) (hlo:at'=0∨∃hj:at' - 1<S.length,rn l S[at' - 1]≤rn l k):
  OrdOk l (k+1) (S.take at'++[k]++S.drop at'):=by
 have hlow:∀x∈S.take at',rn l x≤rn l k:=by
  intro x hx
  obtain⟨j,hj,rfl⟩:=List.getElem_of_mem hx
  rw[List.length_take]at hj
  rw[List.getElem_take]
  rcases hlo with h0|⟨hj',hle⟩
  ·omega
  ·rcases Nat.lt_or_ge j (at' - 1) with h1|h1
   ·have:=List.pairwise_iff_getElem.1 h.sorted j (at' - 1) (by omega) hj' h1
    unfold Rw2 at this
    omega
   ·have e:j=at' - 1:=by omega
    subst e
    exact hle
 have hhigh:∀x∈S.drop at',rn l k<rn l x:=by
  intro x hx
  obtain⟨j,hj,rfl⟩:=List.getElem_of_mem hx
  rw[List.length_drop]at hj
  rw[List.getElem_drop]
  exact hhi _ _ (by omega)
 have hS:=h.sorted
 rw[←List.take_append_drop at' S,List.pairwise_append]at hS
 refine⟨?_,fun x=>?_⟩
 ·rw[List.append_assoc,List.pairwise_append]
  refine⟨hS.1,?_,?_⟩
  ·rw[List.singleton_append,List.pairwise_cons]
   exact⟨fun x hx=>.inl (hhigh x hx),hS.2.1⟩
  ·intro x hx y hy
   rw[List.singleton_append,List.mem_cons]at hy
   rcases hy with rfl|hy
   ·have:=hlow x hx
    have:=(h.lt (List.mem_of_mem_take hx)).1
    unfold Rw2
    omega
   ·exact hS.2.2 x hx y hy
 ·rw[wideK_succ,if_pos hr,List.mem_append,List.mem_append,List.mem_append,←h.mem x]
  conv=>rhs;rw[←List.take_append_drop at' S,List.mem_append]
  constructor
  ·rintro ((h|h)|h)
   ·exact .inl (.inl h)
   ·exact .inr h
   ·exact .inl (.inr h)
  ·rintro ((h|h)|h)
   ·exact .inl (.inl h)
   ·exact .inr h
   ·exact .inl (.inr h)
def insAll (base:List Int) (ps:List (Int×Nat)):List Int:=ps.foldl (fun L x=>L.insertIdx x.2 x.1) base
def PsOk (h:Nat):List (Int×Nat)→Prop
 |[]=>True
 |x::t=>x.2≤h∧128≤x.1∧x.1≤1114111∧PsOk (h+1) t
open Go.RowKit
open Go.RowKit
set_option maxHeartbeats 1000000 in
set_option maxRecDepth 100000 in
theorem dbound_any (i bias:Nat) (hi:i≤4294967296) (hb:bias≤8589934592) (w:World):
  Calls Tryz.prog 185 #[.int .i64 i,.int .i64 bias] w fun e w'=>e=.returned (.int .i64 (bnd i bias))∧w'=w:=by
 have HB:Hid ((bnd i bias:Int)=min (max (36*((i:Int)+1) - bias) 1) 26):=by
  show _=_
  unfold bnd
  omega
 have hw:IntKind.i64.wrap (36*((i:Int)+1) - bias)=36*((i:Int)+1) - bias:=by rw[IntKind.wrap_i64];omega
 by_cases h1:36*((i:Int)+1) - bias<1
 ·go_enter Tryz.func185,Tryz.ntmps185
  go_wp2
  go_ret
  refine⟨ret_i64 ?_,rfl⟩
  rw[HB.out]
  omega
 by_cases h2:26<36*((i:Int)+1) - bias
 ·go_enter Tryz.func185,Tryz.ntmps185
  go_wp2
  go_ret
  refine⟨ret_i64 ?_,rfl⟩
  rw[HB.out]
  omega
 ·go_enter Tryz.func185,Tryz.ntmps185
  go_wp2
  go_ret
  refine⟨ret_i64 ?_,rfl⟩
  rw[HB.out]
  omega
set_option maxHeartbeats 1000000 in
set_option maxRecDepth 100000 in
theorem dbias_any (s h:Nat) (first:Bool) (hs:s≤2147483647) (h0:0<h) (hh:h≤4294967296) (w:World):
  Calls Tryz.prog 157 #[.int .i64 s,.int .i64 h,.bool first] w fun e w'=>e=.returned (.int .i64 (biasB s h first))∧w'=w:=by
 have q2:(s:Int).tdiv 2=((s / 2:Nat):Int):=by rw[Int.tdiv_eq_ediv_of_nonneg (by omega)];omega
 have q7:(s:Int).tdiv 700=((s / 700:Nat):Int):=by rw[Int.tdiv_eq_ediv_of_nonneg (by omega)];omega
 have HB:Hid (biasB s h first=biasL ((if first then s / 700 else s / 2)+(if first then s / 700 else s / 2) / h) 0):=rfl
 generalize hB:biasB s h first=B at HB ⊢
 clear hB
 cases first
 ·simp only[Bool.false_eq_true,if_false]at HB
  have hd2:s / 2≤2147483647:=by omega
  generalize s / 2=d at HB q2 hd2
  have qh:(d:Int).tdiv h=((d / h:Nat):Int):=by rw[Int.tdiv_eq_ediv_of_nonneg (by omega),Int.natCast_ediv]
  have hdh:=Nat.div_le_self d h
  generalize d / h=dh at HB qh hdh
  go_enter Tryz.func157,Tryz.ntmps157
  go_wp2
  go_loop [7,8] (fun dv kv=>∃x k:Nat,dv=.int .i64 x∧kv=.int .i64 k∧x≤4294967296∧k+36*x≤154618822656∧Hid (B=biasL x k)) (fun dv _=>(intOf dv).toNat)
  case atStart=>exact⟨d+dh,0,by go_num,rfl,by omega,by omega,HB⟩
  case round=>
   obtain⟨x,k,rfl,rfl,hx,hk,HX⟩:=hrel
   by_cases hl:455<x
   ·have q35:(x:Int).tdiv 35=((x / 35:Nat):Int):=by rw[Int.tdiv_eq_ediv_of_nonneg (by omega)];omega
    have HX2:Hid (B=biasL (x / 35) (k+36)):=by show _=_;rw[HX.out,biasL_go hl]
    have hx35:x / 35<x:=by omega
    have hk35:k+36+36*(x / 35)≤154618822656:=by omega
    generalize x / 35=y at q35 HX2 hx35 hk35
    go_wp2
    go_round
    case rel=>exact⟨y,k+36,by first|rfl|go_num,by go_num,by omega,hk35,HX2⟩
    case measure=>simp[intOf];omega
   ·have qe:(36*(x:Int)).tdiv ((x:Int)+38)=((36*x / (x+38):Nat):Int):=by rw[Int.tdiv_eq_ediv_of_nonneg (by omega),Int.natCast_ediv];push_cast;rfl
    have HX2:Hid (B=k+36*x / (x+38)):=by show _=_;rw[HX.out,biasL_end hl]
    have hle:36*x / (x+38)≤36*x:=Nat.div_le_self _ _
    generalize 36*x / (x+38)=y at qe HX2 hle
    go_wp2
    go_ret
    exact⟨ret_i64 (by rw[HX2.out];push_cast;rfl),rfl⟩
 ·simp only[if_true]at HB
  have hd2:s / 700≤2147483647:=by omega
  generalize s / 700=d at HB q7 hd2
  have qh:(d:Int).tdiv h=((d / h:Nat):Int):=by rw[Int.tdiv_eq_ediv_of_nonneg (by omega),Int.natCast_ediv]
  have hdh:=Nat.div_le_self d h
  generalize d / h=dh at HB qh hdh
  have hs2:s / 2≤2147483647:=by omega
  generalize s / 2=d2 at q2 hs2
  go_enter Tryz.func157,Tryz.ntmps157
  go_wp2
  go_loop [7,8] (fun dv kv=>∃x k:Nat,dv=.int .i64 x∧kv=.int .i64 k∧x≤4294967296∧k+36*x≤154618822656∧Hid (B=biasL x k)) (fun dv _=>(intOf dv).toNat)
  case atStart=>exact⟨d+dh,0,by go_num,rfl,by omega,by omega,HB⟩
  case round=>
   obtain⟨x,k,rfl,rfl,hx,hk,HX⟩:=hrel
   by_cases hl:455<x
   ·have q35:(x:Int).tdiv 35=((x / 35:Nat):Int):=by rw[Int.tdiv_eq_ediv_of_nonneg (by omega)];omega
    have HX2:Hid (B=biasL (x / 35) (k+36)):=by show _=_;rw[HX.out,biasL_go hl]
    have hx35:x / 35<x:=by omega
    have hk35:k+36+36*(x / 35)≤154618822656:=by omega
    generalize x / 35=y at q35 HX2 hx35 hk35
    go_wp2
    go_round
    case rel=>exact⟨y,k+36,by first|rfl|go_num,by go_num,by omega,hk35,HX2⟩
    case measure=>simp[intOf];omega
   ·have qe:(36*(x:Int)).tdiv ((x:Int)+38)=((36*x / (x+38):Nat):Int):=by rw[Int.tdiv_eq_ediv_of_nonneg (by omega),Int.natCast_ediv];push_cast;rfl
    have HX2:Hid (B=k+36*x / (x+38)):=by show _=_;rw[HX.out,biasL_end hl]
    have hle:36*x / (x+38)≤36*x:=Nat.div_le_self _ _
    generalize 36*x / (x+38)=y at qe HX2 hle
    go_wp2
    go_ret
    exact⟨ret_i64 (by rw[HX2.out];push_cast;rfl),rfl⟩
open Go.RowKit
open Go.RowKit
open Go.RowKit
attribute [local go_sem] Oper.semAt_some
theorem insAll_snoc (base:List Int) (ps:List (Int×Nat)) (x:Int×Nat):insAll base (ps++[x])=(insAll base ps).insertIdx x.2 x.1:=by
 unfold insAll
 rw[List.foldl_append]
 rfl
theorem PsOk_get:∀{ps:List (Int×Nat)} {h:Nat},PsOk h ps→∀j (hj:j<ps.length),ps[j].2≤h+j∧128≤ps[j].1∧ps[j].1≤1114111
 |x::t,h,hp,0,_=>⟨hp.1,hp.2.1,hp.2.2.1⟩
 |x::t,h,hp,j+1,hj=>by
  have:=PsOk_get hp.2.2.2 j (by simpa using hj)
  simp only[List.getElem_cons_succ]
  omega
theorem insAll_length (base:List Int):∀ps:List (Int×Nat),PsOk base.length ps→(insAll base ps).length=base.length+ps.length:=by
 intro ps
 induction ps generalizing base with
 |nil=>intro _;rfl
 |cons x t ih=>
  intro hp
  have h1:(base.insertIdx x.2 x.1).length=base.length+1:=List.length_insertIdx_of_le_length hp.1 _
  have:=ih (base.insertIdx x.2 x.1) (by rw[h1];exact hp.2.2.2)
  show(insAll (base.insertIdx x.2 x.1) t).length=_
  rw[this,h1,List.length_cons]
  omega
theorem PsOk_take {ps:List (Int×Nat)} {h:Nat} (hp:PsOk h ps) (k:Nat):PsOk h (ps.take k):=by
 induction ps generalizing h k with
 |nil=>simpa using hp
 |cons x t ih=>
  cases k with
  |zero=>trivial
  |succ k=>exact⟨hp.1,hp.2.1,hp.2.2.1,ih hp.2.2.2 k⟩
structure SlOk (base:List Int) (ps:List (Int×Nat)) (t:Nat) (sl:List (Option Int)):Prop where
 len:sl.length=base.length+ps.length
 fil:fill sl (insAll base (ps.take (ps.length - t)))=insAll base ps
 cnt:pre (free sl) (base.length+ps.length)=((base.length+ps.length - t:Nat):Int)
 big:∀r,some r∈sl→128≤r
theorem free_01 (sl:List (Option Int)):(∀j,0≤free sl j)∧∀j,free sl j≤1:=⟨fun j=>by unfold free;split<;>omega,fun j=>by unfold free;split<;>omega⟩
theorem free_one {sl:List (Option Int)} {j:Nat} (h:free sl j=1):sl[j]?=some none:=by
 unfold free at h
 split at h
 ·assumption
 ·omega
theorem SlOk.step {base:List Int} {ps:List (Int×Nat)} {t:Nat} {sl:List (Option Int)} (H:SlOk base ps t sl) (hp:PsOk base.length ps) (ht:t<ps.length) (at':Nat) (h1:free sl at'=1) (h2:pre (free sl) at'=((ps[ps.length - 1 - t]'(by omega)).2:Int)):
  SlOk base ps (t+1) (sl.set at' (some (ps[ps.length - 1 - t]'(by omega)).1)):=by
 have hg:=PsOk_get hp (ps.length - 1 - t) (by omega)
 have hn:=free_one h1
 have hlt:at'<sl.length:=(List.getElem?_eq_some_iff.1 hn).1
 have hfs:=free_set sl at' (ps[ps.length - 1 - t]'(by omega)).1 hn
 refine⟨by rw[List.length_set];exact H.len,?_,?_,fun r hr=>?_⟩
 ·have e:ps.take (ps.length - t)=ps.take (ps.length - (t+1))++[ps[ps.length - 1 - t]'(by omega)]:=by
   rw[show ps.length - t=(ps.length - 1 - t)+1 from by omega,show ps.length - (t+1)=ps.length - 1 - t from by omega,List.take_succ_eq_append_getElem (by omega)]
  have:=H.fil
  rw[e,insAll_snoc]at this
  rw[←this]
  symm
  refine fill_insert sl _ _ at' _ ?_ hn h2
  rw[insAll_length base _ (PsOk_take hp _),List.length_take]
  omega
 ·rw[pre_ext _ _ _ (fun j _=>hfs j),pre_put,H.cnt,if_pos (by rw[←H.len];exact hlt)]
  omega
 ·rcases List.mem_or_eq_of_mem_set hr with hr|hr
  ·exact H.big r hr
  ·injection hr with hr
   rw[hr]
   exact hg.2.1
def slC (sl:List (Option Int)):List Int:=sl.map fun o=>o.getD 0
structure FlOk (base:List Int) (sl:List (Option Int)) (k a:Nat) (cs:List Int):Prop where
 le:a≤sl.length
 cnt:pre (free sl) a=k
 eq:cs=fill (sl.take a) (base.take k)++slC (sl.drop a)
theorem fill_snoc (s:List (Option Int)):∀(l:List Int) (o:Option Int) (x:Int),pre (free s) s.length=l.length→fill (s++[o]) (match o with|none=>l++[x]|some _=>l)=fill s l++[match o with|none=>x|some r=>r]:=by
 induction s with
 |nil=>
  intro l o x h
  have:l=[]:=by
   simp only[pre,List.length_nil]at h
   exact List.eq_nil_of_length_eq_zero (by omega)
  subst this
  cases o<;>rfl
 |cons q s ih=>
  intro l o x h
  rw[List.length_cons,free_cons]at h
  cases q with
  |some r=>
   simp only[if_neg (show ¬(some r=(none:Option Int)) by simp),Int.zero_add]at h
   simp only[List.cons_append,fill]
   rw[←ih l o x h]
  |none=>
   simp only[if_true]at h
   cases l with
   |nil=>
    have:=pre_mono (free s) (free_01 s).1 (a:=0) (b:=s.length) (Nat.zero_le _)
    simp only[pre]at this
    simp at h
    omega
   |cons y l=>
    have h':pre (free s) s.length=l.length:=by simp only[List.length_cons]at h;omega
    have:=ih l o x h'
    cases o with
    |none=>simp only[List.cons_append,fill]at this ⊢;rw[this]
    |some r=>simp only[List.cons_append,fill]at this ⊢;rw[this]
theorem free_take (s:List (Option Int)) (a:Nat) (_:a≤s.length):pre (free (s.take a)) a=pre (free s) a:=by
 refine pre_ext _ _ _ (fun j hj=>?_)
 unfold free
 rw[List.getElem?_take,if_pos hj]
theorem FlOk.next {base:List Int} {sl:List (Option Int)} {k a:Nat} {cs:List Int} (H:FlOk base sl k a cs) (hs:pre (free sl) sl.length=base.length) (hk:k<base.length):a<sl.length:=by
 rcases Nat.lt_or_ge a sl.length with h|h
 ·exact h
 ·have:=H.le
  obtain rfl:a=sl.length:=by omega
  have:=H.cnt
  omega
theorem FlOk.done {base:List Int} {sl:List (Option Int)} {a:Nat} {cs:List Int} (H:FlOk base sl base.length a cs) (hs:pre (free sl) sl.length=base.length):cs=fill sl base:=by
 have key:∀(d:List (Option Int)) (s:List (Option Int)) (l:List Int),pre (free s) s.length=l.length→pre (free (s++d)) (s++d).length=l.length→fill s l++slC d=fill (s++d) l:=by
  intro d
  induction d with
  |nil=>intro s l _ _;simp[slC]
  |cons o d ih=>
   intro s l h1 h2
   have e:pre (free (s++[o])) (s++[o]).length=l.length:=by
    have a1:pre (free (s++[o])) s.length=l.length:=by
     rw[←h1]
     refine pre_ext _ _ _ (fun j hj=>?_)
     unfold free
     rw[List.getElem?_append_left hj]
    have a2:pre (free (s++o::d)) (s.length+1)=pre (free (s++[o])) (s.length+1):=by
     refine pre_ext _ _ _ (fun j hj=>?_)
     unfold free
     rw[show s++o::d=(s++[o])++d from by simp,List.getElem?_append_left (by simp;omega)]
    have a3:=pre_mono (free (s++o::d)) (free_01 _).1 (a:=s.length+1) (b:=(s++o::d).length) (by simp)
    rw[a2,h2]at a3
    have a4:=pre_mono (free (s++[o])) (free_01 _).1 (a:=s.length) (b:=s.length+1) (by omega)
    simp only[List.length_append,List.length_cons,List.length_nil]
    simp only[Nat.zero_add]
    omega
   have ho:o≠none:=by
    intro e0
    subst e0
    have:free (s++[none]) s.length=1:=by
     unfold free
     rw[List.getElem?_append_right (Nat.le_refl _),Nat.sub_self]
     simp
    have a1:pre (free (s++[none])) s.length=l.length:=by
     rw[←h1]
     refine pre_ext _ _ _ (fun j hj=>?_)
     unfold free
     rw[List.getElem?_append_left hj]
    simp only[List.length_append,List.length_cons,List.length_nil,pre,Nat.zero_add]at e
    omega
   obtain⟨r,rfl⟩:=Option.ne_none_iff_exists'.1 ho
   have f:=fill_snoc s l (some r) 0 h1
   simp only at f
   have:=ih (s++[some r]) l e (by simpa using h2)
   rw[f]at this
   rw[show s++some r::d=(s++[some r])++d from by simp,←this]
   simp[slC]
 rw[H.eq,List.take_of_length_le (Nat.le_refl _)]
 have:=key (sl.drop a) (sl.take a) base (by rw[List.length_take,Nat.min_eq_left H.le,free_take sl a H.le,H.cnt]) (by rw[List.take_append_drop];exact hs)
 rw[this,List.take_append_drop]
open Go.RowKit
attribute [local go_sem] Oper.semAt_some
theorem Lies.grown {W W':World} {g:Nat} {cs:Array Value} {t:TypeId} {row:Option Nat} {B:Nat} (h:Lies W g cs t) (hg:W.grownBy W' row) (hr:∀r,row=some r→B≤r∧∃o:Obj,W.heap[r]?=some o∧o.isCells=false):Lies W' g cs t:=
 (hg.block g h.lt (fun e=>by
  obtain⟨_,o,ho,hc⟩:=hr g e.symm
  rw[h]at ho
  injection ho with ho
  subst ho
  cases hc)).trans h
theorem MkAt.but {w w':World} {g N k:Nat} {f:Nat→Int} (h:MkAt w g N f) (hb:But k w w') (hne:g≠k):MkAt w' g N f:=h.keep (hb.block g h.lt hne)
open Go.RowKit
open Go.RowKit
theorem nts_drop {k:IntKind} {g o:Nat} {l:List Int} {w:World} (h:Nts k (some ⟨g,o,none⟩) l w) (n:Nat):Nts k (some ⟨g,o+n,none⟩) (l.drop n) w:=by
 rcases h with rfl|⟨g',o',e,hg,hr⟩
 ·exact .inl (by simp)
 ·injection e with e
  injection e with e1 e2
  subst e1 e2
  refine .inr ⟨g,o+n,rfl,hg,fun j hj=>?_⟩
  rw[List.length_drop]at hj
  rw[Nat.add_assoc,hr (n+j) (by omega),List.getElem_drop]
end Go.Proofs.YtfjpkfhbmldmfaaGreatDoor
