/-
  The program's widePlaces: the places of the wide runes, in their order.
-/
import Derived.Test.YtfjpkfhbmldmfaaGreatDoorClo
import Derived.Test.YtfjpkfhbmldmfaaGreatDoorDec
namespace Go.Proofs.YtfjpkfhbmldmfaaGreatDoor
open Go.RowKit
theorem sw_row {α:Type} [Inhabited α] (enc:α→Value) (w:World) (g k t:Nat) (dk:Array α) (os:Array Obj) (cur:Array Value) (h:w.heap[g]?=some (.cells cur t (0,0))):
  (sortWorld enc w g 0 k dk os).heap[g]?=some (.cells (Sort.putCells enc 0 dk cur) t (0,0)):=by
 have hlt:g<w.heap.size:=(Array.getElem?_eq_some_iff.1 h).1
 unfold sortWorld
 rw[Sort.heap_grow_old _ _ (by simpa [Sort.putRow,Sort.mapBlock,Sort.ahead] using hlt)]
 unfold Sort.putRow Sort.mapBlock Sort.ahead
 simp[Array.getElem?_modify,h,Sort.onCells]
theorem sw_other {α:Type} [Inhabited α] (enc:α→Value) (w:World) (g k j:Nat) (dk:Array α) (os:Array Obj) (hj:j<w.heap.size) (hne:j≠g):
  (sortWorld enc w g 0 k dk os).heap[j]?=w.heap[j]?:=by
 unfold sortWorld
 rw[Sort.heap_grow_old _ _ (by simpa [Sort.putRow,Sort.mapBlock,Sort.ahead] using hj)]
 unfold Sort.putRow Sort.mapBlock Sort.ahead
 simp[Array.getElem?_modify,Ne.symm hne]
theorem sw_but {α:Type} [Inhabited α] (enc:α→Value) (w:World) (g k:Nat) (dk:Array α) (os:Array Obj):But g w (sortWorld enc w g 0 k dk os):=
 ⟨rfl,rfl,rfl,by simp[sortWorld,Sort.grow,Sort.putRow,Sort.mapBlock,Sort.ahead],fun j hj hne=>sw_other enc w g k j dk os hj hne⟩
theorem sw_take {α:Type} [Inhabited α] (enc:α→Value) (dk:Array α) (cur:Array Value) (h:dk.size≤cur.size):(Sort.putCells enc 0 dk cur).toList.take dk.size=dk.toList.map enc:=by
 apply List.ext_getElem?
 intro i
 by_cases hi:i<dk.size
 ·rw[List.getElem?_take,if_pos hi,Array.getElem?_toList,List.getElem?_map,Array.getElem?_toList,Array.getElem?_eq_getElem hi]
  unfold Sort.putCells
  simp[Array.getElem?_mapIdx,Array.getElem?_eq_getElem (show i<cur.size by omega),hi]
 ·rw[List.getElem?_eq_none (by simp;omega),List.getElem?_eq_none (by simp;omega)]
theorem sw_size {α:Type} [Inhabited α] (enc:α→Value) (dk:Array α) (cur:Array Value):(Sort.putCells enc 0 dk cur).size=cur.size:=by simp[Sort.putCells]
def encF (n:Nat) (x:Fin n):Value:=.int .i64 (x.val:Int)
def cfW (l:List Int) (x y:Fin l.length):Int:=orI (cmpI l[x.val] l[y.val]) (cmpI (x.val:Int) (y.val:Int))
theorem cfW_lt (l:List Int) (x y:Fin l.length):ltOf (cfW l) x y=ltW l x.val y.val:=by
 unfold ltOf cfW ltW orI cmpI
 rw[rn_get l x.val x.isLt,rn_get l y.val y.isLt]
 rw[Bool.eq_iff_iff,decide_eq_true_eq,decide_eq_true_eq]
 by_cases h1:l[x.val]<l[y.val]
 ·simp[h1]
 ·by_cases h2:l[y.val]<l[x.val]
  ·simp[h1,h2]
   omega
  ·have h3:l[x.val]=l[y.val]:=by omega
   rw[if_neg h1,if_neg h2,if_pos rfl]
   by_cases h4:(x.val:Int)<y.val
   ·rw[if_pos h4]
    constructor
    ·intro _;exact .inr ⟨h3,by omega⟩
    ·intro _;omega
   ·rw[if_neg h4]
    by_cases h5:(y.val:Int)<x.val
    ·rw[if_pos h5]
     constructor
     ·intro h;omega
     ·intro h;omega
    ·rw[if_neg h5]
     constructor
     ·intro h;omega
     ·intro h;omega
theorem cfW_swo (l:List Int):Sort.SWO (ltOf (cfW l)) where
 irrefl x:=by rw[cfW_lt];unfold ltW;simp
 trans x y z h1 h2:=by rw[cfW_lt]at*;unfold ltW at*;simp only[decide_eq_true_eq]at*;omega
 ntrans x y z h1 h2:=by rw[cfW_lt]at*;unfold ltW at*;simp only[decide_eq_false_iff_not]at*;omega
theorem cfW_tot (l:List Int) (x y:Fin l.length) (h1:ltOf (cfW l) x y=false) (h2:ltOf (cfW l) y x=false):x=y:=by
 rw[cfW_lt]at*
 unfold ltW at*
 simp only[decide_eq_false_iff_not]at*
 apply Fin.ext
 omega
def natI (l:List Nat):List Int:=l.map fun (x:Nat)=>(x:Int)
theorem natI_length (l:List Nat):(natI l).length=l.length:=by simp[natI]
theorem sort_any (lb:Nat) (a:Option Addr) (l:List Int) (cap:Nat) (w:World) (hl:Lies w lb #[.slice a l.length cap] 121) (hn:Nts .i32 a l w) (B:Nat) (hna:0<l.length→∀ad,a=some ad→ad.block<B) (acc:List Nat) (hacc:∀j∈acc,j<l.length) (v:Value) (hown:w.ownsRow B 3 1 v acc.length (cellsN .i64 (natI acc))) (hlen:acc.length≤1073741824):
  Calls Tryz.prog 235 #[v,.func (.func 236) #[] #[.pointer (some ⟨lb,0,none⟩)]] w fun e w'=>e=.returned (.tuple #[])∧w'.ownsRow B 3 1 v acc.length (cellsN .i64 (natI (acc.mergeSort (leW l))))∧(∃g,(v.ownBlock=some g∧But g w w')∨w'=w):=by
 by_cases h0:acc=[]
 ·subst h0
  obtain⟨a',c',rfl⟩:=ownN_shape hown
  refine(Tryz.slices_SortFunc_none (α:=Nat) a' c' _ w).mono ?_
  rintro e w' ⟨rfl,rfl⟩
  exact⟨rfl,by rw[List.mergeSort_nil];exact hown,0,.inr rfl⟩
 ·have hpos:0<acc.length:=List.length_pos_iff.2 h0
  have hlp:0<l.length:=by
   cases acc with
   |nil=>exact absurd rfl h0
   |cons x t=>exact Nat.lt_of_le_of_lt (Nat.zero_le _) (hacc x List.mem_cons_self)
  haveI:Inhabited (Fin l.length):=⟨⟨0,hlp⟩⟩
  obtain⟨h1,⟨hv,he⟩|⟨g,cp,cur,rfl,hB,hg,hcap,hmx,hsz,htk⟩⟩:=id hown
  ·omega
  rw[Nat.mul_one]at hsz htk
  have hlt:g<w.heap.size:=(Array.getElem?_eq_some_iff.1 hg).1
  have hglb:lb≠g:=fun e=>by
   subst e
   exact absurd (lies_kind hl hg) (by decide)
  let d:List (Fin l.length):=acc.pmap (fun j h=>⟨j,h⟩) hacc
  have hdl:d.length=acc.length:=List.length_pmap
  have hdm:d.map Fin.val=acc:=by
   show(acc.pmap _ _).map _=_
   rw[List.map_pmap]
   simp
  have hcell:∀j (h:j<d.length),w.cell? ⟨g,j,none⟩=some (.int .i64 ((d[j].val:Nat):Int)):=by
   intro j hj
   have hj':j<acc.length:=by rw[←hdl];exact hj
   have e:cur[j]?=some (.int .i64 (acc[j]:Int)):=by
    have:=congrArg (fun x=>x[j]?) htk
    simp only[List.getElem?_take,if_pos hj',Array.getElem?_toList]at this
    rw[this,cellsN_at _ _ _ (by rw[natI_length];exact hj')]
    simp[natI]
   rw[Lies.cell hg j,e]
   have:d[j].val=acc[j]:=by
    have:=congrArg (fun x=>x[j]?) hdm
    simp only[List.getElem?_map,List.getElem?_eq_getElem hj,List.getElem?_eq_getElem hj',Option.map_some,Option.some.injEq]at this
    exact this
   rw[this]
  have hH:Sort.Holds (encF l.length) w g 0 d.toArray:=by
   intro j hj
   have hj':j<d.length:=by simpa using hj
   refine⟨?_,Lies.frozen hg _⟩
   rw[Nat.zero_add,hcell j hj']
   have:d.toArray[j]! =d[j]:=by simp[hj']
   rw[this]
   rfl
  have hcmp:CmpLays1 Tryz.prog 236 #[.pointer (some ⟨lb,0,none⟩)] (encF l.length) (cfW l) g 0 d.toArray.size w:=by
   intro m os dk hdk x y
   have b:=sw_but (encF l.length) w g m dk os
   refine clo_any lb a l cap x.val y.val x.isLt y.isLt _ ?_ ?_
   ·exact(b.lies hl hglb).cell 0
   ·refine hn.but b (fun ad e=>?_)
    have:=hna hlp ad e
    omega
  have hsz':d.toArray.size<4611686018427387904:=by simp[hdl];omega
  have hcon:=Tryz.slices_SortFunc_total (encF l.length) (fun _=>rfl) (cfW l) (cfW_swo l) 236 #[.pointer (some ⟨lb,0,none⟩)] g 0 cp d.toArray w (enters_of Tryz.func236 (by kernel_rfl) rfl) hcmp hH hlt hsz' (cfW_tot l)
  have hds:d.toArray.size=acc.length:=by simp[hdl]
  rw[hds]at hcon
  refine hcon.mono ?_
  rintro e w' ⟨rfl,n,os,rfl⟩
  have hms:(d.mergeSort fun x y=>!ltOf (cfW l) y x).map Fin.val=acc.mergeSort (leW l):=by
   rw[←hdm]
   refine List.map_mergeSort (fun x _ y _=>?_)
   rw[cfW_lt]
   rfl
  have hl1:(d.mergeSort fun x y=>!ltOf (cfW l) y x).toArray.size=acc.length:=by
   simp[hdl]
  refine⟨rfl,?_,g,.inl ⟨rfl,sw_but _ _ _ _ _ _⟩⟩
  refine⟨by rw[cellsN_length,natI_length,List.length_mergeSort,Nat.mul_one],.inr ⟨g,cp,_,rfl,hB,sw_row _ w g n 3 _ os cur hg,hcap,hmx,by rw[sw_size,Nat.mul_one];exact hsz,?_⟩⟩
  rw[Nat.mul_one,←hl1,sw_take _ _ _ (by rw[hl1,hsz];exact hcap),←hms]
  simp[cellsN,natI,encF,List.map_map,Function.comp_def]
set_option maxHeartbeats 2000000 in
set_option maxRecDepth 100000 in
theorem widep_any (a:Option Addr) (l:List Int) (cap:Nat) (w:World) (hn:Nts .i32 a l w) (hs:l.length≤1073741824):
  Calls Tryz.prog 221 #[.slice a l.length cap] w fun e w'=>∃v,e=.returned v∧w'.ownsRow w.heap.size 3 1 v (ordW l).length (cellsN .i64 (natI (ordW l)))∧Below w.heap.size w w':=by
 have HL:Hid (Nts .i32 a l w):=hn
 have HNA:Hid (0<l.length→∀ad,a=some ad→ad.block<w.heap.size):=fun h0 ad e=>by
  rcases hn with h|⟨g,o,e',hg,_⟩
  ·rw[h]at h0;exact absurd h0 (by simp)
  ·rw[e]at e'
   injection e' with e'
   subst e'
   exact hg
 clear hn
 go_enter Tryz.func221,Tryz.ntmps221
 go_wp2
 have HX0:Hid (Lies (w.alloc (.cells #[.slice a l.length cap] 121)) w.heap.size #[.slice a l.length cap] 121):=Lies.new w _ _
 have HB0:Hid (Below w.heap.size w (w.alloc (.cells #[.slice a l.length cap] 121))):=(Below.refl _ _).alloc (Nat.le_refl _) _
 go_loopw [3,8] (fun v i wr=>∃k:Nat,i=.int .i64 k∧k≤l.length∧Hid (wr.ownsRow w.heap.size 3 1 v (wideK l k).length (cellsN .i64 (natI (wideK l k))))∧Hid (Below w.heap.size w wr)∧Hid (Lies wr w.heap.size #[.slice a l.length cap] 121)) (fun _ i _=>l.length - (intOf i).toNat)
 case atStart=>exact⟨0,rfl,Nat.zero_le _,own_nilN _ _ _ _,HB0,HX0⟩
 case round=>
  obtain⟨k,rfl,hk,HO,HB,HX⟩:=hrel
  have hbs:=HX.out.lt
  have hwl:=wideK_length l k
  by_cases hlk:k<l.length
  ·have HS:Hid (_=_):=wideK_succ l k
   have hrn:=rn_get l k hlk
   obtain⟨g,o,rfl,hg,hc⟩:=(HL.out.below HB.out).cell k hlk
   by_cases hw:128≤l[k]
   ·have HS2:Hid (wideK l (k+1)=wideK l k++[k]):=by
     have:=HS.out
     rw[hrn,if_pos hw]at this
     exact this
    clear HS hrn
    go_wp2_with (at_builtin;refine wpList_append_num rfl _ _ 135 3 8 .i64 Tryz.underlying135 infoI (by omega) rfl w.heap.size _ (wideK l k).length (natI (wideK l k)) rfl (HO.out.alloc _) ⟨wr.heap.size,0,none⟩ (k:Int) 1 rfl (one_nts _ _ _ _) (by omega) (by simp;omega) ?_)
    intro v4 w4 hown4 hgrow4
    have hg4:=grown_on (World.grownBy_alloc wr _ (u3:Value).ownBlock) hgrow4 (fun _ h=>.inl h.symm)
    have HB4:Hid (Below w.heap.size w w4):=HB.out.grown hg4 HB.out.size (fun q hq=>(HO.out.lt q hq).1)
    have HX4:Hid (Lies w4 w.heap.size #[.slice (some ⟨g,o,none⟩) l.length cap] 121):=(hg4.block _ HX.out.lt (fun e=>ownN_apart HO.out HX.out (by decide) _ e.symm rfl)).trans HX.out
    have HO4:Hid (w4.ownsRow w.heap.size 3 1 v4 (wideK l (k+1)).length (cellsN .i64 (natI (wideK l (k+1))))):=by
     show World.ownsRow _ _ _ _ _ _ _
     rw[HS2.out,List.length_append]
     have e:natI (wideK l k++[k])=natI (wideK l k)++[(k:Int)]:=by simp[natI]
     rw[e]
     exact hown4
    clear hown4 hgrow4 hg4
    go_wp2
    go_roundw
    case rel=>exact⟨k+1,by go_num,by omega,HO4,HB4,HX4⟩
    case measure=>simp[intOf];omega
   ·have HS2:Hid (wideK l (k+1)=wideK l k):=by
     have:=HS.out
     rw[hrn,if_neg hw,List.append_nil]at this
     exact this
    have HO2:Hid (wr.ownsRow w.heap.size 3 1 u3 (wideK l (k+1)).length (cellsN .i64 (natI (wideK l (k+1))))):=by
     show World.ownsRow _ _ _ _ _ _ _
     rw[HS2.out]
     exact HO.out
    clear HS hrn
    go_wp2
    go_roundw
    case rel=>exact⟨k+1,by go_num,by omega,HO2,HB,HX⟩
    case measure=>simp[intOf];omega
  ·obtain rfl:k=l.length:=by omega
   have hcon:=sort_any w.heap.size a l cap wr HX.out (HL.out.below HB.out) w.heap.size HNA.out (wideK l l.length) (fun j hj=>(wideK_lt hj).1) u3 HO.out (by omega)
   go_wp2_with fail
   refine hcon.mono ?_
   rintro e w2 ⟨rfl,o2,g2,h2⟩
   have HO2:Hid (w2.ownsRow w.heap.size 3 1 u3 (ordW l).length (cellsN .i64 (natI (ordW l)))):=by
    show World.ownsRow _ _ _ _ _ _ _
    unfold ordW
    rw[List.length_mergeSort]
    exact o2
   have HB2:Hid (Below w.heap.size w w2):=by
    rcases h2 with⟨e2,h2⟩|rfl
    ·exact HB.out.trans (h2.below (HO.out.lt g2 e2).1 HB.out.size)
    ·exact HB.out
   clear o2 h2 hcon
   go_wp2
   go_ret
   exact⟨_,rfl,HO2.out,HB2.out⟩
open Go.RowKit
set_option maxHeartbeats 1000000 in
set_option maxRecDepth 100000 in
theorem bound_any (i bias:Nat) (hi:i≤4294967296) (hb:bias≤8589934592) (w:World):
  Calls Tryz.prog 240 #[.int .i64 i,.int .i64 bias] w fun e w'=>e=.returned (.int .i64 (bnd i bias))∧w'=w:=by
 have HB:Hid ((bnd i bias:Int)=min (max (36*((i:Int)+1) - bias) 1) 26):=by
  show _=_
  unfold bnd
  omega
 have hw:IntKind.i64.wrap (36*((i:Int)+1) - bias)=36*((i:Int)+1) - bias:=by rw[IntKind.wrap_i64];omega
 go_enter Tryz.func240,Tryz.ntmps240
 go_wp2
 go_ret
 refine⟨ret_i64 ?_,rfl⟩
 rw[HB.out]
set_option maxHeartbeats 1000000 in
set_option maxRecDepth 100000 in
theorem biasb_any (s h:Nat) (first:Bool) (hs:s≤2147483647) (h0:0<h) (hh:h≤4294967296) (w:World):
  Calls Tryz.prog 242 #[.int .i64 s,.int .i64 h,.bool first] w fun e w'=>e=.returned (.int .i64 (biasB s h first))∧w'=w:=by
 have q2:(s:Int).tdiv 2=((s / 2:Nat):Int):=by rw[Int.tdiv_eq_ediv_of_nonneg (by omega)];omega
 have q7:(s:Int).tdiv 700=((s / 700:Nat):Int):=by rw[Int.tdiv_eq_ediv_of_nonneg (by omega)];omega
 have HB:Hid (biasB s h first=biasL ((if first then s / 700 else s / 2)+(if first then s / 700 else s / 2) / h) 0):=rfl
 generalize hB:biasB s h first=B at HB ⊢
 clear hB
 cases first
 ·simp only[Bool.false_eq_true,if_false]at HB
  have hd2:s / 2≤2147483647:=by omega
  generalize s / 2=d at HB q2 hd2
  have qh:(d:Int).tdiv h=((d / h:Nat):Int):=by rw[Int.tdiv_eq_ediv_of_nonneg (by omega),Int.natCast_ediv]
  have hdh:=Nat.div_le_self d h
  generalize d / h=dh at HB qh hdh
  go_enter Tryz.func242,Tryz.ntmps242
  go_wp2
  go_loop [7,8] (fun dv kv=>∃x k:Nat,dv=.int .i64 x∧kv=.int .i64 k∧x≤4294967296∧k+36*x≤154618822656∧Hid (B=biasL x k)) (fun dv _=>(intOf dv).toNat)
  case atStart=>exact⟨d+dh,0,by go_num,rfl,by omega,by omega,HB⟩
  case round=>
   obtain⟨x,k,rfl,rfl,hx,hk,HX⟩:=hrel
   by_cases hl:455<x
   ·have q35:(x:Int).tdiv 35=((x / 35:Nat):Int):=by rw[Int.tdiv_eq_ediv_of_nonneg (by omega)];omega
    have HX2:Hid (B=biasL (x / 35) (k+36)):=by show _=_;rw[HX.out,biasL_go hl]
    have hx35:x / 35<x:=by omega
    have hk35:k+36+36*(x / 35)≤154618822656:=by omega
    generalize x / 35=y at q35 HX2 hx35 hk35
    go_wp2
    go_round
    case rel=>exact⟨y,k+36,by first|rfl|go_num,by go_num,by omega,hk35,HX2⟩
    case measure=>simp[intOf];omega
   ·have qe:(36*(x:Int)).tdiv ((x:Int)+38)=((36*x / (x+38):Nat):Int):=by rw[Int.tdiv_eq_ediv_of_nonneg (by omega),Int.natCast_ediv];push_cast;rfl
    have HX2:Hid (B=k+36*x / (x+38)):=by show _=_;rw[HX.out,biasL_end hl]
    have hle:36*x / (x+38)≤36*x:=Nat.div_le_self _ _
    generalize 36*x / (x+38)=y at qe HX2 hle
    go_wp2
    go_ret
    exact⟨ret_i64 (by rw[HX2.out];push_cast;rfl),rfl⟩
 ·simp only[if_true]at HB
  have hd2:s / 700≤2147483647:=by omega
  generalize s / 700=d at HB q7 hd2
  have qh:(d:Int).tdiv h=((d / h:Nat):Int):=by rw[Int.tdiv_eq_ediv_of_nonneg (by omega),Int.natCast_ediv]
  have hdh:=Nat.div_le_self d h
  generalize d / h=dh at HB qh hdh
  have hs2:s / 2≤2147483647:=by omega
  generalize s / 2=d2 at q2 hs2
  go_enter Tryz.func242,Tryz.ntmps242
  go_wp2
  go_loop [7,8] (fun dv kv=>∃x k:Nat,dv=.int .i64 x∧kv=.int .i64 k∧x≤4294967296∧k+36*x≤154618822656∧Hid (B=biasL x k)) (fun dv _=>(intOf dv).toNat)
  case atStart=>exact⟨d+dh,0,by go_num,rfl,by omega,by omega,HB⟩
  case round=>
   obtain⟨x,k,rfl,rfl,hx,hk,HX⟩:=hrel
   by_cases hl:455<x
   ·have q35:(x:Int).tdiv 35=((x / 35:Nat):Int):=by rw[Int.tdiv_eq_ediv_of_nonneg (by omega)];omega
    have HX2:Hid (B=biasL (x / 35) (k+36)):=by show _=_;rw[HX.out,biasL_go hl]
    have hx35:x / 35<x:=by omega
    have hk35:k+36+36*(x / 35)≤154618822656:=by omega
    generalize x / 35=y at q35 HX2 hx35 hk35
    go_wp2
    go_round
    case rel=>exact⟨y,k+36,by first|rfl|go_num,by go_num,by omega,hk35,HX2⟩
    case measure=>simp[intOf];omega
   ·have qe:(36*(x:Int)).tdiv ((x:Int)+38)=((36*x / (x+38):Nat):Int):=by rw[Int.tdiv_eq_ediv_of_nonneg (by omega),Int.natCast_ediv];push_cast;rfl
    have HX2:Hid (B=k+36*x / (x+38)):=by show _=_;rw[HX.out,biasL_end hl]
    have hle:36*x / (x+38)≤36*x:=Nat.div_le_self _ _
    generalize 36*x / (x+38)=y at qe HX2 hle
    go_wp2
    go_ret
    exact⟨ret_i64 (by rw[HX2.out];push_cast;rfl),rfl⟩
theorem But.drew' {g:Nat} {w w':World} (h:But g w w'):But g w w'.drew:=⟨h.os,h.tape,h.output,h.size,h.block⟩
def CtAt (w:World) (g:Nat) (n i h bias:Int) (gone:Bool):Prop:=Lies w g #[.int .i32 n,.int .i64 i,.int .i64 h,.int .i64 bias,.bool gone] 222
set_option maxHeartbeats 1000000 in
set_option maxRecDepth 100000 in
theorem cstep_any (g:Nat) (n i h bias:Int) (gone:Bool) (r p:Int) (w:World) (hc:CtAt w g n i h bias gone) (hr:0≤r∧r≤1114111) (hn:0≤n∧n≤1114111) (hh:0≤h∧h≤4294967296) (hp:0≤p∧p≤4294967296) (hi:0≤i∧i≤4294967296):
  Calls Tryz.prog 223 #[.pointer (some ⟨g,0,none⟩),.int .i32 r,.int .i64 p] w fun e w'=>e=.returned (.int .i64 ((r - n)*(h+1)+p - i))∧w'=w.drew:=by
 have c0:=Lies.cell hc 0
 have c1:=Lies.cell hc 1
 have c2:=Lies.cell hc 2
 simp at c0 c1 c2
 have hlt:=Lies.lt hc
 have m1:(r - n)*(h+1)≤1114111*(h+1):=Int.mul_le_mul_of_nonneg_right (by omega) (by omega)
 have m2:(-1114111)*(h+1)≤(r - n)*(h+1):=Int.mul_le_mul_of_nonneg_right (by omega) (by omega)
 have w0:IntKind.i64.wrap ((r - n)*(h+1))=(r - n)*(h+1):=by rw[IntKind.wrap_i64];omega
 have w1:IntKind.i64.wrap ((r - n)*(h+1)+p)=(r - n)*(h+1)+p:=by rw[IntKind.wrap_i64];omega
 have w2:IntKind.i64.wrap ((r - n)*(h+1)+p - i)=(r - n)*(h+1)+p - i:=by rw[IntKind.wrap_i64];omega
 clear hc m1 m2
 go_enter Tryz.func223,Tryz.ntmps223
 go_wp2_with fail
 go_region
 go_wp2
 go_ret
 exact⟨rfl,rfl⟩
set_option maxHeartbeats 2000000 in
set_option maxRecDepth 100000 in
theorem cnext_any (g:Nat) (n i:Int) (h s p:Nat) (bias:Int) (gone:Bool) (r:Int) (w:World) (hc:CtAt w g n i h bias gone) (hh:h≤4294967295) (hs:s≤2147483647) (hp:p≤4294967296):
  Calls Tryz.prog 225 #[.pointer (some ⟨g,0,none⟩),.int .i64 s,.int .i32 r,.int .i64 p] w fun e w'=>e=.returned (.tuple #[])∧But g w w'∧CtAt w' g r ((p+1:Nat):Int) ((h+1:Nat):Int) (biasB s (h+1) (!gone):Nat) true:=by
 have c0:=Lies.cell hc 0
 have c1:=Lies.cell hc 1
 have c2:=Lies.cell hc 2
 have c3:=Lies.cell hc 3
 have c4:=Lies.cell hc 4
 simp at c0 c1 c2 c3 c4
 have f0:=Lies.frozen hc 0
 have f1:=Lies.frozen hc 1
 have f2:=Lies.frozen hc 2
 have f3:=Lies.frozen hc 3
 have f4:=Lies.frozen hc 4
 have hlt:=Lies.lt hc
 have HC:Hid (CtAt w g n i h bias gone):=hc
 have HB:Hid (∀wx,Calls Tryz.prog 242 #[.int .i64 s,.int .i64 ((h:Int)+1),.bool (!gone)] wx fun e w'=>e=.returned (.int .i64 (biasB s (h+1) (!gone):Nat))∧w'=wx):=fun wx=>by
  have:=biasb_any s (h+1) (!gone) hs (by omega) (by omega) wx
  push_cast at this
  exact this
 generalize biasB s (h+1) (!gone)=B at HB ⊢
 have HBT:Hid (But g w (((((w.setCell ⟨g,0,none⟩ (.int .i32 r)).setCell ⟨g,1,none⟩ (.int .i64 ((p:Int)+1))).setCell ⟨g,2,none⟩ (.int .i64 ((h:Int)+1))).setCell ⟨g,3,none⟩ (.int .i64 B)).drew.setCell ⟨g,4,none⟩ (.bool true))):=((((((But.refl g w).set 0 _).set 1 _).set 2 _).set 3 _).drew').set 4 _
 have HCT:Hid (CtAt (((((w.setCell ⟨g,0,none⟩ (.int .i32 r)).setCell ⟨g,1,none⟩ (.int .i64 ((p:Int)+1))).setCell ⟨g,2,none⟩ (.int .i64 ((h:Int)+1))).setCell ⟨g,3,none⟩ (.int .i64 B)).drew.setCell ⟨g,4,none⟩ (.bool true)) g r ((p+1:Nat):Int) ((h+1:Nat):Int) B true):=by
  have:=Lies.set (Lies.drew (Lies.set (Lies.set (Lies.set (Lies.set hc 0 (.int .i32 r)) 1 (.int .i64 ((p:Int)+1))) 2 (.int .i64 ((h:Int)+1))) 3 (.int .i64 B))) 4 (.bool true)
  simp only[List.setIfInBounds_toArray,List.set_cons_zero,List.set_cons_succ]at this
  show Lies _ _ _ _
  rw[show(((p+1:Nat)):Int)=(p:Int)+1 from by push_cast;rfl,show(((h+1:Nat)):Int)=(h:Int)+1 from by push_cast;rfl]
  exact this
 clear hc
 go_enter Tryz.func225,Tryz.ntmps225
 go_wp2_with fail
 go_region_with (go_at_call 242;refine(HB.out _).mono ?_;rintro e w' ⟨rfl,rfl⟩)
 all_goals go_wp2
 all_goals go_end0
 all_goals exact⟨rfl,HBT.out,HCT.out⟩
set_option maxHeartbeats 1000000 in
set_option maxRecDepth 100000 in
theorem cnt_any (h:Nat) (w:World):
  Calls Tryz.prog 219 #[.int .i64 h] w fun e w'=>e=.returned (.agg #[.int .i32 128,.int .i64 0,.int .i64 h,.int .i64 72,.bool false])∧Below w.heap.size w w':=by
 go_enter Tryz.func219,Tryz.ntmps219
 go_wp2
 (try simp only[Exit.inBlock,Exit.then])
 refine bodyPost_ret (v:=.agg #[.int .i32 128,.int .i64 0,.int .i64 h,.int .i64 72,.bool false]) (by simp[results,Tryz.results219,go_sem]) rfl ⟨rfl,(Below.refl _ _).alloc (Nat.le_refl _) _⟩
set_option maxHeartbeats 1000000 in
set_option maxRecDepth 100000 in
theorem digof_any (v:Nat) (hv:v<36) (w:World):
  Calls Tryz.prog 241 #[.int .u8 v] w fun e w'=>e=.returned (.int .u8 ((dgt v).toNat:Int))∧w'=w:=by
 by_cases h:v<26
 ·have HD:Hid (((dgt v).toNat:Int)=97+v):=by
   show _=_
   unfold dgt
   rw[if_pos h,UInt8.toNat_ofNat']
   omega
  go_enter Tryz.func241,Tryz.ntmps241
  go_wp2
  go_ret
  exact⟨by rw[HD.out];rfl,rfl⟩
 ·have HD:Hid (((dgt v).toNat:Int)=48+v - 26):=by
   show _=_
   unfold dgt
   rw[if_neg h,UInt8.toNat_ofNat']
   omega
  go_enter Tryz.func241,Tryz.ntmps241
  go_wp2
  go_ret
  exact⟨by rw[HD.out];rfl,rfl⟩
open Go.RowKit
set_option maxHeartbeats 2000000 in
set_option maxRecDepth 100000 in
theorem wstep_any (B b:Nat) (l:List UInt8) (s bias:Nat) (w:World) (h:Bl B b l w) (hs:s≤2147483647) (hb:bias≤8589934592) (hlen:l.length+4294967296≤140737488355328) (hBw:B≤w.heap.size):
  Calls Tryz.prog 224 #[.pointer (some ⟨b,0,none⟩),.int .i64 s,.int .i64 bias] w fun e w'=>e=.returned (.tuple #[])∧Bl B b (l++digs s 0 bias) w'∧Wrote B b w w':=by
 have HB:Hid (Bl B b l w):=h
 clear h
 go_enter Tryz.func224,Tryz.ntmps224
 go_wp2_with fail
 go_loopw [1,6] (fun qv pv wr=>∃(q p:Nat) (acc:List UInt8),qv=.int .i64 q∧pv=.int .i64 p∧q+p≤s∧acc.length=p∧Hid (acc++digs q p bias=digs s 0 bias)∧Hid (Bl B b (l++acc) wr)∧Hid (Wrote B b w wr)) (fun qv _ _=>(intOf qv).toNat)
 case atStart=>exact⟨s,0,[],rfl,rfl,by omega,rfl,rfl,by show Bl _ _ _ _;rw[List.append_nil];exact HB.out,Wrote.refl _ _ _⟩
 case round=>
  obtain⟨q,p,acc,rfl,rfl,hqp,hal,HD,HBl,HW⟩:=hrel
  have hbn:=bound_any p bias (by omega) hb wr
  have hb1:=bnd_pos p bias
  have hb2:=bnd_le p bias
  have hsz:=HW.out.below.size
  by_cases hq:q<bnd p bias
  ·have HD2:Hid (acc++[dgt q]=digs s 0 bias):=by
    have:=HD.out
    rw[digs_last hq]at this
    exact this
   generalize bnd p bias=t at hbn hb1 hb2 hq
   have hdo:=digof_any q (by omega) wr
   have hwb:=wbyte_any B b (l++acc) (dgt q) wr HBl.out (by simp;omega) (by omega)
   go_wp2_with fail
   refine hbn.mono ?_
   rintro e w1 ⟨rfl,rfl⟩
   go_wp2_with fail
   refine hdo.mono ?_
   rintro e w1 ⟨rfl,rfl⟩
   go_wp2_with fail
   refine hwb.mono ?_
   rintro e w2 ⟨rfl,b2,m2⟩
   go_wp2
   go_end0
   refine⟨rfl,?_,HW.out.trans m2⟩
   rw[List.append_assoc,HD2.out]at b2
   exact b2
  ·have hless:=digs_less hq
   have HD2:Hid ((acc++[dgt (bnd p bias+(q - bnd p bias) % (36 - bnd p bias))])++digs ((q - bnd p bias) / (36 - bnd p bias)) (p+1) bias=digs s 0 bias):=by
    have:=HD.out
    rw[digs_more hq]at this
    show _=_
    rw[List.append_assoc]
    exact this
   have hm:(q - bnd p bias) % (36 - bnd p bias)<36 - bnd p bias:=Nat.mod_lt _ (by omega)
   generalize bnd p bias=t at*
   have e1:((q:Int) - t)=((q - t:Nat):Int):=by omega
   have e2:((36:Int) - t)=((36 - t:Nat):Int):=by omega
   have tm:((q:Int) - t).tmod (36 - t)=(((q - t) % (36 - t):Nat):Int):=by rw[e1,e2,Int.tmod_eq_emod_of_nonneg (by omega),Int.natCast_emod]
   have td:((q:Int) - t).tdiv (36 - t)=(((q - t) / (36 - t):Nat):Int):=by rw[e1,e2,Int.tdiv_eq_ediv_of_nonneg (by omega),Int.natCast_ediv]
   generalize (q - t) % (36 - t)=M at tm HD2 hm
   generalize (q - t) / (36 - t)=D at td HD2 hless
   have hdo:=digof_any (t+M) (by omega) wr
   have hwb:=wbyte_any B b (l++acc) (dgt (t+M)) wr HBl.out (by simp;omega) (by omega)
   push_cast at hdo
   have hz:¬((36:Int) - t=0):=by omega
   clear e1 e2
   go_wp2_with fail
   refine hbn.mono ?_
   rintro e w1 ⟨rfl,rfl⟩
   go_wp2_with fail
   refine hdo.mono ?_
   rintro e w1 ⟨rfl,rfl⟩
   go_wp2_with fail
   refine hwb.mono ?_
   rintro e w2 ⟨rfl,b2,m2⟩
   have HB2:Hid (Bl B b (l++(acc++[dgt (t+M)])) w2):=by
    rw[List.append_assoc]at b2
    exact b2
   have HW2:Hid (Wrote B b w w2):=HW.out.trans m2
   clear b2 m2 hwb
   go_wp2
   go_roundw
   case rel=>exact⟨D,p+1,acc++[dgt (t+M)],by first|rfl|go_num,by go_num,by omega,by simp[hal],HD2,HB2,HW2⟩
   case measure=>simp[intOf];omega
end Go.Proofs.YtfjpkfhbmldmfaaGreatDoor
