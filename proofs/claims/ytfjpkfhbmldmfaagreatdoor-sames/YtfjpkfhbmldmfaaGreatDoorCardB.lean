/-
  What a row's list gives the walks: the tables, the two errors; a world for the witnesses; hosts and addresses as they came in.
-/
import Derived.Test.YtfjpkfhbmldmfaaGreatDoorXr9
import Derived.Test.YtfjpkfhbmldmfaaGreatDoorRows
import Derived.Test.YtfjpkfhbmldmfaaGreatDoorCards
import Derived.Test.YtfjpkfhbmldmfaaGreatDoorTie
import Derived.ProofKit
import Derived.OpenShut
import Derived.Lib.LaidTab
import Derived.LaidLaws
import Derived.Deep.DeepHandedRow
import Derived.ShutString
import Derived.SizedLaws
import Derived.ChangeOld
import Derived.Shelf.Vars
import Derived.Test.YtfjpkfhbmldmfaaGreatDoorDec
namespace Go.Proofs.YtfjpkfhbmldmfaaGreatDoor
open Go.ChangeShapes Go.WideShapes Go.ChangeAt Go.RowKit
theorem gCl:Tryz.prog.globalNamed "posthorn/octet.classes"=some 0:=by kernel_rfl
theorem tCl:(Tryz.prog.globals[(0:Nat)]?).map (·.type)=some 139:=by kernel_rfl
theorem cellsStr:Tryz.prog.cellsOf 9=1:=by kernel_rfl
theorem gFs:Tryz.prog.globalNamed "posthorn/runes.firsts"=some 1:=by kernel_rfl
theorem tFs:(Tryz.prog.globals[(1:Nat)]?).map (·.type)=some 206:=by kernel_rfl
theorem cellsF:Tryz.prog.cellsOf 205=5:=by kernel_rfl
theorem cellsFs:Tryz.prog.cellsOf 206=40:=by kernel_rfl
theorem laid_rows:(Rows.laid_posthorn_octet_classes:DataW Unit)=.agg (classRows.map fun l=>.lit (.string l)):=rfl
theorem laid_fst:(Rows.laid_posthorn_runes_firsts:DataW Unit)=.agg (fsRows.map fun r=>.agg (r.map fun x=>.lit (.int .u8 x))):=rfl
theorem table_of_trod {enc:TypeId×Value→Unit} {W:World} {base:Nat} {sp:Nat→Bool} {held:Bool} {cs:Array Value} {fuel:Nat} {p:List MemPlace}
  (hv:W.var? Tryz.prog "posthorn/octet.classes"=some cs)
  (hd:DataW.trod enc Tryz.prog W base sp held fuel 139 cs.toList=some (Rows.laid_posthorn_octet_classes,p)):Table W:=by
 obtain⟨xs,m,_,hx,hlen,hn,hel⟩:=DataW.trod_array Tryz.underlying139 hd
 rw[laid_rows]at hx
 simp only[Prod.mk.injEq,DataW.agg.injEq]at hx
 obtain⟨hx, -⟩:=hx
 intro c hc
 have h1:=hel c hc
 have hxc:c<xs.length:=by omega
 rw[List.getElem?_eq_getElem hxc]at h1
 obtain⟨s,e1,e2,_⟩:=DataW.trod_string Tryz.underlying9 h1
 have h2:=congrArg (fun l=>l[c]?) hx
 simp only[List.getElem?_map,List.getElem?_eq_getElem hxc,Option.map_some,e2]at h2
 have hcl:c<classRows.length:=hc
 rw[List.getElem?_eq_getElem hcl]at h2
 simp only[Option.map_some,Option.some.injEq,DataW.lit.injEq,Lit.string.injEq]at h2
 have h3:=World.var?_cell gCl hv c
 rw[h3]
 rw[cellsStr,Nat.mul_one]at e1
 have h4:=congrArg (fun l=>l[0]?) e1
 simp only[List.getElem?_take,List.getElem?_drop]at h4
 have h5:cs[c]?=some (.string s):=by simpa using h4
 rw[h5]
 have h6:classRows.getD c []=s.data.toList:=by
  rw[List.getD_eq_getElem?_getD,List.getElem?_eq_getElem hcl,Option.getD_some,h2]
 rw[h6]
theorem fst_of_trod {enc:TypeId×Value→Unit} {W:World} {base:Nat} {sp:Nat→Bool} {held:Bool} {cs:Array Value} {fuel:Nat} {p:List MemPlace}
  (hv:W.var? Tryz.prog "posthorn/runes.firsts"=some cs)
  (hd:DataW.trod enc Tryz.prog W base sp held fuel 206 cs.toList=some (Rows.laid_posthorn_runes_firsts,p)):Fst W:=by
 obtain⟨xs,m,_,hx,hlen,hn,hel⟩:=DataW.trod_array Tryz.underlying206 hd
 rw[laid_fst]at hx
 simp only[Prod.mk.injEq,DataW.agg.injEq]at hx
 obtain⟨hx, -⟩:=hx
 have key:∀c,c<8→∀i,i<5→cs[c*5+i]?=some (.int .u8 (fsAt c i)):=by
  intro c hc i hi
  have h1:=hel c hc
  have hxc:c<xs.length:=by omega
  rw[List.getElem?_eq_getElem hxc,cellsF]at h1
  obtain⟨ys,n,_,hy,hl,hyl,hf⟩:=DataW.trod_struct Tryz.underlying205 h1
  have hrow:c<fsRows.length:=hc
  have e1:=congrArg (fun l=>l[c]?) hx
  simp only[List.getElem?_map,List.getElem?_eq_getElem hxc,List.getElem?_eq_getElem hrow,Option.map_some,Option.some.injEq,hy,DataW.agg.injEq]at e1
  have hr5:(fsRows[c]).length=5:=by
   have:∀k:Fin 8,(fsRows[k.val]'k.isLt).length=5:=by decide
   exact this ⟨c,hc⟩
  have hyi:i<ys.length:=by
   have:=congrArg List.length e1
   simp only[List.length_map,hr5]at this
   omega
  have e2:=congrArg (fun l=>l[i]?) e1
  simp only[List.getElem?_map,List.getElem?_eq_getElem hyi,List.getElem?_eq_getElem (show i<(fsRows[c]).length by omega),Option.map_some,Option.some.injEq]at e2
  have hat:fsAt c i=(fsRows[c])[i]'(by omega):=by
   unfold fsAt
   simp[List.getD_eq_getElem?_getD,List.getElem?_eq_getElem hrow,List.getElem?_eq_getElem (show i<(fsRows[c]).length by omega)]
  have go:∀(f:Field),f.type=5→f.offset=i→DataW.trod enc Tryz.prog W base sp held n f.type (((List.take 5 (List.drop (c*5) cs.toList)).drop f.offset).take (Tryz.prog.cellsOf f.type))=ys[i]?→cs[c*5+i]?=some (.int .u8 (fsAt c i)):=by
   intro f ft fo h
   rw[ft,fo,cells5,List.getElem?_eq_getElem hyi]at h
   obtain⟨z,e3,e4,_⟩:=DataW.trod_int Tryz.underlying5 h
   rw[e4]at e2
   simp only[DataW.lit.injEq,Lit.int.injEq,true_and]at e2
   have h4:=congrArg (fun l=>l[0]?) e3
   simp only[List.getElem?_take,List.getElem?_drop]at h4
   rw[hat,e2]
   simpa [show i<5 from hi] using h4
  have hcase:i=0∨i=1∨i=2∨i=3∨i=4:=by omega
  rcases hcase with rfl|rfl|rfl|rfl|rfl
  ·exact go _ rfl rfl (hf 0 _ rfl)
  ·exact go _ rfl rfl (hf 1 _ rfl)
  ·exact go _ rfl rfl (hf 2 _ rfl)
  ·exact go _ rfl rfl (hf 3 _ rfl)
  ·exact go _ rfl rfl (hf 4 _ rfl)
 have hsz:cs.size=40:=by
  have:=hlen
  rw[cellsFs]at this
  simpa using this
 have hcs:cs=fsCells:=by
  apply Array.ext_getElem?
  intro j
  by_cases hj:j<40
  ·have:=key (j / 5) (by omega) (j % 5) (by omega)
   rw[show j / 5*5+j % 5=j from by omega]at this
   rw[this]
   have h:∀k:Fin 40,fsCells[k.val]?=some (.int .u8 (fsAt (k.val / 5) (k.val % 5))):=by
    intro k
    have:∀k:Fin 40,(fsRows.flatten)[k.val]?=some (fsAt (k.val / 5) (k.val % 5)):=by decide
    unfold fsCells
    rw[List.getElem?_toArray,List.getElem?_map,this k]
    rfl
   exact(h ⟨j,hj⟩).symm
  ·have h40:fsCells.size=40:=by decide
   rw[Array.getElem?_eq_none (by omega),Array.getElem?_eq_none (by omega)]
 unfold World.var? at hv
 rw[gFs]at hv
 simp only[Option.bind_some]at hv
 split at hv
 ·rename_i c t fr hh
  injection hv with hv
  rw[hv,hcs]at hh
  exact⟨t,fr,hh⟩
 ·cases hv
theorem own:ownKnob Tryz.prog.godebug=none:=by kernel_rfl
theorem laidOut:laidOutB Tryz.prog=true:=by kernel_rfl
theorem cell_lt {w:World} {g k:Nat} {v:Value} (h:w.cell? ⟨g,k,none⟩=some v):g<w.heap.size:=by
 rcases Nat.lt_or_ge g w.heap.size with h'|h'
 ·exact h'
 ·simp[World.cell?,Array.getElem?_eq_none h']at h
theorem tPow:(Tryz.prog.globals[(5:Nat)]?).map (·.type)=some 236:=by kernel_rfl
theorem cellsPow:Tryz.prog.cellsOf 236=20:=by kernel_rfl
theorem cellsU64:Tryz.prog.cellsOf 153=1:=by kernel_rfl
theorem laid_pow:(Rows.laid_internal_strconv_uint64pow10:DataW Unit)=Lib.tabData .u64 Lib.pow10Tab:=by kernel_rfl
theorem gT64:Tryz.prog.globalNamed "math/bits.deBruijn64tab"=some 7:=by kernel_rfl
theorem tT64:(Tryz.prog.globals[(7:Nat)]?).map (·.type)=some 263:=by kernel_rfl
theorem gES:Tryz.prog.globalNamed "strconv.ErrSyntax"=some 8:=by kernel_rfl
theorem tES:(Tryz.prog.globals[(8:Nat)]?).map (·.type)=some 148:=by kernel_rfl
set_option maxRecDepth 100000 in
theorem t64_15:∃l:List (DataW Unit),(Rows.laid_math_bits_deBruijn64tab:DataW Unit)=.agg l∧l[15]?=some (.lit (.int .u8 4)):=⟨_,rfl,rfl⟩
set_option maxRecDepth 100000 in
theorem t64_of_trod {enc:TypeId×Value→Unit} {W:World} {base:Nat} {sp:Nat→Bool} {held:Bool} {cs:Array Value} {fuel:Nat} {p:List MemPlace}
  (hv:W.var? Tryz.prog "math/bits.deBruijn64tab"=some cs)
  (hd:DataW.trod enc Tryz.prog W base sp held fuel 263 cs.toList=some (Rows.laid_math_bits_deBruijn64tab,p)):W.cell? ⟨7,15,none⟩=some (.int .u8 4):=by
 obtain⟨xs,m,_,hx,hlen,hn,hel⟩:=DataW.trod_array Tryz.underlying263 hd
 obtain⟨l,hl,h15⟩:=t64_15
 rw[hl]at hx
 simp only[Prod.mk.injEq,DataW.agg.injEq]at hx
 obtain⟨rfl, -⟩:=hx
 have h1:=hel 15 (by omega)
 have hxc:15<xs.length:=by omega
 rw[List.getElem?_eq_getElem hxc,cells5]at h1
 obtain⟨z,e1,e2,_⟩:=DataW.trod_int Tryz.underlying5 h1
 simp only[List.getElem?_map,List.getElem?_eq_getElem hxc,Option.map_some,e2,Option.some.injEq,DataW.lit.injEq,Lit.int.injEq,true_and]at h15
 subst h15
 have h3:=World.var?_cell gT64 hv 15
 rw[h3]
 have h4:=congrArg (fun l=>l[0]?) e1
 simp only[List.getElem?_take,List.getElem?_drop]at h4
 simpa using h4
theorem es_of_trod {enc:TypeId×Value→Unit} {W:World} {base:Nat} {sp:Nat→Bool} {cs:Array Value} {fuel:Nat} {p:List MemPlace}
  (hv:W.var? Tryz.prog "strconv.ErrSyntax"=some cs)
  (hd:DataW.trod enc Tryz.prog W base sp false fuel 148 cs.toList=some (Rows.laid_strconv_ErrSyntax,p)):∃te pe,W.cell? ⟨8,0,none⟩=some (.iface te pe):=by
 obtain⟨_,u,v,e,_,_⟩:=iface_of_trod Tryz.underlying148 hd
 have h3:=World.var?_cell gES hv 0
 refine⟨u,v,?_⟩
 rw[h3]
 have h4:=congrArg (fun l=>l[0]?) e
 simpa using h4
theorem ml_of {W:World} (h:W.ShapedOpen Tryz.prog):∃m,W.cell? ⟨2,0,none⟩=some (.int .i64 m):=
 cell_of_shapedOpen_int (t:=3) (zero:=#[.int .i64 0]) h (of_decide_eq_true (by kernel_rfl)) (by kernel_rfl) rfl (by kernel_rfl) (by kernel_rfl) Tryz.underlying3
theorem gER:Tryz.prog.globalNamed "strconv.ErrRange"=some 9:=by kernel_rfl
theorem ten_of {W:World} {cs:Array Value} (hv:W.var? Tryz.prog "strconv.ErrRange"=some cs):10≤W.heap.size:=by
 unfold World.var? at hv
 rw[gER]at hv
 simp only[Option.bind_some]at hv
 split at hv
 ·rename_i c t fr hh
  exact(Array.getElem?_eq_some_iff.1 hh).1
 ·cases hv
theorem tabs9_of {W:World} (h:laidMet Tryz.prog [("math/bits.deBruijn32tab",Rows.laid_math_bits_deBruijn32tab),("math/bits.deBruijn64tab",Rows.laid_math_bits_deBruijn64tab),("internal/strconv.uint64pow10",Rows.laid_internal_strconv_uint64pow10),("unicode/utf8.acceptRanges",Rows.laid_unicode_utf8_acceptRanges),("strconv.ErrRange",Rows.laid_strconv_ErrRange),("strconv.ErrSyntax",Rows.laid_strconv_ErrSyntax),("posthorn/octet.classes",Rows.laid_posthorn_octet_classes),("posthorn/runes.firsts",Rows.laid_posthorn_runes_firsts),("unicode/utf8.first",Rows.laid_unicode_utf8_first)] W) (hsh:W.ShapedOpen Tryz.prog):Td W∧10≤W.heap.size:=by
 obtain⟨ps,⟨g0,t0,cs0,fuel0,p0,q0,hg0,ht0,hv0,hd0,⟨g1,t1,cs1,fuel1,p1,q1,hg1,ht1,hv1,hd1,⟨g2,t2,cs2,fuel2,p2,q2,hg2,ht2,hv2,hd2,⟨g3,t3,cs3,fuel3,p3,q3,hg3,ht3,hv3,hd3,⟨g4,t4,cs4,fuel4,p4,q4,hg4,ht4,hv4,hd4,⟨g5,t5,cs5,fuel5,p5,q5,hg5,ht5,hv5,hd5,⟨g6,t6,cs6,fuel6,p6,q6,hg6,ht6,hv6,hd6,⟨g7,t7,cs7,fuel7,p7,q7,hg7,ht7,hv7,hd7,⟨g8,t8,cs8,fuel8,p8,q8,hg8,ht8,hv8,hd8,_,_⟩,_⟩,_⟩,_⟩,_⟩,_⟩,_⟩,_⟩,_⟩,_⟩:=h
 obtain rfl:=Option.some.inj (gCl.symm.trans hg6)
 obtain rfl:=Option.some.inj (tCl.symm.trans ht6)
 obtain rfl:=Option.some.inj (gFs.symm.trans hg7)
 obtain rfl:=Option.some.inj (tFs.symm.trans ht7)
 obtain rfl:=Option.some.inj (gPow.symm.trans hg2)
 obtain rfl:=Option.some.inj (tPow.symm.trans ht2)
 obtain rfl:=Option.some.inj (gT64.symm.trans hg1)
 obtain rfl:=Option.some.inj (tT64.symm.trans ht1)
 obtain rfl:=Option.some.inj (gES.symm.trans hg5)
 obtain rfl:=Option.some.inj (tES.symm.trans ht5)
 have h1:=table_of_trod hv6 hd6
 refine⟨?_,ten_of hv4⟩
 refine⟨⟨h1,cell_lt (h1 0 (by omega)),fst_of_trod hv7 hd7,es_of_trod hv5 hd5,t64_of_trod hv1 hd1⟩,?_,ml_of hsh⟩
 rw[laid_pow]at hd2
 unfold PowTab Lib.TabIs
 rw[hv2,←Lib.cells_of_tab Tryz.underlying236 Tryz.underlying153 cellsU64 cellsPow hd2]
def litC:DataW Unit→List Value
 | .lit (.int k z)=>[Value.int k z]
 | .lit (.string b)=>[Value.string ⟨b.toArray⟩]
 |_=>[]
def rowC:DataW Unit→List Value
 | .agg l=>l.flatMap litC
 |d=>litC d
def datCells:DataW Unit→Array Value
 | .agg l=>(l.flatMap rowC).toArray
 |_=>#[]
def layCells (d:DataW Unit):Obj→Obj
 | .cells _ t frozen=>.cells (datCells d) t frozen
 |o=>o
abbrev rangeS:ByteArray:=⟨#[118,97,108,117,101,32,111,117,116,32,111,102,32,114,97,110,103,101]⟩
abbrev synS:ByteArray:=⟨#[105,110,118,97,108,105,100,32,115,121,110,116,97,120]⟩
noncomputable def low9:Nat:=(World.holding Tryz.prog default ⟨#[],#[],[]⟩).heap.size
def layPtr (b:Nat):Obj→Obj
 | .cells _ t frozen=>.cells #[.iface 280 (.pointer (some ⟨b,0,none⟩))] t frozen
 |o=>o
noncomputable def laidWorld9 (os:Os):World:=
 {World.holding Tryz.prog os ⟨#[.cells #[.string rangeS] 282,.cells #[.string synS] 282],#[],[]⟩ with heap:=((((((((((World.holding Tryz.prog os ⟨#[.cells #[.string rangeS] 282,.cells #[.string synS] 282],#[],[]⟩).heap.modify 6 (layCells Rows.laid_math_bits_deBruijn32tab)).modify 7 (layCells Rows.laid_math_bits_deBruijn64tab)).modify 5 (layCells Rows.laid_internal_strconv_uint64pow10)).modify 4 (layCells Rows.laid_unicode_utf8_acceptRanges)).modify 9 (layPtr (low9))).modify 8 (layPtr (low9+1))).modify 0 (layCells Rows.laid_posthorn_octet_classes)).modify 1 (layCells Rows.laid_posthorn_runes_firsts)).modify 3 (layCells Rows.laid_unicode_utf8_first))}
set_option maxRecDepth 100000 in
theorem bytes_of_trod {H:Type} {enc:TypeId×Value→H} {W:World} {b0:Nat} {sp:Nat→Bool} {held:Bool} {T:TypeId} {n fuel:Nat} {cs:List Value} {x:DataW H×List MemPlace} (hu:Tryz.prog.underlying T=some (.array n 5)) (hc:Tryz.prog.cellsOf T=n) (h:DataW.trod enc Tryz.prog W b0 sp held fuel T cs=some x):
  ∃l:List Nat,l.length=n∧(∀x∈l,x<256)∧cs=l.map fun n=>Value.int .u8 (n:Nat):=by
 obtain⟨xs,m,_,_,hlen,hn,hel⟩:=DataW.trod_array hu h
 rw[hc]at hlen
 have key:∀i,i<n→∃z:Nat,z<256∧cs[i]?=some (.int .u8 (z:Nat)):=by
  intro i hi
  have h1:=hel i hi
  rw[List.getElem?_eq_getElem (show i<xs.length by omega),cells5]at h1
  obtain⟨z,e1,_,e3⟩:=DataW.trod_int Tryz.underlying5 h1
  have b:=bounds_u8 e3
  have h4:=congrArg (fun l=>l[0]?) e1
  simp only[List.getElem?_take,List.getElem?_drop]at h4
  refine⟨z.toNat,by omega,?_⟩
  rw[Int.toNat_of_nonneg b.1]
  simpa using h4
 refine⟨cs.map fun v=>match v with| .int _ z=>z.toNat|_=>0,by simp[hlen],?_,?_⟩
 ·intro x hx
  obtain⟨v,hv,rfl⟩:=List.mem_map.1 hx
  obtain⟨i,hi,rfl⟩:=List.getElem_of_mem hv
  obtain⟨z,hz,e⟩:=key i (by omega)
  rw[List.getElem?_eq_getElem hi]at e
  rw[Option.some.inj e]
  simpa using hz
 ·apply List.ext_getElem?
  intro i
  by_cases hi:i<n
  ·obtain⟨z,hz,e⟩:=key i hi
   rw[List.getElem?_map,List.getElem?_map,e]
   simp
  ·rw[List.getElem?_eq_none (by omega),List.getElem?_eq_none (by simp;omega)]
theorem cellsT16:Tryz.prog.cellsOf 23=16:=by kernel_rfl
theorem cellsT3:Tryz.prog.cellsOf 3=1:=by kernel_rfl
open Go.ChangeShapes Go.WideShapes Go.ChangeAt Go.RowKit
set_option maxRecDepth 100000 in
theorem open_box {H:Type} {enc:TypeId×Value→H} {W:World} {r:Reach} {b0:Nat} {v:Value} {d:DataW H} {ps:List MemPlace} (hv:Value.okWide Tryz.prog W r b0 27 v) (h:DataW.Trod enc Tryz.prog W 0 (fun _=>true) true 27 v d ps):
  ∃(l:ByteArray) (a:Ho),v=.agg (boxC l.data.toList a)∧(a.Ok∧ -9223372036854775808≤a.k∧a.k≤9223372036854775807)∧∃p q,d=.agg [.lit (.string l.data.toList),.agg [p,.lit (.string a.n),q]]:=by
 obtain⟨cs,rfl,hsz⟩:=okWide_struct Tryz.underlying27 hv
 have c19:Tryz.prog.cellsOf 27=19:=by kernel_rfl
 have c18:Tryz.prog.cellsOf 25=18:=by kernel_rfl
 rw[c19]at hsz
 obtain⟨fuel,hf⟩:=h
 obtain⟨ys,n,_,hx,hl,hyl,hfd⟩:=DataW.trod_struct Tryz.underlying27 hf
 have hy2:ys.length=2:=hyl
 obtain⟨y0,y1,rfl⟩:∃a b,ys=[a,b]:=by
  match ys,hy2 with
  |[a,b],_=>exact⟨a,b,rfl⟩
 have g0:_=some y0:=hfd 0 _ rfl
 have g1:_=some y1:=hfd 1 _ rfl
 obtain⟨s0,a0,d0,_⟩:=DataW.trod_string Tryz.underlying9 g0
 have e0:cs[0]?=some (.string s0):=by
  have r0:=congrArg (fun l=>l[0]?) a0
  simp only[List.getElem?_take,List.getElem?_drop]at r0
  simpa [Value.cells,cellsStr] using r0
 have hD:(List.take (Tryz.prog.cellsOf 25) (List.drop 1 (Value.agg cs).cells.toList))=cs.toList.drop 1:=by
  rw[c18]
  simp only[Value.cells]
  rw[List.take_of_length_le]
  simp[hsz]
 have g1':DataW.trod enc Tryz.prog W 0 (fun _=>true) true n 25 (cs.toList.drop 1)=some y1:=by
  rw[←hD]
  exact g1
 obtain⟨zs,m,_,hx1,hl1,hzl,hfd1⟩:=DataW.trod_struct Tryz.underlying25 g1'
 have hz3:zs.length=3:=hzl
 obtain⟨z0,z1,z2,rfl⟩:∃a b c,zs=[a,b,c]:=by
  match zs,hz3 with
  |[a,b,c],_=>exact⟨a,b,c,rfl⟩
 have k0:_=some z0:=hfd1 0 _ rfl
 have k1:_=some z1:=hfd1 1 _ rfl
 have k2:_=some z2:=hfd1 2 _ rfl
 obtain⟨q0,b0,_,w0⟩:=DataW.trod_int Tryz.underlying3 k0
 obtain⟨st,b1,d1,_⟩:=DataW.trod_string Tryz.underlying9 k1
 obtain⟨l,l1,l2,l3⟩:=bytes_of_trod Tryz.underlying23 cellsT16 k2
 have e1:cs[1]?=some (.int .i64 q0):=by
  have r0:=congrArg (fun l=>l[0]?) b0
  simp only[List.getElem?_take,List.getElem?_drop]at r0
  simpa [cellsT3] using r0
 have e2:cs[2]?=some (.string st):=by
  have r0:=congrArg (fun l=>l[0]?) b1
  simp only[List.getElem?_take,List.getElem?_drop]at r0
  simpa [cellsStr] using r0
 have e3:cs.toList.drop 3=l.map fun n=>Value.int .u8 (n:Nat):=by
  rw[←l3]
  show cs.toList.drop 3=List.take (Tryz.prog.cellsOf 23) (List.drop 2 (cs.toList.drop 1))
  rw[cellsT16,List.drop_drop,List.take_of_length_le]
  simp[hsz]
 refine⟨s0,⟨q0,st.data.toList,l⟩,?_,⟨⟨l1,l2⟩,bounds_i64 w0⟩,z0.1,z2.1,?_⟩
 ·have hcs:cs.toList=Value.string s0::Value.int .i64 q0::Value.string st::l.map fun n=>Value.int .u8 (n:Nat):=by
   rw[←e3]
   have e0':cs.toList[0]?=some (.string s0):=by simpa using e0
   have e1':cs.toList[1]?=some (.int .i64 q0):=by simpa using e1
   have e2':cs.toList[2]?=some (.string st):=by simpa using e2
   match hc:cs.toList with
   |[]=>rw[hc]at e0';simp at e0'
   |[_]=>rw[hc]at e1';simp at e1'
   |[_,_]=>rw[hc]at e2';simp at e2'
   |x::y::z::t=>
    rw[hc]at e0' e1' e2'
    simp at e0' e1' e2'
    rw[e0',e1',e2']
    rfl
  have hb:(boxC s0.data.toList ⟨q0,st.data.toList,l⟩).toList=Value.string s0::Value.int .i64 q0::Value.string st::l.map fun n=>Value.int .u8 (n:Nat):=by
   unfold boxC hostC txt
   simp
  have:cs=boxC s0.data.toList ⟨q0,st.data.toList,l⟩:=Array.ext' (by rw[hcs,hb])
  rw[this]
 ·have hd:d=.agg [y0.1,y1.1]:=congrArg Prod.fst hx
  have hd1:y1.1=.agg [z0.1,z1.1,z2.1]:=congrArg Prod.fst hx1
  have q1:y0.1=.lit (.string s0.data.toList):=congrArg Prod.fst d0
  have q2:z1.1=.lit (.string st.data.toList):=congrArg Prod.fst d1
  rw[hd,hd1,q1,q2]
theorem box_size {H:Type} {ts:List TypeId} {ds:List (DataW H)} {d:DataW H} {L N:List UInt8} {j:Nat} (h:(DataW.weightsEach Tryz.prog ts ds).all (· ≤reachBytes)=true) (ht:ts[j]?=some 27) (hd:ds[j]?=some d)
  (e:∃p q,d=.agg [.lit (.string L),.agg [p,.lit (.string N),q]]):L.length≤140737488351232∧N.length≤140737488351232:=by
 obtain⟨p,q,rfl⟩:=e
 have key:∀n,n∈(DataW.agg [.lit (.string L),.agg [p,.lit (.string N),q]]).weights Tryz.prog 27→n≤140737488351232:=fun n hn=>by
  have h0:=List.all_eq_true.1 h _ (DataW.weights_mem_each ht hd _ hn)
  simp only[reachBytes]at h0
  exact of_decide_eq_true h0
 refine⟨key _ ?_,key _ ?_⟩
 ·unfold DataW.weights
  rw[Tryz.underlying27]
  exact DataW.weights_mem_each (j:=0) (t:=9) (d:=.lit (.string L)) rfl rfl _ (by simp[DataW.weights])
 ·unfold DataW.weights
  rw[Tryz.underlying27]
  refine DataW.weights_mem_each (j:=1) (t:=25) (d:=.agg [p,.lit (.string N),q]) rfl rfl _ ?_
  unfold DataW.weights
  rw[Tryz.underlying25]
  exact DataW.weights_mem_each (j:=1) (t:=9) (d:=.lit (.string N)) rfl rfl _ (by simp[DataW.weights])
end Go.Proofs.YtfjpkfhbmldmfaaGreatDoor
