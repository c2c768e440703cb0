/-
  What a row's list gives the walks: the tables, the two errors; a world for the witnesses; hosts and addresses as they came in.
-/
import Derived.Test.YtfjpkfhbmldmfabGreatDoorXr9
import Derived.Test.YtfjpkfhbmldmfabGreatDoorRows
import Derived.Test.YtfjpkfhbmldmfabGreatDoorCards
import Derived.Test.YtfjpkfhbmldmfabGreatDoorTie
import Derived.ProofKit
import Derived.OpenShut
import Derived.Lib.LaidTab
import Derived.LaidLaws
import Derived.Deep.DeepHandedRow
import Derived.ShutString
import Derived.SizedLaws
import Derived.ChangeOld
import Derived.Shelf.Vars
import Derived.Test.YtfjpkfhbmldmfabGreatDoorXd9
import Derived.Test.YtfjpkfhbmldmfabGreatDoorPtA
namespace Go.Proofs.YtfjpkfhbmldmfabGreatDoor
open Go.ChangeShapes Go.WideShapes Go.ChangeAt Go.RowKit
theorem gCl:Tryz.prog.globalNamed "posthorn/octet.classes"=some 0:=by kernel_rfl
theorem tCl:(Tryz.prog.globals[(0:Nat)]?).map (·.type)=some 103:=by kernel_rfl
theorem cellsStr:Tryz.prog.cellsOf 9=1:=by kernel_rfl
theorem gFs:Tryz.prog.globalNamed "posthorn/runes.firsts"=some 1:=by kernel_rfl
theorem tFs:(Tryz.prog.globals[(1:Nat)]?).map (·.type)=some 146:=by kernel_rfl
theorem cellsF:Tryz.prog.cellsOf 145=5:=by kernel_rfl
theorem cellsFs:Tryz.prog.cellsOf 146=40:=by kernel_rfl
theorem laid_rows:(Rows.laid_posthorn_octet_classes:DataW Unit)=.agg (classRows.map fun l=>.lit (.string l)):=rfl
theorem laid_fst:(Rows.laid_posthorn_runes_firsts:DataW Unit)=.agg (fsRows.map fun r=>.agg (r.map fun x=>.lit (.int .u8 x))):=rfl
theorem table_of_trod {enc:TypeId×Value→Unit} {W:World} {base:Nat} {sp:Nat→Bool} {held:Bool} {cs:Array Value} {fuel:Nat} {p:List MemPlace}
  (hv:W.var? Tryz.prog "posthorn/octet.classes"=some cs)
  (hd:DataW.trod enc Tryz.prog W base sp held fuel 103 cs.toList=some (Rows.laid_posthorn_octet_classes,p)):Table W:=by
 obtain⟨xs,m,_,hx,hlen,hn,hel⟩:=DataW.trod_array Tryz.underlying103 hd
 rw[laid_rows]at hx
 simp only[Prod.mk.injEq,DataW.agg.injEq]at hx
 obtain⟨hx, -⟩:=hx
 intro c hc
 have h1:=hel c hc
 have hxc:c<xs.length:=by omega
 rw[List.getElem?_eq_getElem hxc]at h1
 obtain⟨s,e1,e2,_⟩:=DataW.trod_string Tryz.underlying9 h1
 have h2:=congrArg (fun l=>l[c]?) hx
 simp only[List.getElem?_map,List.getElem?_eq_getElem hxc,Option.map_some,e2]at h2
 have hcl:c<classRows.length:=hc
 rw[List.getElem?_eq_getElem hcl]at h2
 simp only[Option.map_some,Option.some.injEq,DataW.lit.injEq,Lit.string.injEq]at h2
 have h3:=World.var?_cell gCl hv c
 rw[h3]
 rw[cellsStr,Nat.mul_one]at e1
 have h4:=congrArg (fun l=>l[0]?) e1
 simp only[List.getElem?_take,List.getElem?_drop]at h4
 have h5:cs[c]?=some (.string s):=by simpa using h4
 rw[h5]
 have h6:classRows.getD c []=s.data.toList:=by
  rw[List.getD_eq_getElem?_getD,List.getElem?_eq_getElem hcl,Option.getD_some,h2]
 rw[h6]
theorem fst_of_trod {enc:TypeId×Value→Unit} {W:World} {base:Nat} {sp:Nat→Bool} {held:Bool} {cs:Array Value} {fuel:Nat} {p:List MemPlace}
  (hv:W.var? Tryz.prog "posthorn/runes.firsts"=some cs)
  (hd:DataW.trod enc Tryz.prog W base sp held fuel 146 cs.toList=some (Rows.laid_posthorn_runes_firsts,p)):Fst W:=by
 obtain⟨xs,m,_,hx,hlen,hn,hel⟩:=DataW.trod_array Tryz.underlying146 hd
 rw[laid_fst]at hx
 simp only[Prod.mk.injEq,DataW.agg.injEq]at hx
 obtain⟨hx, -⟩:=hx
 have key:∀c,c<8→∀i,i<5→cs[c*5+i]?=some (.int .u8 (fsAt c i)):=by
  intro c hc i hi
  have h1:=hel c hc
  have hxc:c<xs.length:=by omega
  rw[List.getElem?_eq_getElem hxc,cellsF]at h1
  obtain⟨ys,n,_,hy,hl,hyl,hf⟩:=DataW.trod_struct Tryz.underlying145 h1
  have hrow:c<fsRows.length:=hc
  have e1:=congrArg (fun l=>l[c]?) hx
  simp only[List.getElem?_map,List.getElem?_eq_getElem hxc,List.getElem?_eq_getElem hrow,Option.map_some,Option.some.injEq,hy,DataW.agg.injEq]at e1
  have hr5:(fsRows[c]).length=5:=by
   have:∀k:Fin 8,(fsRows[k.val]'k.isLt).length=5:=by decide
   exact this ⟨c,hc⟩
  have hyi:i<ys.length:=by
   have:=congrArg List.length e1
   simp only[List.length_map,hr5]at this
   omega
  have e2:=congrArg (fun l=>l[i]?) e1
  simp only[List.getElem?_map,List.getElem?_eq_getElem hyi,List.getElem?_eq_getElem (show i<(fsRows[c]).length by omega),Option.map_some,Option.some.injEq]at e2
  have hat:fsAt c i=(fsRows[c])[i]'(by omega):=by
   unfold fsAt
   simp[List.getD_eq_getElem?_getD,List.getElem?_eq_getElem hrow,List.getElem?_eq_getElem (show i<(fsRows[c]).length by omega)]
  have go:∀(f:Field),f.type=5→f.offset=i→DataW.trod enc Tryz.prog W base sp held n f.type (((List.take 5 (List.drop (c*5) cs.toList)).drop f.offset).take (Tryz.prog.cellsOf f.type))=ys[i]?→cs[c*5+i]?=some (.int .u8 (fsAt c i)):=by
   intro f ft fo h
   rw[ft,fo,cells5,List.getElem?_eq_getElem hyi]at h
   obtain⟨z,e3,e4,_⟩:=DataW.trod_int Tryz.underlying5 h
   rw[e4]at e2
   simp only[DataW.lit.injEq,Lit.int.injEq,true_and]at e2
   have h4:=congrArg (fun l=>l[0]?) e3
   simp only[List.getElem?_take,List.getElem?_drop]at h4
   rw[hat,e2]
   simpa [show i<5 from hi] using h4
  have hcase:i=0∨i=1∨i=2∨i=3∨i=4:=by omega
  rcases hcase with rfl|rfl|rfl|rfl|rfl
  ·exact go _ rfl rfl (hf 0 _ rfl)
  ·exact go _ rfl rfl (hf 1 _ rfl)
  ·exact go _ rfl rfl (hf 2 _ rfl)
  ·exact go _ rfl rfl (hf 3 _ rfl)
  ·exact go _ rfl rfl (hf 4 _ rfl)
 have hsz:cs.size=40:=by
  have:=hlen
  rw[cellsFs]at this
  simpa using this
 have hcs:cs=fsCells:=by
  apply Array.ext_getElem?
  intro j
  by_cases hj:j<40
  ·have:=key (j / 5) (by omega) (j % 5) (by omega)
   rw[show j / 5*5+j % 5=j from by omega]at this
   rw[this]
   have h:∀k:Fin 40,fsCells[k.val]?=some (.int .u8 (fsAt (k.val / 5) (k.val % 5))):=by
    intro k
    have:∀k:Fin 40,(fsRows.flatten)[k.val]?=some (fsAt (k.val / 5) (k.val % 5)):=by decide
    unfold fsCells
    rw[List.getElem?_toArray,List.getElem?_map,this k]
    rfl
   exact(h ⟨j,hj⟩).symm
  ·have h40:fsCells.size=40:=by decide
   rw[Array.getElem?_eq_none (by omega),Array.getElem?_eq_none (by omega)]
 unfold World.var? at hv
 rw[gFs]at hv
 simp only[Option.bind_some]at hv
 split at hv
 ·rename_i c t fr hh
  injection hv with hv
  rw[hv,hcs]at hh
  exact⟨t,fr,hh⟩
 ·cases hv
theorem own:ownKnob Tryz.prog.godebug=none:=by kernel_rfl
theorem laidOut:laidOutB Tryz.prog=true:=by kernel_rfl
theorem cell_lt {w:World} {g k:Nat} {v:Value} (h:w.cell? ⟨g,k,none⟩=some v):g<w.heap.size:=by
 rcases Nat.lt_or_ge g w.heap.size with h'|h'
 ·exact h'
 ·simp[World.cell?,Array.getElem?_eq_none h']at h
theorem tPow:(Tryz.prog.globals[(5:Nat)]?).map (·.type)=some 191:=by kernel_rfl
theorem cellsPow:Tryz.prog.cellsOf 191=20:=by kernel_rfl
theorem cellsU64:Tryz.prog.cellsOf 53=1:=by kernel_rfl
theorem laid_pow:(Rows.laid_internal_strconv_uint64pow10:DataW Unit)=Lib.tabData .u64 Lib.pow10Tab:=by kernel_rfl
theorem gT64:Tryz.prog.globalNamed "math/bits.deBruijn64tab"=some 7:=by kernel_rfl
theorem tT64:(Tryz.prog.globals[(7:Nat)]?).map (·.type)=some 213:=by kernel_rfl
theorem gES:Tryz.prog.globalNamed "strconv.ErrSyntax"=some 8:=by kernel_rfl
theorem tES:(Tryz.prog.globals[(8:Nat)]?).map (·.type)=some 113:=by kernel_rfl
set_option maxRecDepth 100000 in
theorem t64_15:∃l:List (DataW Unit),(Rows.laid_math_bits_deBruijn64tab:DataW Unit)=.agg l∧l[15]?=some (.lit (.int .u8 4)):=⟨_,rfl,rfl⟩
set_option maxRecDepth 100000 in
theorem t64_of_trod {enc:TypeId×Value→Unit} {W:World} {base:Nat} {sp:Nat→Bool} {held:Bool} {cs:Array Value} {fuel:Nat} {p:List MemPlace}
  (hv:W.var? Tryz.prog "math/bits.deBruijn64tab"=some cs)
  (hd:DataW.trod enc Tryz.prog W base sp held fuel 213 cs.toList=some (Rows.laid_math_bits_deBruijn64tab,p)):W.cell? ⟨7,15,none⟩=some (.int .u8 4):=by
 obtain⟨xs,m,_,hx,hlen,hn,hel⟩:=DataW.trod_array Tryz.underlying213 hd
 obtain⟨l,hl,h15⟩:=t64_15
 rw[hl]at hx
 simp only[Prod.mk.injEq,DataW.agg.injEq]at hx
 obtain⟨rfl, -⟩:=hx
 have h1:=hel 15 (by omega)
 have hxc:15<xs.length:=by omega
 rw[List.getElem?_eq_getElem hxc,cells5]at h1
 obtain⟨z,e1,e2,_⟩:=DataW.trod_int Tryz.underlying5 h1
 simp only[List.getElem?_map,List.getElem?_eq_getElem hxc,Option.map_some,e2,Option.some.injEq,DataW.lit.injEq,Lit.int.injEq,true_and]at h15
 subst h15
 have h3:=World.var?_cell gT64 hv 15
 rw[h3]
 have h4:=congrArg (fun l=>l[0]?) e1
 simp only[List.getElem?_take,List.getElem?_drop]at h4
 simpa using h4
theorem es_of_trod {enc:TypeId×Value→Unit} {W:World} {base:Nat} {sp:Nat→Bool} {cs:Array Value} {fuel:Nat} {p:List MemPlace}
  (hv:W.var? Tryz.prog "strconv.ErrSyntax"=some cs)
  (hd:DataW.trod enc Tryz.prog W base sp false fuel 113 cs.toList=some (Rows.laid_strconv_ErrSyntax,p)):∃te pe,W.cell? ⟨8,0,none⟩=some (.iface te pe):=by
 obtain⟨_,u,v,e,_,_⟩:=iface_of_trod Tryz.underlying113 hd
 have h3:=World.var?_cell gES hv 0
 refine⟨u,v,?_⟩
 rw[h3]
 have h4:=congrArg (fun l=>l[0]?) e
 simpa using h4
theorem ml_of {W:World} (h:W.ShapedOpen Tryz.prog):∃m,W.cell? ⟨2,0,none⟩=some (.int .i64 m):=
 cell_of_shapedOpen_int (t:=3) (zero:=#[.int .i64 0]) h (of_decide_eq_true (by kernel_rfl)) (by kernel_rfl) rfl (by kernel_rfl) (by kernel_rfl) Tryz.underlying3
theorem gER:Tryz.prog.globalNamed "strconv.ErrRange"=some 9:=by kernel_rfl
theorem ten_of {W:World} {cs:Array Value} (hv:W.var? Tryz.prog "strconv.ErrRange"=some cs):10≤W.heap.size:=by
 unfold World.var? at hv
 rw[gER]at hv
 simp only[Option.bind_some]at hv
 split at hv
 ·rename_i c t fr hh
  exact(Array.getElem?_eq_some_iff.1 hh).1
 ·cases hv
theorem tabs9_of {W:World} (h:laidMet Tryz.prog [("math/bits.deBruijn32tab",Rows.laid_math_bits_deBruijn32tab),("math/bits.deBruijn64tab",Rows.laid_math_bits_deBruijn64tab),("internal/strconv.uint64pow10",Rows.laid_internal_strconv_uint64pow10),("unicode/utf8.acceptRanges",Rows.laid_unicode_utf8_acceptRanges),("strconv.ErrRange",Rows.laid_strconv_ErrRange),("strconv.ErrSyntax",Rows.laid_strconv_ErrSyntax),("posthorn/octet.classes",Rows.laid_posthorn_octet_classes),("posthorn/runes.firsts",Rows.laid_posthorn_runes_firsts),("unicode/utf8.first",Rows.laid_unicode_utf8_first)] W) (hsh:W.ShapedOpen Tryz.prog):Td W∧10≤W.heap.size:=by
 obtain⟨ps,⟨g0,t0,cs0,fuel0,p0,q0,hg0,ht0,hv0,hd0,⟨g1,t1,cs1,fuel1,p1,q1,hg1,ht1,hv1,hd1,⟨g2,t2,cs2,fuel2,p2,q2,hg2,ht2,hv2,hd2,⟨g3,t3,cs3,fuel3,p3,q3,hg3,ht3,hv3,hd3,⟨g4,t4,cs4,fuel4,p4,q4,hg4,ht4,hv4,hd4,⟨g5,t5,cs5,fuel5,p5,q5,hg5,ht5,hv5,hd5,⟨g6,t6,cs6,fuel6,p6,q6,hg6,ht6,hv6,hd6,⟨g7,t7,cs7,fuel7,p7,q7,hg7,ht7,hv7,hd7,⟨g8,t8,cs8,fuel8,p8,q8,hg8,ht8,hv8,hd8,_,_⟩,_⟩,_⟩,_⟩,_⟩,_⟩,_⟩,_⟩,_⟩,_⟩:=h
 obtain rfl:=Option.some.inj (gCl.symm.trans hg6)
 obtain rfl:=Option.some.inj (tCl.symm.trans ht6)
 obtain rfl:=Option.some.inj (gFs.symm.trans hg7)
 obtain rfl:=Option.some.inj (tFs.symm.trans ht7)
 obtain rfl:=Option.some.inj (gPow.symm.trans hg2)
 obtain rfl:=Option.some.inj (tPow.symm.trans ht2)
 obtain rfl:=Option.some.inj (gT64.symm.trans hg1)
 obtain rfl:=Option.some.inj (tT64.symm.trans ht1)
 obtain rfl:=Option.some.inj (gES.symm.trans hg5)
 obtain rfl:=Option.some.inj (tES.symm.trans ht5)
 have h1:=table_of_trod hv6 hd6
 refine⟨?_,ten_of hv4⟩
 refine⟨⟨h1,cell_lt (h1 0 (by omega)),fst_of_trod hv7 hd7,es_of_trod hv5 hd5,t64_of_trod hv1 hd1⟩,?_,ml_of hsh⟩
 rw[laid_pow]at hd2
 unfold PowTab Lib.TabIs
 rw[hv2,←Lib.cells_of_tab Tryz.underlying191 Tryz.underlying53 cellsU64 cellsPow hd2]
def litC:DataW Unit→List Value
 | .lit (.int k z)=>[Value.int k z]
 | .lit (.string b)=>[Value.string ⟨b.toArray⟩]
 |_=>[]
def rowC:DataW Unit→List Value
 | .agg l=>l.flatMap litC
 |d=>litC d
def datCells:DataW Unit→Array Value
 | .agg l=>(l.flatMap rowC).toArray
 |_=>#[]
def layCells (d:DataW Unit):Obj→Obj
 | .cells _ t frozen=>.cells (datCells d) t frozen
 |o=>o
abbrev rangeS:ByteArray:=⟨#[118,97,108,117,101,32,111,117,116,32,111,102,32,114,97,110,103,101]⟩
abbrev synS:ByteArray:=⟨#[105,110,118,97,108,105,100,32,115,121,110,116,97,120]⟩
noncomputable def low9:Nat:=(World.holding Tryz.prog default ⟨#[],#[],[]⟩).heap.size
def layPtr (b:Nat):Obj→Obj
 | .cells _ t frozen=>.cells #[.iface 235 (.pointer (some ⟨b,0,none⟩))] t frozen
 |o=>o
noncomputable def laidWorld9 (os:Os):World:=
 {World.holding Tryz.prog os ⟨#[.cells #[.string rangeS] 237,.cells #[.string synS] 237],#[],[]⟩ with heap:=((((((((((World.holding Tryz.prog os ⟨#[.cells #[.string rangeS] 237,.cells #[.string synS] 237],#[],[]⟩).heap.modify 6 (layCells Rows.laid_math_bits_deBruijn32tab)).modify 7 (layCells Rows.laid_math_bits_deBruijn64tab)).modify 5 (layCells Rows.laid_internal_strconv_uint64pow10)).modify 4 (layCells Rows.laid_unicode_utf8_acceptRanges)).modify 9 (layPtr (low9))).modify 8 (layPtr (low9+1))).modify 0 (layCells Rows.laid_posthorn_octet_classes)).modify 1 (layCells Rows.laid_posthorn_runes_firsts)).modify 3 (layCells Rows.laid_unicode_utf8_first))}
set_option maxRecDepth 100000 in
theorem bytes_of_trod {H:Type} {enc:TypeId×Value→H} {W:World} {b0:Nat} {sp:Nat→Bool} {held:Bool} {T:TypeId} {n fuel:Nat} {cs:List Value} {x:DataW H×List MemPlace} (hu:Tryz.prog.underlying T=some (.array n 5)) (hc:Tryz.prog.cellsOf T=n) (h:DataW.trod enc Tryz.prog W b0 sp held fuel T cs=some x):
  ∃l:List Nat,l.length=n∧(∀x∈l,x<256)∧cs=l.map fun n=>Value.int .u8 (n:Nat):=by
 obtain⟨xs,m,_,_,hlen,hn,hel⟩:=DataW.trod_array hu h
 rw[hc]at hlen
 have key:∀i,i<n→∃z:Nat,z<256∧cs[i]?=some (.int .u8 (z:Nat)):=by
  intro i hi
  have h1:=hel i hi
  rw[List.getElem?_eq_getElem (show i<xs.length by omega),cells5]at h1
  obtain⟨z,e1,_,e3⟩:=DataW.trod_int Tryz.underlying5 h1
  have b:=bounds_u8 e3
  have h4:=congrArg (fun l=>l[0]?) e1
  simp only[List.getElem?_take,List.getElem?_drop]at h4
  refine⟨z.toNat,by omega,?_⟩
  rw[Int.toNat_of_nonneg b.1]
  simpa using h4
 refine⟨cs.map fun v=>match v with| .int _ z=>z.toNat|_=>0,by simp[hlen],?_,?_⟩
 ·intro x hx
  obtain⟨v,hv,rfl⟩:=List.mem_map.1 hx
  obtain⟨i,hi,rfl⟩:=List.getElem_of_mem hv
  obtain⟨z,hz,e⟩:=key i (by omega)
  rw[List.getElem?_eq_getElem hi]at e
  rw[Option.some.inj e]
  simpa using hz
 ·apply List.ext_getElem?
  intro i
  by_cases hi:i<n
  ·obtain⟨z,hz,e⟩:=key i hi
   rw[List.getElem?_map,List.getElem?_map,e]
   simp
  ·rw[List.getElem?_eq_none (by omega),List.getElem?_eq_none (by simp;omega)]
theorem cellsT16:Tryz.prog.cellsOf 26=16:=by kernel_rfl
theorem cellsT3:Tryz.prog.cellsOf 3=1:=by kernel_rfl
open Go.RowKit
def tkF (f:UInt8→Bool) (most:Nat) (acc l:List UInt8):List UInt8:=acc++(l.filter f).take (most - acc.length)
theorem tkF_full {f:UInt8→Bool} {most:Nat} {acc l:List UInt8} (h:most≤acc.length):tkF f most acc l=acc:=by
 unfold tkF
 rw[Nat.sub_eq_zero_of_le h,List.take_zero,List.append_nil]
theorem tkF_end {f:UInt8→Bool} {most:Nat} {acc:List UInt8}:tkF f most acc []=acc:=by
 unfold tkF
 simp
theorem tkF_yes {f:UInt8→Bool} {most:Nat} {acc l:List UInt8} {c:UInt8} (h:acc.length<most) (hc:f c=true):tkF f most acc (c::l)=tkF f most (acc++[c]) l:=by
 unfold tkF
 rw[List.filter_cons_of_pos hc,show most - acc.length=(most - (acc++[c]).length)+1 from by rw[List.length_append,List.length_singleton];omega,List.take_succ_cons,List.append_assoc]
 rfl
theorem tkF_no {f:UInt8→Bool} {most:Nat} {acc l:List UInt8} {c:UInt8} (hc:¬f c=true):tkF f most acc (c::l)=tkF f most acc l:=by
 unfold tkF
 rw[List.filter_cons_of_neg hc]
theorem sh_iff (c:UInt8):shB c=true↔32≤c.toNat∧c.toNat≤126:=by
 unfold shB
 simp
set_option maxHeartbeats 4000000 in
set_option maxRecDepth 100000 in
theorem shownl_any (s:ByteArray) (hs:s.size≤140737488355328) (most:Nat) (hm:most≤1000) (w:World):
  Calls Tryz.prog 25 #[.string s,.int .i64 (most:Int)] w fun e w'=>e=.returned (.string (txt (shwn s.data.toList most)))∧Below w.heap.size w w':=by
 obtain⟨X,hX⟩:∃X,X=shwn s.data.toList most:=⟨_,rfl⟩
 rw[←hX]
 have HX0:Hid (X=tkF shB most [] (s.data.toList.drop 0)):=hX
 clear hX
 go_enter Tryz.func25,Tryz.ntmps25
 go_wp2_with fail
 go_loopw [5,6] (fun u c wr=>∃(i:Nat) (acc:List UInt8),i≤s.size∧c=.int .i64 i∧acc.length≤i∧Hid (wr.ownsRow w.heap.size 5 1 u acc.length (cellsB acc))∧Hid (Below w.heap.size w wr)∧Hid (X=tkF shB most acc (s.data.toList.drop i))) (fun _ c _=>s.size - (intOf c).toNat)
 case atStart=>exact⟨0,[],Nat.zero_le _,by go_num,Nat.zero_le _,⟨rfl,.inr ⟨w.heap.size,0,#[],rfl,Nat.le_refl _,Lies.new w #[] 5,Nat.le_refl _,by unfold maxLen;omega,rfl,rfl⟩⟩,(Below.refl _ _).alloc (Nat.le_refl _) _,HX0⟩
 case round=>
  obtain⟨i,acc,hi,rfl,hacc,HO,HB,HX⟩:=hrel
  clear HX0
  obtain⟨sa,sc,hu,_⟩:=own_bts HO.out
  subst hu
  have hcv:(convert 47 9 (.slice sa acc.length sc)).run Tryz.prog wr=.ok (.string (txt acc)) wr:=conv_own HO.out
  by_cases hlt:i<s.size
  ·have hlt':(i:Int)<(s.size:Int):=by omega
   have HD:Hid (s.data.toList.drop i=s[i]::s.data.toList.drop (i+1)):=drop_at s i hlt
   by_cases hmo:acc.length<most
   ·have hmo':(acc.length:Int)<(most:Int):=by omega
    have hc8:=s[i].toNat_lt
    by_cases h1:32≤s[i].toNat
    ·have h1':(32:Int)≤(s[i].toNat:Int):=by omega
     by_cases h2:s[i].toNat≤126
     ·have h2':(s[i].toNat:Int)≤126:=by omega
      have HXX:Hid (X=tkF shB most (acc++[s[i]]) (s.data.toList.drop (i+1))):=by
       show _=_
       rw[HX.out,HD.out,tkF_yes hmo ((sh_iff _).2 ⟨h1,h2⟩)]
      clear HX HD hcv
      go_wp2_with (at_builtin;refine wpList_append_byte rfl _ _ rfl w.heap.size (.slice sa acc.length sc) acc.length acc rfl (HO.out.alloc _) wr s[i] _ rfl rfl 1 rfl (by omega) HB.out.size ?_;intro v3 w3 hown3 hbel3)
      have HB3:Hid (Below w.heap.size w w3):=hbel3 _ _ HB.out (Nat.le_refl _)
      have HO3:Hid (w3.ownsRow w.heap.size 5 1 v3 (acc++[s[i]]).length (cellsB (acc++[s[i]]))):=by
       show World.ownsRow _ _ _ _ _ _ _
       rw[List.length_append,List.length_singleton]
       exact hown3
      clear hown3 hbel3 HO HB
      go_wp2_with fail
      go_roundw
      case rel=>exact⟨i+1,acc++[s[i]],hlt,by go_num,by simp only[List.length_append,List.length_singleton];omega,HO3,HB3,HXX⟩
      case measure=>simp[intOf];omega
     ·have h2':¬(s[i].toNat:Int)≤126:=by omega
      have HXX:Hid (X=tkF shB most acc (s.data.toList.drop (i+1))):=by
       show _=_
       rw[HX.out,HD.out,tkF_no (fun h=>h2 ((sh_iff _).1 h).2)]
      clear HX HD hcv
      go_wp2_with fail
      go_roundw
      case rel=>exact⟨i+1,acc,hlt,by go_num,by omega,HO,HB,HXX⟩
      case measure=>simp[intOf];omega
    ·have h1':¬(32:Int)≤(s[i].toNat:Int):=by omega
     have HXX:Hid (X=tkF shB most acc (s.data.toList.drop (i+1))):=by
      show _=_
      rw[HX.out,HD.out,tkF_no (fun h=>h1 ((sh_iff _).1 h).1)]
     clear HX HD hcv
     go_wp2_with fail
     go_roundw
     case rel=>exact⟨i+1,acc,hlt,by go_num,by omega,HO,HB,HXX⟩
     case measure=>simp[intOf];omega
   ·have hmo':¬(acc.length:Int)<(most:Int):=by omega
    have HXX:Hid (X=acc):=by
     show _=_
     rw[HX.out,tkF_full (by omega)]
    clear HX HD
    go_wp2_with fail
    go_ret
    exact⟨by rw[HXX.out];rfl,HB.out⟩
  ·have hlt':¬(i:Int)<(s.size:Int):=by omega
   have HXX:Hid (X=acc):=by
    show _=_
    rw[HX.out,List.drop_of_length_le (by rw[Array.length_toList];show s.size≤i;omega),tkF_end]
   clear HX
   go_wp2_with fail
   go_ret
   exact⟨by rw[HXX.out];rfl,HB.out⟩
end Go.Proofs.YtfjpkfhbmldmfabGreatDoor
