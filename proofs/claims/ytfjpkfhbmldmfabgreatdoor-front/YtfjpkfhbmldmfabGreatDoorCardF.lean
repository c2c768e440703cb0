/-
  The program's functions of paths, as the statements ask them.
-/
import Derived.Test.YtfjpkfhbmldmfabGreatDoorYb9
import Derived.Test.YtfjpkfhbmldmfabGreatDoorXu9
import Derived.Test.YtfjpkfhbmldmfabGreatDoorPtA
import Derived.Test.YtfjpkfhbmldmfabGreatDoorXr9
import Derived.Test.YtfjpkfhbmldmfabGreatDoorRows
import Derived.Test.YtfjpkfhbmldmfabGreatDoorCards
import Derived.Test.YtfjpkfhbmldmfabGreatDoorTie
import Derived.ProofKit
import Derived.OpenShut
import Derived.Lib.LaidTab
import Derived.LaidLaws
import Derived.Deep.DeepHandedRow
import Derived.ShutString
import Derived.SizedLaws
import Derived.ChangeOld
import Derived.Shelf.Vars
namespace Go.Proofs.YtfjpkfhbmldmfabGreatDoor
open Go.RowKit
def PA (p:Pt) (V:Array Value) (w:World):Prop:=∃sp c,V=pthC p.k (.slice sp p.r.length c) p.l p.h∧RtM w sp p.r
theorem PA.below {p:Pt} {V:Array Value} {w w':World} (h:PA p V w) (hb:Below w.heap.size w w'):PA p V w':=by
 obtain⟨sp,c,e,hr⟩:=h
 exact⟨sp,c,e,hr.below hb⟩
theorem PA.size {p:Pt} {V:Array Value} {w:World} (h:PA p V w) (ha:p.h.a.length=16):V.size=21:=by
 obtain⟨sp,c,rfl,_⟩:=h
 exact pthC_size _ _ _ _ ha
theorem PA.one {p:Pt} {V:Array Value} {w:World} (h:PA p V w):V.all (·.oneCell')=true:=by
 obtain⟨sp,c,rfl,_⟩:=h
 exact pthC_one9 _ _ _ _ rfl
structure Pt.In (p:Pt):Prop where
 ok:p.Ok
 few:p.r.length≤1000
 nms:∀x∈p.r,x.n.length≤1000
 nm:p.h.n.length≤1000
 loc:p.l.length≤1000
theorem wrL_le (l:List UInt8):l.length≤(wrL l).length:=by
 unfold wrL
 split
 ·exact Nat.le_refl _
 ·have:=escL_le l
  simp only[List.length_cons,List.length_append,List.length_nil]
  omega
theorem ckP_in {p:Pt} {wide:Bool} (ok:p.Ok) (hc:ckP p wide=0):p.In:=by
 obtain⟨k,r,l,h⟩:=p
 rcases ckP_ok3 hc with⟨rfl,rfl,rfl⟩|⟨h1,h2⟩
 ·exact⟨ok,by simp,fun x hx=>(by cases hx),(show ho0.n.length≤1000 by decide),by simp⟩
 ·obtain⟨t1,t2,t3⟩:=ckT_zero h1
  obtain⟨m1,m2⟩:=ckM_zero h2
  have q1:=(ckL_is m1).2.1
  have q2:=wrL_le l
  exact⟨ok,by show r.length≤1000;omega,fun x hx=>Nat.le_trans (check_len (t3 x hx)) (by omega),Nat.le_trans (check_len m2) (by omega),by show l.length≤1000;omega⟩
theorem ho0_in (k:Int):(⟨k,[],[],ho0⟩:Pt).In:=⟨⟨fun x hx=>(by cases hx),ho0_Ok⟩,by simp,fun x hx=>(by cases hx),(show ho0.n.length≤1000 by decide),by simp⟩
def pv:Except (Nat×Nat) (Pt×Nat)→Pt×Nat×Nat×Nat
 | .error (e,a)=>(⟨0,[],[],ho0⟩,0,e,a)
 | .ok (p,n)=>(p,n,0,0)
def PvV (w:World) (x:Pt×Nat×Nat×Nat) (e:Ending) (w':World):Prop:=
 ∃V,e=.returned (.tuple #[.agg V,.int .i64 (x.2.1:Nat),.agg #[.int .i64 (x.2.2.1:Nat),.int .i64 (x.2.2.2:Nat)]])∧PA x.1 V w'∧Below w.heap.size w w'
theorem pthC_zero9:pthC 0 (.slice none 0 0) [] ho0=#[.int .i64 0,.slice none 0 0,.string ⟨#[]⟩,.int .i64 0,.string ⟨#[]⟩,.int .u8 0,.int .u8 0,.int .u8 0,.int .u8 0,.int .u8 0,.int .u8 0,.int .u8 0,.int .u8 0,.int .u8 0,.int .u8 0,.int .u8 0,.int .u8 0,.int .u8 0,.int .u8 0,.int .u8 0,.int .u8 0]:=pthC_none9 0
theorem PA_zero (w:World):PA ⟨0,[],[],ho0⟩ #[.int .i64 0,.slice none 0 0,.string ⟨#[]⟩,.int .i64 0,.string ⟨#[]⟩,.int .u8 0,.int .u8 0,.int .u8 0,.int .u8 0,.int .u8 0,.int .u8 0,.int .u8 0,.int .u8 0,.int .u8 0,.int .u8 0,.int .u8 0,.int .u8 0,.int .u8 0,.int .u8 0,.int .u8 0,.int .u8 0] w:=
 ⟨none,0,pthC_zero9.symm,.inl rfl⟩
theorem pv_of {w:World} {wide back:Bool} {s:List UInt8} {v:Value} {w':World} (h:PtV w (pth wide back s) v w') (hb:Below w.heap.size w w'):PvV w (pv (pth wide back s)) (.returned v) w':=by
 cases hq:pth wide back s with
 |error x=>
  obtain⟨e,a⟩:=x
  rw[hq]at h
  unfold PtV at h
  dsimp only at h
  subst h
  exact⟨_,rfl,PA_zero _,hb⟩
 |ok x=>
  obtain⟨p,n⟩:=x
  rw[hq]at h
  obtain⟨sl,rfl,ho⟩:=h
  obtain⟨sp,c,rfl,hm⟩:=RtM.ofOwn ho (fun x hx=>((pth_ck hq).1.1 x hx).len)
  exact⟨_,rfl,⟨sp,c,rfl,hm⟩,hb⟩
theorem fwd_pv (s:ByteArray) (hs:s.size≤140737488355328) (wide:Bool) (w:World) (hT:Td w) (h10:10≤w.heap.size):
  Calls Tryz.prog 8 #[.string s,.bool wide] w (PvV w (pv (pth wide false s.data.toList))):=by
 refine(fwd_any s hs wide w hT h10).mono ?_
 rintro e w' ⟨v,rfl,hv,hb⟩
 exact pv_of hv hb
theorem pv_in (wide back:Bool) (s:List UInt8):(pv (pth wide back s)).1.In:=by
 cases hq:pth wide back s with
 |error x=>exact ho0_in 0
 |ok x=>exact ckP_in (pth_ck hq).1 (pth_ck hq).2
theorem pv_zero {wide back:Bool} {s:List UInt8} (h:(pv (pth wide back s)).2.2.1=0):∃p n,pth wide back s=.ok (p,n)∧pv (pth wide back s)=(p,n,0,0):=by
 cases hq:pth wide back s with
 |error x=>
  rw[hq]at h
  exact absurd h (pth_err hq).1
 |ok x=>exact⟨x.1,x.2,rfl,rfl⟩
theorem pv_fault {wide back:Bool} {s:List UInt8} (h:(pv (pth wide back s)).2.2.1≠0):∃e a,pth wide back s=.error (e,a)∧pv (pth wide back s)=(⟨0,[],[],ho0⟩,0,e,a)∧e≠0:=by
 cases hq:pth wide back s with
 |error x=>exact⟨x.1,x.2,rfl,rfl,(pth_err hq).1⟩
 |ok x=>
  rw[hq]at h
  exact absurd rfl h
theorem same_pa {p:Pt} (h:p.In) {V V1:Array Value} {w:World} (hV:PA p V w) (hV1:PA p V1 w):
  Calls Tryz.prog 9 #[.agg V,.agg V1] w fun e w'=>e=.returned (.bool true)∧Below w.heap.size w w':=by
 obtain⟨sp,c,rfl,hr⟩:=hV
 obtain⟨sp1,c1,rfl,hr1⟩:=hV1
 have:=h.few
 exact lsame_eq p.k sp sp1 c c1 p.r p.l p.h w hr hr1 (by unfold maxLen;omega) (fun x hx=>(h.ok.1 x hx).len) h.ok.2.len
open Go.ChangeShapes Go.WideShapes Go.ChangeAt Go.RowKit
theorem gCl:Tryz.prog.globalNamed "posthorn/octet.classes"=some 0:=by kernel_rfl
theorem tCl:(Tryz.prog.globals[(0:Nat)]?).map (·.type)=some 103:=by kernel_rfl
theorem cellsStr:Tryz.prog.cellsOf 9=1:=by kernel_rfl
theorem gFs:Tryz.prog.globalNamed "posthorn/runes.firsts"=some 1:=by kernel_rfl
theorem tFs:(Tryz.prog.globals[(1:Nat)]?).map (·.type)=some 146:=by kernel_rfl
theorem cellsF:Tryz.prog.cellsOf 145=5:=by kernel_rfl
theorem cellsFs:Tryz.prog.cellsOf 146=40:=by kernel_rfl
theorem laid_rows:(Rows.laid_posthorn_octet_classes:DataW Unit)=.agg (classRows.map fun l=>.lit (.string l)):=rfl
theorem laid_fst:(Rows.laid_posthorn_runes_firsts:DataW Unit)=.agg (fsRows.map fun r=>.agg (r.map fun x=>.lit (.int .u8 x))):=rfl
theorem table_of_trod {enc:TypeId×Value→Unit} {W:World} {base:Nat} {sp:Nat→Bool} {held:Bool} {cs:Array Value} {fuel:Nat} {p:List MemPlace}
  (hv:W.var? Tryz.prog "posthorn/octet.classes"=some cs)
  (hd:DataW.trod enc Tryz.prog W base sp held fuel 103 cs.toList=some (Rows.laid_posthorn_octet_classes,p)):Table W:=by
 obtain⟨xs,m,_,hx,hlen,hn,hel⟩:=DataW.trod_array Tryz.underlying103 hd
 rw[laid_rows]at hx
 simp only[Prod.mk.injEq,DataW.agg.injEq]at hx
 obtain⟨hx, -⟩:=hx
 intro c hc
 have h1:=hel c hc
 have hxc:c<xs.length:=by omega
 rw[List.getElem?_eq_getElem hxc]at h1
 obtain⟨s,e1,e2,_⟩:=DataW.trod_string Tryz.underlying9 h1
 have h2:=congrArg (fun l=>l[c]?) hx
 simp only[List.getElem?_map,List.getElem?_eq_getElem hxc,Option.map_some,e2]at h2
 have hcl:c<classRows.length:=hc
 rw[List.getElem?_eq_getElem hcl]at h2
 simp only[Option.map_some,Option.some.injEq,DataW.lit.injEq,Lit.string.injEq]at h2
 have h3:=World.var?_cell gCl hv c
 rw[h3]
 rw[cellsStr,Nat.mul_one]at e1
 have h4:=congrArg (fun l=>l[0]?) e1
 simp only[List.getElem?_take,List.getElem?_drop]at h4
 have h5:cs[c]?=some (.string s):=by simpa using h4
 rw[h5]
 have h6:classRows.getD c []=s.data.toList:=by
  rw[List.getD_eq_getElem?_getD,List.getElem?_eq_getElem hcl,Option.getD_some,h2]
 rw[h6]
theorem fst_of_trod {enc:TypeId×Value→Unit} {W:World} {base:Nat} {sp:Nat→Bool} {held:Bool} {cs:Array Value} {fuel:Nat} {p:List MemPlace}
  (hv:W.var? Tryz.prog "posthorn/runes.firsts"=some cs)
  (hd:DataW.trod enc Tryz.prog W base sp held fuel 146 cs.toList=some (Rows.laid_posthorn_runes_firsts,p)):Fst W:=by
 obtain⟨xs,m,_,hx,hlen,hn,hel⟩:=DataW.trod_array Tryz.underlying146 hd
 rw[laid_fst]at hx
 simp only[Prod.mk.injEq,DataW.agg.injEq]at hx
 obtain⟨hx, -⟩:=hx
 have key:∀c,c<8→∀i,i<5→cs[c*5+i]?=some (.int .u8 (fsAt c i)):=by
  intro c hc i hi
  have h1:=hel c hc
  have hxc:c<xs.length:=by omega
  rw[List.getElem?_eq_getElem hxc,cellsF]at h1
  obtain⟨ys,n,_,hy,hl,hyl,hf⟩:=DataW.trod_struct Tryz.underlying145 h1
  have hrow:c<fsRows.length:=hc
  have e1:=congrArg (fun l=>l[c]?) hx
  simp only[List.getElem?_map,List.getElem?_eq_getElem hxc,List.getElem?_eq_getElem hrow,Option.map_some,Option.some.injEq,hy,DataW.agg.injEq]at e1
  have hr5:(fsRows[c]).length=5:=by
   have:∀k:Fin 8,(fsRows[k.val]'k.isLt).length=5:=by decide
   exact this ⟨c,hc⟩
  have hyi:i<ys.length:=by
   have:=congrArg List.length e1
   simp only[List.length_map,hr5]at this
   omega
  have e2:=congrArg (fun l=>l[i]?) e1
  simp only[List.getElem?_map,List.getElem?_eq_getElem hyi,List.getElem?_eq_getElem (show i<(fsRows[c]).length by omega),Option.map_some,Option.some.injEq]at e2
  have hat:fsAt c i=(fsRows[c])[i]'(by omega):=by
   unfold fsAt
   simp[List.getD_eq_getElem?_getD,List.getElem?_eq_getElem hrow,List.getElem?_eq_getElem (show i<(fsRows[c]).length by omega)]
  have go:∀(f:Field),f.type=5→f.offset=i→DataW.trod enc Tryz.prog W base sp held n f.type (((List.take 5 (List.drop (c*5) cs.toList)).drop f.offset).take (Tryz.prog.cellsOf f.type))=ys[i]?→cs[c*5+i]?=some (.int .u8 (fsAt c i)):=by
   intro f ft fo h
   rw[ft,fo,cells5,List.getElem?_eq_getElem hyi]at h
   obtain⟨z,e3,e4,_⟩:=DataW.trod_int Tryz.underlying5 h
   rw[e4]at e2
   simp only[DataW.lit.injEq,Lit.int.injEq,true_and]at e2
   have h4:=congrArg (fun l=>l[0]?) e3
   simp only[List.getElem?_take,List.getElem?_drop]at h4
   rw[hat,e2]
   simpa [show i<5 from hi] using h4
  have hcase:i=0∨i=1∨i=2∨i=3∨i=4:=by omega
  rcases hcase with rfl|rfl|rfl|rfl|rfl
  ·exact go _ rfl rfl (hf 0 _ rfl)
  ·exact go _ rfl rfl (hf 1 _ rfl)
  ·exact go _ rfl rfl (hf 2 _ rfl)
  ·exact go _ rfl rfl (hf 3 _ rfl)
  ·exact go _ rfl rfl (hf 4 _ rfl)
 have hsz:cs.size=40:=by
  have:=hlen
  rw[cellsFs]at this
  simpa using this
 have hcs:cs=fsCells:=by
  apply Array.ext_getElem?
  intro j
  by_cases hj:j<40
  ·have:=key (j / 5) (by omega) (j % 5) (by omega)
   rw[show j / 5*5+j % 5=j from by omega]at this
   rw[this]
   have h:∀k:Fin 40,fsCells[k.val]?=some (.int .u8 (fsAt (k.val / 5) (k.val % 5))):=by
    intro k
    have:∀k:Fin 40,(fsRows.flatten)[k.val]?=some (fsAt (k.val / 5) (k.val % 5)):=by decide
    unfold fsCells
    rw[List.getElem?_toArray,List.getElem?_map,this k]
    rfl
   exact(h ⟨j,hj⟩).symm
  ·have h40:fsCells.size=40:=by decide
   rw[Array.getElem?_eq_none (by omega),Array.getElem?_eq_none (by omega)]
 unfold World.var? at hv
 rw[gFs]at hv
 simp only[Option.bind_some]at hv
 split at hv
 ·rename_i c t fr hh
  injection hv with hv
  rw[hv,hcs]at hh
  exact⟨t,fr,hh⟩
 ·cases hv
theorem own:ownKnob Tryz.prog.godebug=none:=by kernel_rfl
theorem laidOut:laidOutB Tryz.prog=true:=by kernel_rfl
theorem cell_lt {w:World} {g k:Nat} {v:Value} (h:w.cell? ⟨g,k,none⟩=some v):g<w.heap.size:=by
 rcases Nat.lt_or_ge g w.heap.size with h'|h'
 ·exact h'
 ·simp[World.cell?,Array.getElem?_eq_none h']at h
theorem tPow:(Tryz.prog.globals[(5:Nat)]?).map (·.type)=some 191:=by kernel_rfl
theorem cellsPow:Tryz.prog.cellsOf 191=20:=by kernel_rfl
theorem cellsU64:Tryz.prog.cellsOf 53=1:=by kernel_rfl
theorem laid_pow:(Rows.laid_internal_strconv_uint64pow10:DataW Unit)=Lib.tabData .u64 Lib.pow10Tab:=by kernel_rfl
theorem gT64:Tryz.prog.globalNamed "math/bits.deBruijn64tab"=some 7:=by kernel_rfl
theorem tT64:(Tryz.prog.globals[(7:Nat)]?).map (·.type)=some 213:=by kernel_rfl
theorem gES:Tryz.prog.globalNamed "strconv.ErrSyntax"=some 8:=by kernel_rfl
theorem tES:(Tryz.prog.globals[(8:Nat)]?).map (·.type)=some 113:=by kernel_rfl
set_option maxRecDepth 100000 in
theorem t64_15:∃l:List (DataW Unit),(Rows.laid_math_bits_deBruijn64tab:DataW Unit)=.agg l∧l[15]?=some (.lit (.int .u8 4)):=⟨_,rfl,rfl⟩
set_option maxRecDepth 100000 in
theorem t64_of_trod {enc:TypeId×Value→Unit} {W:World} {base:Nat} {sp:Nat→Bool} {held:Bool} {cs:Array Value} {fuel:Nat} {p:List MemPlace}
  (hv:W.var? Tryz.prog "math/bits.deBruijn64tab"=some cs)
  (hd:DataW.trod enc Tryz.prog W base sp held fuel 213 cs.toList=some (Rows.laid_math_bits_deBruijn64tab,p)):W.cell? ⟨7,15,none⟩=some (.int .u8 4):=by
 obtain⟨xs,m,_,hx,hlen,hn,hel⟩:=DataW.trod_array Tryz.underlying213 hd
 obtain⟨l,hl,h15⟩:=t64_15
 rw[hl]at hx
 simp only[Prod.mk.injEq,DataW.agg.injEq]at hx
 obtain⟨rfl, -⟩:=hx
 have h1:=hel 15 (by omega)
 have hxc:15<xs.length:=by omega
 rw[List.getElem?_eq_getElem hxc,cells5]at h1
 obtain⟨z,e1,e2,_⟩:=DataW.trod_int Tryz.underlying5 h1
 simp only[List.getElem?_map,List.getElem?_eq_getElem hxc,Option.map_some,e2,Option.some.injEq,DataW.lit.injEq,Lit.int.injEq,true_and]at h15
 subst h15
 have h3:=World.var?_cell gT64 hv 15
 rw[h3]
 have h4:=congrArg (fun l=>l[0]?) e1
 simp only[List.getElem?_take,List.getElem?_drop]at h4
 simpa using h4
theorem es_of_trod {enc:TypeId×Value→Unit} {W:World} {base:Nat} {sp:Nat→Bool} {cs:Array Value} {fuel:Nat} {p:List MemPlace}
  (hv:W.var? Tryz.prog "strconv.ErrSyntax"=some cs)
  (hd:DataW.trod enc Tryz.prog W base sp false fuel 113 cs.toList=some (Rows.laid_strconv_ErrSyntax,p)):∃te pe,W.cell? ⟨8,0,none⟩=some (.iface te pe):=by
 obtain⟨_,u,v,e,_,_⟩:=iface_of_trod Tryz.underlying113 hd
 have h3:=World.var?_cell gES hv 0
 refine⟨u,v,?_⟩
 rw[h3]
 have h4:=congrArg (fun l=>l[0]?) e
 simpa using h4
theorem ml_of {W:World} (h:W.ShapedOpen Tryz.prog):∃m,W.cell? ⟨2,0,none⟩=some (.int .i64 m):=
 cell_of_shapedOpen_int (t:=3) (zero:=#[.int .i64 0]) h (of_decide_eq_true (by kernel_rfl)) (by kernel_rfl) rfl (by kernel_rfl) (by kernel_rfl) Tryz.underlying3
theorem gER:Tryz.prog.globalNamed "strconv.ErrRange"=some 9:=by kernel_rfl
theorem ten_of {W:World} {cs:Array Value} (hv:W.var? Tryz.prog "strconv.ErrRange"=some cs):10≤W.heap.size:=by
 unfold World.var? at hv
 rw[gER]at hv
 simp only[Option.bind_some]at hv
 split at hv
 ·rename_i c t fr hh
  exact(Array.getElem?_eq_some_iff.1 hh).1
 ·cases hv
theorem tabs9_of {W:World} (h:laidMet Tryz.prog [("math/bits.deBruijn32tab",Rows.laid_math_bits_deBruijn32tab),("math/bits.deBruijn64tab",Rows.laid_math_bits_deBruijn64tab),("internal/strconv.uint64pow10",Rows.laid_internal_strconv_uint64pow10),("unicode/utf8.acceptRanges",Rows.laid_unicode_utf8_acceptRanges),("strconv.ErrRange",Rows.laid_strconv_ErrRange),("strconv.ErrSyntax",Rows.laid_strconv_ErrSyntax),("posthorn/octet.classes",Rows.laid_posthorn_octet_classes),("posthorn/runes.firsts",Rows.laid_posthorn_runes_firsts),("unicode/utf8.first",Rows.laid_unicode_utf8_first)] W) (hsh:W.ShapedOpen Tryz.prog):Td W∧10≤W.heap.size:=by
 obtain⟨ps,⟨g0,t0,cs0,fuel0,p0,q0,hg0,ht0,hv0,hd0,⟨g1,t1,cs1,fuel1,p1,q1,hg1,ht1,hv1,hd1,⟨g2,t2,cs2,fuel2,p2,q2,hg2,ht2,hv2,hd2,⟨g3,t3,cs3,fuel3,p3,q3,hg3,ht3,hv3,hd3,⟨g4,t4,cs4,fuel4,p4,q4,hg4,ht4,hv4,hd4,⟨g5,t5,cs5,fuel5,p5,q5,hg5,ht5,hv5,hd5,⟨g6,t6,cs6,fuel6,p6,q6,hg6,ht6,hv6,hd6,⟨g7,t7,cs7,fuel7,p7,q7,hg7,ht7,hv7,hd7,⟨g8,t8,cs8,fuel8,p8,q8,hg8,ht8,hv8,hd8,_,_⟩,_⟩,_⟩,_⟩,_⟩,_⟩,_⟩,_⟩,_⟩,_⟩:=h
 obtain rfl:=Option.some.inj (gCl.symm.trans hg6)
 obtain rfl:=Option.some.inj (tCl.symm.trans ht6)
 obtain rfl:=Option.some.inj (gFs.symm.trans hg7)
 obtain rfl:=Option.some.inj (tFs.symm.trans ht7)
 obtain rfl:=Option.some.inj (gPow.symm.trans hg2)
 obtain rfl:=Option.some.inj (tPow.symm.trans ht2)
 obtain rfl:=Option.some.inj (gT64.symm.trans hg1)
 obtain rfl:=Option.some.inj (tT64.symm.trans ht1)
 obtain rfl:=Option.some.inj (gES.symm.trans hg5)
 obtain rfl:=Option.some.inj (tES.symm.trans ht5)
 have h1:=table_of_trod hv6 hd6
 refine⟨?_,ten_of hv4⟩
 refine⟨⟨h1,cell_lt (h1 0 (by omega)),fst_of_trod hv7 hd7,es_of_trod hv5 hd5,t64_of_trod hv1 hd1⟩,?_,ml_of hsh⟩
 rw[laid_pow]at hd2
 unfold PowTab Lib.TabIs
 rw[hv2,←Lib.cells_of_tab Tryz.underlying191 Tryz.underlying53 cellsU64 cellsPow hd2]
def litC:DataW Unit→List Value
 | .lit (.int k z)=>[Value.int k z]
 | .lit (.string b)=>[Value.string ⟨b.toArray⟩]
 |_=>[]
def rowC:DataW Unit→List Value
 | .agg l=>l.flatMap litC
 |d=>litC d
def datCells:DataW Unit→Array Value
 | .agg l=>(l.flatMap rowC).toArray
 |_=>#[]
def layCells (d:DataW Unit):Obj→Obj
 | .cells _ t frozen=>.cells (datCells d) t frozen
 |o=>o
abbrev rangeS:ByteArray:=⟨#[118,97,108,117,101,32,111,117,116,32,111,102,32,114,97,110,103,101]⟩
abbrev synS:ByteArray:=⟨#[105,110,118,97,108,105,100,32,115,121,110,116,97,120]⟩
noncomputable def low9:Nat:=(World.holding Tryz.prog default ⟨#[],#[],[]⟩).heap.size
def layPtr (b:Nat):Obj→Obj
 | .cells _ t frozen=>.cells #[.iface 235 (.pointer (some ⟨b,0,none⟩))] t frozen
 |o=>o
noncomputable def laidWorld9 (os:Os):World:=
 {World.holding Tryz.prog os ⟨#[.cells #[.string rangeS] 237,.cells #[.string synS] 237],#[],[]⟩ with heap:=((((((((((World.holding Tryz.prog os ⟨#[.cells #[.string rangeS] 237,.cells #[.string synS] 237],#[],[]⟩).heap.modify 6 (layCells Rows.laid_math_bits_deBruijn32tab)).modify 7 (layCells Rows.laid_math_bits_deBruijn64tab)).modify 5 (layCells Rows.laid_internal_strconv_uint64pow10)).modify 4 (layCells Rows.laid_unicode_utf8_acceptRanges)).modify 9 (layPtr (low9))).modify 8 (layPtr (low9+1))).modify 0 (layCells Rows.laid_posthorn_octet_classes)).modify 1 (layCells Rows.laid_posthorn_runes_firsts)).modify 3 (layCells Rows.laid_unicode_utf8_first))}
theorem cellsT3:Tryz.prog.cellsOf 3=1:=by kernel_rfl
open Go.ChangeShapes Go.WideShapes Go.ChangeAt Go.RowKit
theorem cellsB4:Tryz.prog.cellsOf 4=1:=by kernel_rfl
set_option maxRecDepth 100000 in
theorem open_front {H:Type} {enc:TypeId×Value→H} {W:World} {r:Reach} {b0:Nat} {v:Value} {d:DataW H} {ps:List MemPlace} (hv:Value.okWide Tryz.prog W r b0 23 v) (h:DataW.Trod enc Tryz.prog W 0 (fun _=>true) true 23 v d ps):
  ∃(S R:ByteArray) (wide:Bool) (cut:Int),v=.agg #[.string S,.string R,.bool wide,.int .i64 cut]∧(-9223372036854775808≤cut∧cut≤9223372036854775807)∧∃p q,d=.agg [.lit (.string S.data.toList),.lit (.string R.data.toList),p,q]:=by
 obtain⟨cs,rfl,hsz⟩:=okWide_struct Tryz.underlying23 hv
 have c4:Tryz.prog.cellsOf 23=4:=by kernel_rfl
 rw[c4]at hsz
 obtain⟨fuel,hf⟩:=h
 obtain⟨ys,n,_,hx,hl,hyl,hfd⟩:=DataW.trod_struct Tryz.underlying23 hf
 have hy4:ys.length=4:=hyl
 obtain⟨y0,y1,y2,y3,rfl⟩:∃a b c d,ys=[a,b,c,d]:=by
  match ys,hy4 with
  |[a,b,c,d],_=>exact⟨a,b,c,d,rfl⟩
 have g0:_=some y0:=hfd 0 _ rfl
 have g1:_=some y1:=hfd 1 _ rfl
 have g2:_=some y2:=hfd 2 _ rfl
 have g3:_=some y3:=hfd 3 _ rfl
 obtain⟨s0,a0,d0,_⟩:=DataW.trod_string Tryz.underlying9 g0
 obtain⟨s1,a1,d1,_⟩:=DataW.trod_string Tryz.underlying9 g1
 obtain⟨b2,a2,d2⟩:=DataW.trod_bool Tryz.underlying4 g2
 obtain⟨z3,a3,_,w3⟩:=DataW.trod_int Tryz.underlying3 g3
 have e0:cs[0]?=some (.string s0):=by
  have r0:=congrArg (fun l=>l[0]?) a0
  simp only[List.getElem?_take,List.getElem?_drop]at r0
  simpa [Value.cells,cellsStr] using r0
 have e1:cs[1]?=some (.string s1):=by
  have r0:=congrArg (fun l=>l[0]?) a1
  simp only[List.getElem?_take,List.getElem?_drop]at r0
  simpa [Value.cells,cellsStr] using r0
 have e2:cs[2]?=some (.bool b2):=by
  have r0:=congrArg (fun l=>l[0]?) a2
  simp only[List.getElem?_take,List.getElem?_drop]at r0
  simpa [Value.cells,cellsB4] using r0
 have e3:cs[3]?=some (.int .i64 z3):=by
  have r0:=congrArg (fun l=>l[0]?) a3
  simp only[List.getElem?_take,List.getElem?_drop]at r0
  simpa [Value.cells,cellsT3] using r0
 refine⟨s0,s1,b2,z3,?_,bounds_i64 w3,y2.1,y3.1,?_⟩
 ·have hcs:cs=#[.string s0,.string s1,.bool b2,.int .i64 z3]:=by
   apply Array.ext_getElem?
   intro i
   match i with
   |0=>rw[e0];rfl
   |1=>rw[e1];rfl
   |2=>rw[e2];rfl
   |3=>rw[e3];rfl
   |i+4=>rw[Array.getElem?_eq_none (by omega),Array.getElem?_eq_none (by simp)]
  rw[hcs]
 ·have hd:d=.agg [y0.1,y1.1,y2.1,y3.1]:=congrArg Prod.fst hx
  have q0:y0.1=.lit (.string s0.data.toList):=congrArg Prod.fst d0
  have q1:y1.1=.lit (.string s1.data.toList):=congrArg Prod.fst d1
  rw[hd,q0,q1]
theorem front_size {H:Type} {ts:List TypeId} {ds:List (DataW H)} {d:DataW H} {S R:List UInt8} {j:Nat} (h:(DataW.weightsEach Tryz.prog ts ds).all (· ≤reachBytes)=true) (ht:ts[j]?=some 23) (hd:ds[j]?=some d) (e:∃p q,d=.agg [.lit (.string S),.lit (.string R),p,q]):S.length≤140737488351232∧R.length≤140737488351232:=by
 obtain⟨p,q,rfl⟩:=e
 have hm:∀(i:Nat) (x:List UInt8),([.lit (.string S),.lit (.string R),p,q]:List (DataW H))[i]?=some (.lit (.string x))→i<2→x.length∈(DataW.agg [.lit (.string S),.lit (.string R),p,q]).weights Tryz.prog 23:=fun i x hi h2=>by
  unfold DataW.weights
  rw[Tryz.underlying23]
  match i,h2 with
  |0,_=>exact DataW.weights_mem_each (j:=0) (t:=9) (d:=.lit (.string x)) rfl hi _ (by simp[DataW.weights])
  |1,_=>exact DataW.weights_mem_each (j:=1) (t:=9) (d:=.lit (.string x)) rfl hi _ (by simp[DataW.weights])
 have h0:=List.all_eq_true.1 h _ (DataW.weights_mem_each ht hd _ (hm 0 S rfl (by omega)))
 have h1:=List.all_eq_true.1 h _ (DataW.weights_mem_each ht hd _ (hm 1 R rfl (by omega)))
 simp only[reachBytes]at h0 h1
 exact⟨of_decide_eq_true h0,of_decide_eq_true h1⟩
end Go.Proofs.YtfjpkfhbmldmfabGreatDoor
