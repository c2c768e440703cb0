/-
  The contract of domain.asciiLabel.
-/
import Derived.Test.YtfjpkfhbmldmfaaGreatDoorNum
import Derived.Test.YtfjpkfhbmldmfaaGreatDoorMk
import Derived.Test.YtfjpkfhbmldmfaaGreatDoorPun
import Derived.Test.YtfjpkfhbmldmfaaGreatDoorRt8
import Derived.Test.YtfjpkfhbmldmfaaGreatDoorDecm8
import Derived.Lib.SplitLaws
namespace Go.Proofs.YtfjpkfhbmldmfaaGreatDoor
open Go.RowKit
structure Tc (w:World):Prop where
 tb:Tb w
 pow:PowTab w
 ml:∃m,w.cell? ⟨2,0,none⟩=some (.int .i64 m)
theorem Tc.below {w w':World} (h:Tc w) (hb:Below w.heap.size w w'):Tc w':=by
 obtain⟨m,hm⟩:=h.ml
 exact⟨h.tb.below hb,h.pow.below hb,m,(hb.cell (p:=⟨2,0,none⟩) (World.block_lt_of_cell? w _ hm)).trans hm⟩
open Go.RowKit
theorem splitD_B:∀s:List UInt8,splitD s=splitB 46 s
 |[]=>rfl
 |c::r=>by
  rw[splitD,splitB,splitD_B r]
  rfl
theorem rindex_none (d:UInt8):∀x:List UInt8,(∀c∈x,c≠d)→Lib.index x [d]= -1
 |[],_=>rfl
 |c::r,h=>by
  have hc:¬d=c:=fun e=>h c (by simp) e.symm
  rw[Lib.index,rindex_none d r fun x hx=>h x (by simp[hx])]
  simp[List.isPrefixOf,hc]
theorem index_at (d:UInt8):∀(x y:List UInt8),(∀c∈x,c≠d)→Lib.index (x++d::y) [d]=(x.length:Int)
 |[],y,_=>by
  rw[List.nil_append,Lib.index]
  simp[List.isPrefixOf]
 |c::r,y,h=>by
  have hc:¬d=c:=fun e=>h c (by simp) e.symm
  rw[List.cons_append,Lib.index,index_at d r y fun x hx=>h x (by simp[hx])]
  simp[List.isPrefixOf,hc]
theorem splitK_B (d:UInt8) (s:List UInt8):∀k,s.count d≤k→Lib.splitK [d] 0 k s=splitB d s:=by
 induction hn:s.length using Nat.strongRecOn generalizing s with
 |_ n ih=>
  intro k hk
  have hcases:(∀c∈s,c≠d)∨∃x y,(∀c∈x,c≠d)∧s=x++d::y:=by
   clear ih hn hk
   induction s with
   |nil=>exact Or.inl fun c hc=>by cases hc
   |cons c r ih=>
    by_cases hc:c=d
    ·exact Or.inr ⟨[],r,fun c hc=>(by cases hc),by rw[hc];rfl⟩
    ·rcases ih with h|⟨x,y,h,e⟩
     ·refine Or.inl fun b hb=>?_
      rcases List.mem_cons.1 hb with rfl|hb
      ·exact hc
      ·exact h b hb
     ·refine Or.inr ⟨c::x,y,fun b hb=>?_,by rw[e];rfl⟩
      rcases List.mem_cons.1 hb with rfl|hb
      ·exact hc
      ·exact h b hb
  rcases hcases with h0|⟨x,y,hx,rfl⟩
  ·rw[splitB_none d s h0]
   cases k with
   |zero=>rfl
   |succ k=>
    rw[Lib.splitK,rindex_none d s h0]
    rfl
  ·rw[splitB_at d x y hx]
   have hc:(x++d::y).count d=y.count d+1:=by
    rw[List.count_append,List.count_cons_self,List.count_eq_zero.2 fun hd=>hx d hd rfl,Nat.zero_add]
   rw[hc]at hk
   cases k with
   |zero=>omega
   |succ k=>
    rw[Lib.splitK,index_at d x y hx]
    have e1:((x.length:Int)== -1)=false:=by rw[beq_eq_false_iff_ne];omega
    rw[e1,if_neg (by decide),Int.toNat_natCast,Nat.add_zero,List.take_left,List.length_singleton,←List.drop_drop,List.drop_left]
    show x::Lib.splitK [d] 0 k y=_
    rw[ih y.length (by rw[←hn];simp;omega) y rfl k (by omega)]
theorem split_cells (s:ByteArray) (d:UInt8):((Lib.splitB ⟨#[d]⟩ 0 (Lib.countB s ⟨#[d]⟩) s).map Value.string).toArray=strsV (splitB d s.data.toList)∧Lib.countB s ⟨#[d]⟩+1=(splitB d s.data.toList).length:=by
 have hc:Lib.countB s ⟨#[d]⟩=s.data.toList.count d:=by
  show Lib.count s.data.toList [d]=_
  exact Lib.count_one d _
 have hd:=Lib.splitB_data ⟨#[d]⟩ 0 (Lib.countB s ⟨#[d]⟩) s
 have hd2:(Lib.splitB ⟨#[d]⟩ 0 (Lib.countB s ⟨#[d]⟩) s).map (·.data.toList)=splitB d s.data.toList:=by
  rw[hd]
  exact splitK_B d s.data.toList _ (by rw[hc];exact Nat.le_refl _)
 refine⟨?_,?_⟩
 ·unfold strsV
  rw[←hd2,List.map_map]
  congr 1
 ·rw[←hd2,List.length_map,Lib.splitB_all ⟨#[d]⟩ (show 1≤(⟨#[d]⟩:ByteArray).size from Nat.le_refl _) 0 _ s rfl]
theorem splitD_short (s:List UInt8):(∀l∈splitD s,l.length≤s.length)∧(splitD s).length≤s.length+1:=by
 induction hn:s.length using Nat.strongRecOn generalizing s with
 |_ n ih=>
  rcases split_cases s with h0|⟨x,y,hx,rfl⟩
  ·rw[splitD_none s h0]
   exact⟨fun l hl=>by rw[List.mem_singleton.1 hl];omega,by simp⟩
  ·rw[splitD_dot x y hx]
   have hl:(x++46::y).length=x.length+1+y.length:=by simp;omega
   obtain⟨h1,h2⟩:=ih y.length (by omega) y rfl
   refine⟨fun l hl'=>?_,by rw[List.length_cons];omega⟩
   rcases List.mem_cons.1 hl' with rfl|hl'
   ·omega
   ·have:=h1 l hl'
    omega
open Go.RowKit
theorem results_mixR {P:Program} {fn:Func} {p q:Tmp} {ty:TypeId} (h:fn.results=#[.cell p ty,.tmp q]) (tmps:Array Value) (w:World) (g:Nat) (cs:Array Value) (d:TypeDesc) (v:Value) (hp:tmps.getD p undef=.pointer (some ⟨g,0,none⟩)) (hq:tmps.getD q undef=v) (hg:Lies w g cs ty)
  (hu:P.underlying ty=some d) (ha:(match d with| .struct _| .array _ _=>true|_=>false)=true) (hz:(P.info? ty).map (·.size)=some cs.size):(results fn tmps).run P w=.ok (.tuple #[.agg cs,v]) w:=by
 have hp':tmps[p]?.getD undef=.pointer (some ⟨g,0,none⟩):=by simpa using hp
 have hq':tmps[q]?.getD undef=v:=by simpa using hq
 simp[results,h,hp',hq',asAddr,run_loadVar_row w g ty ty cs (0,0) d hg hu ha hz]
def w4V (s:List UInt8):Value:=.tuple #[.agg (bytesV ((whole4 s).getD [0,0,0,0])),.bool (whole4 s).isSome]
def Nms (L:List (List UInt8)) (ns:List Nat):Prop:=ns.length≤L.length∧∀j (h:j<ns.length) (h':j<L.length),dNum L[j]=some ns[j]∧ns[j]<256
theorem Nms.nil (L:List (List UInt8)):Nms L []:=⟨Nat.zero_le _,fun j h=>by simp at h⟩
theorem Nms.step {L:List (List UInt8)} {ns:List Nat} (h:Nms L ns) (hl:ns.length<L.length) {n:Nat} (hn:dNum L[ns.length]=some n):Nms L (ns++[n]):=by
 refine⟨by simp;omega,fun j hj hj'=>?_⟩
 rcases Nat.lt_or_ge j ns.length with h1|h1
 ·rw[List.getElem_append_left h1]
  exact h.2 j h1 hj'
 ·obtain rfl:j=ns.length:=by simp at hj;omega
  rw[List.getElem_append_right (Nat.le_refl _)]
  simp
  exact⟨hn,((dNum_iff _ _).1 hn).2⟩
theorem w4_len {s:List UInt8} (h:(splitB 46 s).length≠4):whole4 s=none:=by
 unfold whole4
 split
 ·rename_i p q r t e
  rw[e]at h
  exact absurd rfl h
 ·rfl
theorem w4_bad {s:List UInt8} {j:Nat} (hj:j<(splitB 46 s).length) (h4:(splitB 46 s).length=4) (h:dNum (splitB 46 s)[j]=none):whole4 s=none:=by
 unfold whole4
 generalize splitB 46 s=L at*
 match L,h4 with
 |[p,q,r,t],_=>
  dsimp only
  match j,hj with
  |0,_=>have h':dNum p=none:=h;rw[h']
  |1,_=>have h':dNum q=none:=h;rw[h'];cases dNum p<;>rfl
  |2,_=>have h':dNum r=none:=h;rw[h'];cases dNum p<;>cases dNum q<;>rfl
  |3,_=>have h':dNum t=none:=h;rw[h'];cases dNum p<;>cases dNum q<;>cases dNum r<;>rfl
  |j+4,hj=>exact absurd hj (by simp)
theorem w4_all {s:List UInt8} {ns:List Nat} (h4:(splitB 46 s).length=4) (hn:ns.length=4) (h:Nms (splitB 46 s) ns):whole4 s=some ns:=by
 unfold whole4
 generalize splitB 46 s=L at*
 match L,h4,ns,hn with
 |[p,q,r,t],_,[a,b,c,d],_=>
  dsimp only
  have h0:=(h.2 0 (by simp) (by simp)).1
  have h1:=(h.2 1 (by simp) (by simp)).1
  have h2:=(h.2 2 (by simp) (by simp)).1
  have h3:=(h.2 3 (by simp) (by simp)).1
  simp at h0 h1 h2 h3
  rw[h0,h1,h2,h3]
theorem pad_set (ns:List Nat) (n:Nat) (h:ns.length<4):(ns++List.replicate (4 - ns.length) 0).set ns.length n=(ns++[n])++List.replicate (4 - (ns++[n]).length) 0:=by
 rw[List.set_append_right _ _ (Nat.le_refl _),Nat.sub_self,show 4 - ns.length=(4 - (ns++[n]).length)+1 from by simp;omega,List.replicate_succ,List.set_cons_zero]
 simp
structure W4S (w:World) (L:List (List UInt8)) (ns:List Nat) (wr:World):Prop where
 r:Lies wr w.heap.size (bytesV [0,0,0,0]) 108
 a:Lies wr (w.heap.size+1) (bytesV (ns++List.replicate (4 - ns.length) 0)) 108
 l:Lies wr (w.heap.size+2) (strsV L) 9
 below:Below w.heap.size w wr
set_option maxHeartbeats 8000000 in
set_option maxRecDepth 100000 in
theorem rw4_any (s:ByteArray) (w:World) (hT:∃m,w.cell? ⟨2,0,none⟩=some (.int .i64 m)) (hs:s.size≤2000000):Calls Tryz.prog 163 #[.string s] w fun e w'=>e=.returned (w4V s.data.toList)∧Below w.heap.size w w':=by
 obtain⟨m,hm⟩:=hT
 have hgm:2<w.heap.size:=World.block_lt_of_cell? w _ hm
 obtain⟨L,hL⟩:∃L,L=splitB 46 s.data.toList:=⟨_,rfl⟩
 obtain⟨hsp1,hsp2⟩:=split_cells s 46
 rw[←hL]at hsp1 hsp2
 have hln:L.length≤s.size+1:=by
  have:=(splitD_short s.data.toList).2
  rw[splitD_B,←hL,len_list]at this
  exact this
 have hll:∀l∈L,l.length≤s.size:=by
  have:=(splitD_short s.data.toList).1
  rw[splitD_B,←hL,len_list]at this
  exact this
 have HSP:Hid (∀wx,Below w.heap.size w wx→Calls Tryz.prog 117 #[.string s,.string ⟨#[46]⟩] wx fun e w'=>e=.returned (.slice (some ⟨wx.heap.size,0,none⟩) L.length L.length)∧w'=wx.alloc (.cells (strsV L) 9)):=fun wx hx=>by
  have:=Tryz.strings_Split s ⟨#[46]⟩ m wx (by omega) ((hx.cell (p:=⟨2,0,none⟩) hgm).trans hm) (by decide)
  rw[hsp1,hsp2]at this
  exact this
 have HB0:Hid (Below w.heap.size w ((w.alloc (.cells (bytesV [0,0,0,0]) 108)).alloc (.cells (bytesV [0,0,0,0]) 108))):=((Below.refl _ _).alloc (Nat.le_refl _) _).alloc (by simp) _
 have H0:Hid (W4S w L [] (((w.alloc (.cells (bytesV [0,0,0,0]) 108)).alloc (.cells (bytesV [0,0,0,0]) 108)).alloc (.cells (strsV L) 9))):=
  ⟨((Lies.new w _ _).alloc _).alloc _,(new_one w _ _ _).alloc _,new_two w _ _ _ _,HB0.out.alloc (by simp;omega) _⟩
 have HW:Hid (L=splitB 46 s.data.toList):=hL
 have HLL:Hid (∀l∈L,l.length≤s.size):=hll
 clear hsp1 hsp2 hL hm hgm hll
 go_enter Tryz.func163,Tryz.ntmps163
 go_wp2_with fail
 refine(HSP.out _ HB0.out).mono ?_
 rintro e w2 ⟨rfl,hw2⟩
 obtain⟨wa,hwa⟩:∃wa,wa=((w.alloc (.cells (bytesV [0,0,0,0]) 108)).alloc (.cells (bytesV [0,0,0,0]) 108)).alloc (.cells (strsV L) 9):=⟨_,rfl⟩
 obtain rfl:w2=wa:=hw2.trans hwa.symm
 have HS0:Hid (W4S w L [] w2):=by rw[hw2];exact H0.out
 have hq:((w.alloc (.cells (bytesV [0,0,0,0]) 108)).alloc (.cells (bytesV [0,0,0,0]) 108)).heap.size=w.heap.size+2:=by simp
 rw[hq]
 clear hw2 hwa H0 HSP HB0 hq
 have hln':(L.length:Int)≤3000000:=by omega
 by_cases h4:L.length=4
 ·have h4b:((L.length:Int) != 4)=false:=by rw[h4];rfl
  have H4:Hid (L.length=4):=h4
  have hL4:(L.length:Int)=4:=by omega
  clear h4
  go_wp2_with fail
  go_loopw [18] (fun c wr=>∃ns:List Nat,ns.length≤4∧c=.int .i64 ns.length∧Hid (W4S w L ns wr)∧Hid (Nms L ns)) (fun c _=>4 - (intOf c).toNat)
  case atStart=>exact⟨[],by simp,rfl,HS0,Nms.nil L⟩
  case round=>
   obtain⟨ns,hns,rfl,HS,HN⟩:=hrel
   clear HS0
   by_cases hlt:ns.length<4
   ·have hil:ns.length<L.length:=by rw[H4.out];exact hlt
    have hlt':(ns.length:Int)<(L.length:Int):=by omega
    have hc:wr.cell? ⟨w.heap.size+2,ns.length,none⟩=some (.string ⟨(L[ns.length]).toArray⟩):=(HS.out.l.cell _).trans (strsV_at L _ hil)
    have hz2:w.heap.size+2<wr.heap.size:=HS.out.l.lt
    have HX:Hid (∀n,dNum L[ns.length]=some n→Nms L (ns++[n])):=fun n h=>HN.out.step hil h
    have HY:Hid (dNum L[ns.length]=none→whole4 s.data.toList=none):=fun h=>w4_bad (j:=ns.length) (by rw[←HW.out];exact hil) (by rw[←HW.out];exact H4.out) (by
     have h':=h
     simp only[HW.out]at h'
     exact h')
    have HNU:Hid (Calls Tryz.prog 191 #[.string ⟨(L[ns.length]).toArray⟩] wr fun e w'=>∃v,e=.returned v∧NumA L[ns.length] v∧w'=wr):=by
     have:=rnum_any ⟨(L[ns.length]).toArray⟩ wr (by
      have h1:=HLL.out _ (List.getElem_mem hil)
      show(L[ns.length]).toArray.size≤maxLen
      rw[List.size_toArray]
      unfold maxLen
      omega)
     rw[show(⟨(L[ns.length]).toArray⟩:ByteArray).data.toList=L[ns.length] from by simp]at this
     exact this
    generalize L[ns.length]=x at hc HX HY HNU
    have hi0:(0:Int)≤(ns.length:Int):=by omega
    clear HN
    go_wp2_with fail
    refine HNU.out.mono ?_
    rintro e w3 ⟨v,rfl,⟨y,rfl,hy⟩,hw3⟩
    obtain rfl:wr=w3:=hw3.symm
    clear hw3 HNU hc
    cases hx:dNum x with
    |none=>
     have HR:Hid (w4V s.data.toList=.tuple #[.agg #[.int .u8 0,.int .u8 0,.int .u8 0,.int .u8 0],.bool false]):=by
      show _=_
      unfold w4V
      rw[HY.out hx]
      rfl
     have HRR:Hid (Lies wr w.heap.size #[.int .u8 0,.int .u8 0,.int .u8 0,.int .u8 0] 108):=HS.out.r
     have HB:Hid (Below w.heap.size w wr):=HS.out.below
     clear HX HY HS hx hy
     go_wp2_with (refine wpList_store_row rfl 108 _ _ rfl w.heap.size rfl _ #[.int .u8 0,.int .u8 0,.int .u8 0,.int .u8 0] rfl 108 HRR.out info4 rfl (by simp[Value.oneCell']) rfl ?_)
     exact bodyPost_ret (results_mixR (p:=2) (q:=3) (by kernel_rfl) _ _ w.heap.size _ _ (.bool false) rfl rfl (HRR.out.row _) Tryz.underlying108 rfl info4) rfl ⟨by rw[HR.out],below_row HB.out (Nat.le_refl _) _⟩
    |some n=>
     obtain rfl:=hy n hx
     have hn2:n<256:=((dNum_iff _ _).1 hx).2
     have HN2:Hid (Nms L (ns++[n])):=HX.out n hx
     have HS2:Hid (W4S w L (ns++[n]) (wr.setCell ⟨w.heap.size+1,ns.length,none⟩ (.int .u8 (n:Nat)))):=by
      refine⟨HS.out.r.set_other (a:=⟨w.heap.size+1,ns.length,none⟩) (by show w.heap.size≠w.heap.size+1;omega) _,?_,HS.out.l.set_other (a:=⟨w.heap.size+1,ns.length,none⟩) (by show w.heap.size+2≠w.heap.size+1;omega) _,HS.out.below.setCell (p:=⟨w.heap.size+1,ns.length,none⟩) (by show w.heap.size≤w.heap.size+1;omega) _⟩
      have:=HS.out.a.set ns.length (.int .u8 (n:Nat))
      rw[bytesV_set,pad_set ns n hlt]at this
      exact this
     obtain⟨v9,hv9⟩:∃v,wr.cell? ⟨w.heap.size+1,ns.length,none⟩=some v:=by
      refine⟨_,(HS.out.a.cell _).trans (bytesV_at _ _ (by simp;omega))⟩
     have hf9:=HS.out.a.frozen ns.length
     have hz9:w.heap.size+1<wr.heap.size:=HS.out.a.lt
     have hn4:(ns.length:Int)<4:=by omega
     have hns2:(ns++[n]).length=ns.length+1:=by simp
     have HNL:Hid ((ns++[n]).length=ns.length+1):=hns2
     clear HX HY HS hx hy hns2
     go_wp2_with fail
     go_roundw
     case rel=>exact⟨ns++[n],by rw[HNL.out];omega,by rw[HNL.out];go_num,HS2,HN2⟩
     case measure=>simp[intOf];omega
   ·have hn4:ns.length=4:=by omega
    have hlt':¬(ns.length:Int)<(L.length:Int):=by omega
    have HR:Hid (w4V s.data.toList=.tuple #[.agg (bytesV ns),.bool true]):=by
     show _=_
     unfold w4V
     rw[w4_all (by rw[←HW.out];exact H4.out) hn4 (by rw[←HW.out];exact HN.out)]
     rfl
    have HA:Hid (Lies wr (w.heap.size+1) (bytesV ns) 108):=by
     have:=HS.out.a
     rw[hn4,Nat.sub_self,List.replicate_zero,List.append_nil]at this
     exact this
    have HRR:Hid (Lies wr w.heap.size #[.int .u8 0,.int .u8 0,.int .u8 0,.int .u8 0] 108):=HS.out.r
    have HB:Hid (Below w.heap.size w wr):=HS.out.below
    have hbz:(bytesV ns).size=4:=by rw[bytesV_size];exact hn4
    have hbo:(bytesV ns).all (·.oneCell')=true:=by
     rw[Array.all_eq_true_iff_forall_mem]
     intro v hv
     unfold bytesV at hv
     rw[List.mem_toArray]at hv
     obtain⟨n,_,rfl⟩:=List.mem_map.1 hv
     rfl
    generalize bytesV ns=V at HR HA hbz hbo
    clear HS HN
    go_wp2_with (first|(refine wpList_load_row rfl 108 _ rfl (w.heap.size+1) rfl V 108 _ HA.out Tryz.underlying108 rfl (by rw[hbz];exact info4) ?_)|(refine wpList_store_row rfl 108 _ _ rfl w.heap.size rfl _ V rfl 108 HRR.out (by rw[hbz];exact info4) (by rw[hbz];rfl) hbo rfl ?_))
    exact bodyPost_ret (results_mixR (p:=2) (q:=3) (by kernel_rfl) _ _ w.heap.size _ _ (.bool true) rfl rfl (HRR.out.row _) Tryz.underlying108 rfl (by rw[hbz];exact info4)) rfl ⟨by rw[HR.out],below_row HB.out (Nat.le_refl _) _⟩
 ·have h4b:((L.length:Int) != 4)=true:=by rw[bne_iff_ne];omega
  have HR:Hid (w4V s.data.toList=.tuple #[.agg #[.int .u8 0,.int .u8 0,.int .u8 0,.int .u8 0],.bool false]):=by
   show _=_
   unfold w4V
   rw[w4_len (by rw[←HW.out];exact h4)]
   rfl
  have HA:Hid (Lies w2 (w.heap.size+1) #[.int .u8 0,.int .u8 0,.int .u8 0,.int .u8 0] 108):=HS0.out.a
  have HRR:Hid (Lies w2 w.heap.size #[.int .u8 0,.int .u8 0,.int .u8 0,.int .u8 0] 108):=HS0.out.r
  have HB:Hid (Below w.heap.size w w2):=HS0.out.below
  clear h4 HS0 HW HLL
  go_wp2_with (first|(refine wpList_load_row rfl 108 _ rfl (w.heap.size+1) rfl #[.int .u8 0,.int .u8 0,.int .u8 0,.int .u8 0] 108 _ HA.out Tryz.underlying108 rfl info4 ?_)|(refine wpList_store_row rfl 108 _ _ rfl w.heap.size rfl _ #[.int .u8 0,.int .u8 0,.int .u8 0,.int .u8 0] rfl 108 HRR.out info4 rfl (by simp[Value.oneCell']) rfl ?_))
  exact bodyPost_ret (results_mixR (p:=2) (q:=3) (by kernel_rfl) _ _ w.heap.size _ _ (.bool false) rfl rfl (HRR.out.row _) Tryz.underlying108 rfl info4) rfl ⟨by rw[HR.out],below_row HB.out (Nat.le_refl _) _⟩
end Go.Proofs.YtfjpkfhbmldmfaaGreatDoor
