/-
  The contract of domain.asciiLabel.
-/
import Derived.Test.YtfjpkfhbmldmfaaGreatDoorPr8
import Derived.Test.YtfjpkfhbmldmfaaGreatDoorDec
import Derived.Test.YtfjpkfhbmldmfaaGreatDoorPun
import Derived.Test.YtfjpkfhbmldmfaaGreatDoorRl8
import Derived.Test.YtfjpkfhbmldmfaaGreatDoorAdE
import Derived.Lib.SplitLaws
import Derived.Test.YtfjpkfhbmldmfaaGreatDoorLate5
namespace Go.Proofs.YtfjpkfhbmldmfaaGreatDoor
open Go.RowKit
theorem punL_len (l:List Int):∀(rest:List Nat) (f:Nat→Int) (n:Int) (i h bias:Nat) (first:Bool) (d:List UInt8),punL l rest f n i h bias first=some d→d.length≤11*rest.length
 |[],_,_,_,_,_,_,d,e=>by
  simp only[punL]at e
  injection e with e
  subst e
  exact Nat.zero_le _
 |a::rest,f,n,i,h,bias,first,d,e=>by
  simp only[punL]at e
  split at e
  ·cases e
  ·rename_i hov
   rw[Option.map_eq_some_iff]at e
   obtain⟨d',e1,e2⟩:=e
   subst e2
   have h1:=punL_len l rest _ _ _ _ _ _ d' e1
   have h2:=digs_short (stp l f n i h a).toNat 0 bias 10 (by omega)
   rw[List.length_append,List.length_cons]
   omega
theorem punT_small (l:List Int):(punT l).size≤12*l.length+1:=by
 unfold punT
 split
 ·exact Nat.zero_le _
 ·cases hd:punD l with
  |none=>exact Nat.zero_le _
  |some d=>
   have h1:=punL_len l _ _ _ _ _ _ _ d hd
   have h2:=ordW_length l
   have h3:=lowB_length l l.length
   show(punH l++d).toArray.size≤_
   rw[List.size_toArray,List.length_append]
   unfold punH
   rw[List.length_append]
   have h4:(if lowB l l.length=[] then ([]:List UInt8) else [45]).length≤1:=by split<;>simp
   omega
def asciiL (l:List UInt8):List UInt8:=if l.all (fun c=>decide (c.toNat<128))=true then l else [120,110,45,45]++(punT (decR l)).data.toList
theorem spB_all (f:UInt8→Bool):∀l:List UInt8,spB f l=l.length↔l.all f=true
 |[]=>by simp[spB]
 |c::r=>by
  have:=spB_all f r
  have hle:=spB_le f r
  rw[spB,List.length_cons,List.all_cons,Bool.and_eq_true,←this]
  by_cases h:f c=true
  ·rw[if_pos h]
   simp[h]
  ·rw[if_neg h]
   simp[h]
structure Tc (w:World):Prop where
 tb:Tb w
 pow:PowTab w
 ml:∃m,w.cell? ⟨2,0,none⟩=some (.int .i64 m)
theorem Tc.below {w w':World} (h:Tc w) (hb:Below w.heap.size w w'):Tc w':=by
 obtain⟨m,hm⟩:=h.ml
 exact⟨h.tb.below hb,h.pow.below hb,m,(hb.cell (p:=⟨2,0,none⟩) (World.block_lt_of_cell? w _ hm)).trans hm⟩
theorem decE_two (l:List UInt8):∃a b:Int,decE l=#[.int .i64 a,.int .i64 b]:=by
 unfold decE
 split
 ·exact⟨_,_,rfl⟩
 ·exact⟨_,_,rfl⟩
theorem decR_len (l:List UInt8):(decR l).length≤l.length:=by
 unfold decR
 split
 ·exact Nat.zero_le _
 ·exact decL_length l
set_option maxHeartbeats 2000000 in
set_option maxRecDepth 100000 in
theorem al_any (s:ByteArray) (w:World) (hT:Tb w) (hs:s.size≤1000):Calls Tryz.prog 150 #[.string s] w fun e w'=>e=.returned (.string ⟨(asciiL s.data.toList).toArray⟩)∧Below w.heap.size w w':=by
 have HBAD:Hid (Calls Tryz.prog 80 #[.int .i64 13,.string s] w fun e w'=>e=.returned (.int .i64 (spB (fun c=>decide (c.toNat<128)) s.data.toList:Nat))∧w'=w):=by
  have:=bad_anyT 13 s w hT.cls (by unfold maxLen;omega)
  rw[badN_spB 13 (fun c=>decide (c.toNat<128)) (fun b=>(ld_is b).2.2.2.2)]at this
  exact this
 have hiff:=spB_all (fun c=>decide (c.toNat<128)) s.data.toList
 rw[len_list]at hiff
 have HF:Hid (Fst w):=hT.fst
 obtain⟨n,hn⟩:∃n,n=spB (fun c=>decide (c.toNat<128)) s.data.toList:=⟨_,rfl⟩
 rw[←hn]at HBAD hiff
 clear hn hT
 by_cases hall:n=s.size
 ·have HV:Hid (asciiL s.data.toList=s.data.toList):=by
   show _=_
   unfold asciiL
   rw[if_pos (hiff.1 hall)]
  have he:((n:Int)==(s.size:Int))=true:=by rw[beq_iff_eq];omega
  clear hall hiff
  go_enter Tryz.func150,Tryz.ntmps150
  go_wp2_with fail
  refine HBAD.out.mono ?_
  rintro e w1 ⟨rfl,rfl⟩
  go_wp2_with fail
  go_ret
  exact⟨by rw[HV.out,Array.toArray_toList];rfl,Below.refl _ _⟩
 ·have HV:Hid (asciiL s.data.toList=[120,110,45,45]++(punT (decR s.data.toList)).data.toList):=by
   show _=_
   unfold asciiL
   rw[if_neg (fun h=>hall (hiff.2 h))]
  have he:((n:Int)==(s.size:Int))=false:=by rw[beq_eq_false_iff_ne];omega
  obtain⟨ea,eb,hE⟩:=decE_two s.data.toList
  have HD:=dec_any s w HF.out (by omega)
  rw[hE]at HD
  have HDD:Hid (Calls Tryz.prog 180 #[.string s] w fun e w'=>(∃v,e=.returned (.tuple #[v,.agg #[.int .i64 ea,.int .i64 eb]])∧w'.ownsRow w.heap.size 21 1 v (decR s.data.toList).length (cellsN .i32 (decR s.data.toList)))∧Below w.heap.size w w'):=HD
  have hdl:=decR_len s.data.toList
  rw[len_list]at hdl
  have hps:=punT_small (decR s.data.toList)
  generalize decR s.data.toList=l at HV HDD hdl hps
  have HF2:Hid ((⟨(asciiL s.data.toList).toArray⟩:ByteArray)=⟨#[120,110,45,45]⟩++punT l):=by
   show _=_
   rw[HV.out,show(⟨#[120,110,45,45]⟩:ByteArray)=⟨([120,110,45,45]:List UInt8).toArray⟩ from rfl]
   conv=>rhs;rw[show punT l=⟨(punT l).data.toList.toArray⟩ from by rw[Array.toArray_toList]]
   rw[str_append]
  have ad1:∀W,(Op.stringOp .add ⟨#[120,110,45,45]⟩ (punT l)).run Tryz.prog W=.ok (.string (⟨#[120,110,45,45]⟩++punT l)) W:=fun W=>run_string_add_sum _ _ _ (by show 4+(punT l).size≤_;omega)
  clear hall hiff HD hE HV
  go_enter Tryz.func150,Tryz.ntmps150
  go_wp2_with fail
  refine HBAD.out.mono ?_
  rintro e w1 ⟨rfl,rfl⟩
  go_wp2_with fail
  refine HDD.out.mono ?_
  rintro e w2 ⟨⟨v,rfl,ho⟩,hb2⟩
  obtain⟨a,cap,rfl,hnt, -⟩:=own_nts ho
  have HN:Hid (Nts .i32 a l (w2.alloc (.cells #[.int .i64 ea,.int .i64 eb] 32))):=hnt.below ((Below.refl _ _).alloc (Nat.le_refl _) _)
  have HB2:Hid (Below w1.heap.size w1 (w2.alloc (.cells #[.int .i64 ea,.int .i64 eb] 32))):=hb2.alloc hb2.size _
  clear ho hnt hb2 HDD HBAD
  go_upto_region 4 with fail
  generalize w2.alloc (.cells #[.int .i64 ea,.int .i64 eb] 32)=w3 at HN HB2 ⊢
  go_wp2_with fail
  refine(puny_any a l cap w3 HN.out (by omega)).mono ?_
  rintro e w4 ⟨rfl,hb4⟩
  have HB4:Hid (Below w1.heap.size w1 w4):=HB2.out.trans (hb4.mono HB2.out.size)
  clear hb4
  go_wp2_with fail
  go_ret
  exact⟨by rw[HF2.out];rfl,HB4.out⟩
open Go.RowKit
theorem splitD_B:∀s:List UInt8,splitD s=splitB 46 s
 |[]=>rfl
 |c::r=>by
  rw[splitD,splitB,splitD_B r]
  rfl
theorem rindex_none (d:UInt8):∀x:List UInt8,(∀c∈x,c≠d)→Lib.index x [d]= -1
 |[],_=>rfl
 |c::r,h=>by
  have hc:¬d=c:=fun e=>h c (by simp) e.symm
  rw[Lib.index,rindex_none d r fun x hx=>h x (by simp[hx])]
  simp[List.isPrefixOf,hc]
theorem index_at (d:UInt8):∀(x y:List UInt8),(∀c∈x,c≠d)→Lib.index (x++d::y) [d]=(x.length:Int)
 |[],y,_=>by
  rw[List.nil_append,Lib.index]
  simp[List.isPrefixOf]
 |c::r,y,h=>by
  have hc:¬d=c:=fun e=>h c (by simp) e.symm
  rw[List.cons_append,Lib.index,index_at d r y fun x hx=>h x (by simp[hx])]
  simp[List.isPrefixOf,hc]
theorem splitK_B (d:UInt8) (s:List UInt8):∀k,s.count d≤k→Lib.splitK [d] 0 k s=splitB d s:=by
 induction hn:s.length using Nat.strongRecOn generalizing s with
 |_ n ih=>
  intro k hk
  have hcases:(∀c∈s,c≠d)∨∃x y,(∀c∈x,c≠d)∧s=x++d::y:=by
   clear ih hn hk
   induction s with
   |nil=>exact Or.inl fun c hc=>by cases hc
   |cons c r ih=>
    by_cases hc:c=d
    ·exact Or.inr ⟨[],r,fun c hc=>(by cases hc),by rw[hc];rfl⟩
    ·rcases ih with h|⟨x,y,h,e⟩
     ·refine Or.inl fun b hb=>?_
      rcases List.mem_cons.1 hb with rfl|hb
      ·exact hc
      ·exact h b hb
     ·refine Or.inr ⟨c::x,y,fun b hb=>?_,by rw[e];rfl⟩
      rcases List.mem_cons.1 hb with rfl|hb
      ·exact hc
      ·exact h b hb
  rcases hcases with h0|⟨x,y,hx,rfl⟩
  ·rw[splitB_none d s h0]
   cases k with
   |zero=>rfl
   |succ k=>
    rw[Lib.splitK,rindex_none d s h0]
    rfl
  ·rw[splitB_at d x y hx]
   have hc:(x++d::y).count d=y.count d+1:=by
    rw[List.count_append,List.count_cons_self,List.count_eq_zero.2 fun hd=>hx d hd rfl,Nat.zero_add]
   rw[hc]at hk
   cases k with
   |zero=>omega
   |succ k=>
    rw[Lib.splitK,index_at d x y hx]
    have e1:((x.length:Int)== -1)=false:=by rw[beq_eq_false_iff_ne];omega
    rw[e1,if_neg (by decide),Int.toNat_natCast,Nat.add_zero,List.take_left,List.length_singleton,←List.drop_drop,List.drop_left]
    show x::Lib.splitK [d] 0 k y=_
    rw[ih y.length (by rw[←hn];simp;omega) y rfl k (by omega)]
theorem split_cells (s:ByteArray) (d:UInt8):((Lib.splitB ⟨#[d]⟩ 0 (Lib.countB s ⟨#[d]⟩) s).map Value.string).toArray=strsV (splitB d s.data.toList)∧Lib.countB s ⟨#[d]⟩+1=(splitB d s.data.toList).length:=by
 have hc:Lib.countB s ⟨#[d]⟩=s.data.toList.count d:=by
  show Lib.count s.data.toList [d]=_
  exact Lib.count_one d _
 have hd:=Lib.splitB_data ⟨#[d]⟩ 0 (Lib.countB s ⟨#[d]⟩) s
 have hd2:(Lib.splitB ⟨#[d]⟩ 0 (Lib.countB s ⟨#[d]⟩) s).map (·.data.toList)=splitB d s.data.toList:=by
  rw[hd]
  exact splitK_B d s.data.toList _ (by rw[hc];exact Nat.le_refl _)
 refine⟨?_,?_⟩
 ·unfold strsV
  rw[←hd2,List.map_map]
  congr 1
 ·rw[←hd2,List.length_map,Lib.splitB_all ⟨#[d]⟩ (show 1≤(⟨#[d]⟩:ByteArray).size from Nat.le_refl _) 0 _ s rfl]
theorem splitD_short (s:List UInt8):(∀l∈splitD s,l.length≤s.length)∧(splitD s).length≤s.length+1:=by
 induction hn:s.length using Nat.strongRecOn generalizing s with
 |_ n ih=>
  rcases split_cases s with h0|⟨x,y,hx,rfl⟩
  ·rw[splitD_none s h0]
   exact⟨fun l hl=>by rw[List.mem_singleton.1 hl];omega,by simp⟩
  ·rw[splitD_dot x y hx]
   have hl:(x++46::y).length=x.length+1+y.length:=by simp;omega
   obtain⟨h1,h2⟩:=ih y.length (by omega) y rfl
   refine⟨fun l hl'=>?_,by rw[List.length_cons];omega⟩
   rcases List.mem_cons.1 hl' with rfl|hl'
   ·omega
   ·have:=h1 l hl'
    omega
def someA (L:List (List UInt8)) (i:Nat):List (List UInt8):=(L.take i).map asciiL++L.drop i
theorem someA_set (L:List (List UInt8)) (i:Nat) (hi:i<L.length):(someA L i).set i (asciiL L[i])=someA L (i+1):=by
 unfold someA
 have hl:((L.take i).map asciiL).length=i:=by rw[List.length_map,List.length_take];omega
 rw[List.set_append_right _ _ (by omega),hl,Nat.sub_self,List.drop_eq_getElem_cons hi,List.set_cons_zero,List.take_succ_eq_append_getElem hi,List.map_append]
 simp
theorem someA_at (L:List (List UInt8)) (i:Nat) (hi:i<L.length):(strsV (someA L i))[i]?=some (.string ⟨(L[i]).toArray⟩):=by
 have hl:((L.take i).map asciiL).length=i:=by rw[List.length_map,List.length_take];omega
 unfold strsV someA
 rw[List.getElem?_toArray,List.getElem?_map,List.getElem?_append_right (by omega),hl,Nat.sub_self,List.getElem?_drop,Nat.add_zero,List.getElem?_eq_getElem hi]
 rfl
theorem long_yes (L:List (List UInt8)) (i:Nat) (hi:i<L.length) (h:63<(asciiL L[i]).length):longB (L.map asciiL)=true:=
 List.any_eq_true.2 ⟨asciiL L[i],List.mem_map.2 ⟨L[i],List.getElem_mem hi,rfl⟩,decide_eq_true h⟩
theorem long_no (L:List (List UInt8)) (h:∀j (hj:j<L.length),(asciiL L[j]).length≤63):longB (L.map asciiL)=false:=by
 unfold longB
 rw[List.any_eq_false]
 intro x hx
 obtain⟨y,hy,rfl⟩:=List.mem_map.1 hx
 obtain⟨j,hj,rfl⟩:=List.mem_iff_getElem.1 hy
 have:=h j hj
 simp
 omega
set_option maxHeartbeats 4000000 in
set_option maxRecDepth 100000 in
theorem ad_any (s:ByteArray) (w:World) (hT:Tc w) (hs:s.size≤255):Calls Tryz.prog 113 #[.string s] w fun e w'=>e=.returned (printV (asciiD asciiL s.data.toList))∧Below w.heap.size w w':=by
 have HT:Hid (∀wx,Below w.heap.size w wx→Tc wx):=fun wx hb=>hT.below hb
 have HSM:Hid (Calls Tryz.prog 115 #[.string s] w fun e w'=>e=.returned (.string (smS s))∧Below w.heap.size w w'):=small_any s w (by unfold maxLen;omega)
 have hss:(smS s).size≤255:=by
  show(sml s.data.toList).toArray.size≤255
  rw[List.size_toArray,sml,List.length_map,len_list]
  exact hs
 have hsd:(smS s).data.toList=sml s.data.toList:=by simp[smS]
 obtain⟨L,hL⟩:∃L,L=splitD (sml s.data.toList):=⟨_,rfl⟩
 obtain⟨hsp1,hsp2⟩:=split_cells (smS s) 46
 rw[hsd,←splitD_B,←hL]at hsp1 hsp2
 obtain⟨hll,hln⟩:=splitD_short (sml s.data.toList)
 rw[←hL,sml_len,len_list]at hll hln
 have HV:Hid (asciiD asciiL s.data.toList=if longB (L.map asciiL)=true then ([],80) else if 255<(joinL [46] (L.map asciiL)).length then ([],81) else (joinL [46] (L.map asciiL),0)):=by
  show _=_
  unfold asciiD
  rw[←hL]
 have HSP:Hid (∀wx,Tc wx→Calls Tryz.prog 117 #[.string (smS s),.string ⟨#[46]⟩] wx fun e w'=>e=.returned (.slice (some ⟨wx.heap.size,0,none⟩) L.length L.length)∧w'=wx.alloc (.cells (strsV L) 9)):=fun wx hx=>by
  obtain⟨m,hm⟩:=hx.ml
  have:=Tryz.strings_Split (smS s) ⟨#[46]⟩ m wx (by omega) hm (by decide)
  rw[hsp1,hsp2]at this
  exact this
 have HLL:Hid (∀l∈L,l.length≤s.size):=hll
 have hln':(L.length:Int)≤256:=by omega
 clear hT hsd hsp1 hsp2 hL hll
 generalize smS s=sm at HSM hss HSP
 go_enter Tryz.func113,Tryz.ntmps113
 go_wp2_with fail
 refine HSM.out.mono ?_
 rintro e w1 ⟨rfl,hb1⟩
 have HB1:Hid (Below w.heap.size w w1):=hb1
 clear hb1 HSM
 go_wp2_with fail
 refine(HSP.out _ (HT.out _ HB1.out)).mono ?_
 rintro e w2 ⟨rfl,rfl⟩
 have HB2:Hid (Below w.heap.size w (w1.alloc (.cells (strsV L) 9))):=HB1.out.alloc HB1.out.size _
 have HS2:Hid (Lies (w1.alloc (.cells (strsV L) 9)) w1.heap.size (strsV (someA L 0)) 9):=Lies.new w1 _ _
 have HZ:Hid (w.heap.size≤w1.heap.size):=HB1.out.size
 clear HSP HB1
 generalize w1.alloc (.cells (strsV L) 9)=w2 at HB2 HS2 ⊢
 go_wp2_with fail
 go_loopw [13] (fun c wr=>∃i:Nat,i≤L.length∧c=.int .i64 i∧Hid (Lies wr w1.heap.size (strsV (someA L i)) 9)∧Hid (Below w.heap.size w wr)∧Hid (∀j (hj:j<L.length),j<i→(asciiL L[j]).length≤63)) (fun c _=>L.length - (intOf c).toNat)
 case atStart=>exact⟨0,by omega,rfl,HS2,HB2,fun j _ h=>absurd h (by omega)⟩
 case round=>
  obtain⟨i,hi,rfl,HS,HB,HK⟩:=hrel
  clear HS2 HB2
  have hz:=HS.out.lt
  by_cases hlt:i<L.length
  ·have hlt':(i:Int)<(L.length:Int):=by omega
   have hc:wr.cell? ⟨w1.heap.size,i,none⟩=some (.string ⟨(L[i]).toArray⟩):=(HS.out.cell i).trans (someA_at L i hlt)
   have HAL:Hid (Calls Tryz.prog 150 #[.string ⟨(L[i]).toArray⟩] wr fun e w'=>e=.returned (.string ⟨(asciiL L[i]).toArray⟩)∧Below wr.heap.size wr w'):=by
    have:=al_any ⟨(L[i]).toArray⟩ wr (HT.out _ HB.out).tb (by rw[←len_list,str_list];have:=HLL.out _ (List.getElem_mem hlt);omega)
    rw[str_list]at this
    exact this
   have HST:=someA_set L i hlt
   have HYS:=long_yes L i hlt
   have HK2:Hid ((asciiL L[i]).length≤63→∀j (hj:j<L.length),j<i+1→(asciiL L[j]).length≤63):=fun h63 j hj hji=>by
    rcases Nat.lt_or_ge j i with h|h
    ·exact HK.out j hj h
    ·obtain rfl:j=i:=by omega
     exact h63
   generalize L[i]=x at hc HAL HST HYS HK2
   generalize asciiL x=y at HAL HST HYS HK2
   have hi0:(0:Int)≤(i:Int):=by omega
   go_wp2_with fail
   refine HAL.out.mono ?_
   rintro e w3 ⟨rfl,hb3⟩
   have HB3:Hid (Below w.heap.size w w3):=HB.out.trans (hb3.mono HB.out.size)
   have HS3:Hid (Lies w3 w1.heap.size (strsV (someA L i)) 9):=HS.out.below hb3 hz
   clear hb3 HAL hc
   by_cases h63:63<y.length
   ·have h63':(63:Int)<(y.length:Int):=by omega
    have HVV:Hid (asciiD asciiL s.data.toList=([],80)):=by show _=_;rw[HV.out,if_pos (HYS h63)]
    clear HST HYS HK2 h63 HK
    go_wp2_with fail
    refine bodyPost_ret (v:=.tuple #[.string ⟨#[]⟩,.int .i64 80]) (by simp[results,Tryz.results113,go_sem]) rfl ⟨by rw[HVV.out];rfl,HB3.out⟩
   ·have h63':¬(63:Int)<(y.length:Int):=by omega
    have HN:Hid (Lies (w3.setCell ⟨w1.heap.size,i,none⟩ (.string ⟨y.toArray⟩)) w1.heap.size (strsV (someA L (i+1))) 9):=by
     have:=HS3.out.set i (.string ⟨y.toArray⟩)
     rw[strsV_set,HST]at this
     exact this
    have HBN:Hid (Below w.heap.size w (w3.setCell ⟨w1.heap.size,i,none⟩ (.string ⟨y.toArray⟩))):=HB3.out.setCell (p:=⟨w1.heap.size,i,none⟩) HZ.out _
    have HKN:Hid (∀j (hj:j<L.length),j<i+1→(asciiL L[j]).length≤63):=HK2.out (by omega)
    have hc3:wr.cell? ⟨w1.heap.size,i,none⟩=some (.string ⟨x.toArray⟩)∨True:=Or.inr trivial
    obtain⟨v3,hv3⟩:∃v,w3.cell? ⟨w1.heap.size,i,none⟩=some v:=⟨_,(HS3.out.cell i).trans (someA_at L i hlt)⟩
    have hf3:=HS3.out.frozen i
    have hz3:=HS3.out.lt
    clear HST HYS HK2 h63 HK hc3 HS3 HS HB
    go_wp2_with fail
    go_roundw
    case rel=>exact⟨i+1,by omega,by go_num,HN,HBN,HKN⟩
    case measure=>simp[intOf];omega
  ·obtain rfl:i=L.length:=by omega
   have hlt':¬(L.length:Int)<(L.length:Int):=by omega
   have HVN:Hid (asciiD asciiL s.data.toList=if 255<(joinL [46] (L.map asciiL)).length then ([],81) else (joinL [46] (L.map asciiL),0)):=by
    show _=_
    rw[HV.out,if_neg (by rw[long_no L fun j hj=>HK.out j hj hj];decide)]
   have HSL:Hid (Lies wr w1.heap.size (strsV (L.map asciiL)) 9):=by
    have:=HS.out
    unfold someA at this
    rw[List.take_of_length_le (Nat.le_refl _),List.drop_eq_nil_of_le (Nat.le_refl _),List.append_nil]at this
    exact this
   have hjl:(joinL [46] (L.map asciiL)).length≤100000:=by
    have:=joinL_len [46] 63 rfl (L.map asciiL) fun x hx=>by
     obtain⟨y,hy,rfl⟩:=List.mem_map.1 hx
     obtain⟨j,hj,rfl⟩:=List.mem_iff_getElem.1 hy
     exact HK.out j hj hj
    rw[List.length_map]at this
    omega
   have HJ:Hid (Calls Tryz.prog 109 #[.slice (some ⟨w1.heap.size,0,none⟩) L.length L.length,.string ⟨#[46]⟩] wr fun e w'=>e=.returned (.string ⟨(joinL [46] (L.map asciiL)).toArray⟩)∧Below wr.heap.size wr w'):=by
    have:=join_some HSL.out 0 L.length L.length ⟨#[46]⟩ (by rw[List.length_map];omega) (Nat.le_refl _) (by rw[List.drop_zero,List.take_of_length_le (by rw[List.length_map];exact Nat.le_refl _)];exact Nat.le_trans hjl (by decide)) (by rw[List.length_map];omega)
    rw[List.drop_zero,List.take_of_length_le (by rw[List.length_map];exact Nat.le_refl _)]at this
    exact this
   generalize joinL [46] (L.map asciiL)=nm at HVN hjl HJ
   clear HSL HS HK HV
   go_wp2_with fail
   refine HJ.out.mono ?_
   rintro e w3 ⟨rfl,hb3⟩
   have HB3:Hid (Below w.heap.size w w3):=HB.out.trans (hb3.mono HB.out.size)
   clear hb3 HJ HB
   by_cases h255:255<nm.length
   ·have h255':(255:Int)<(nm.length:Int):=by omega
    have HVV:Hid (asciiD asciiL s.data.toList=([],81)):=by show _=_;rw[HVN.out,if_pos h255]
    clear HVN h255
    go_wp2_with fail
    refine bodyPost_ret (v:=.tuple #[.string ⟨#[]⟩,.int .i64 81]) (by simp[results,Tryz.results113,go_sem]) rfl ⟨by rw[HVV.out];rfl,HB3.out⟩
   ·have h255':¬(255:Int)<(nm.length:Int):=by omega
    have HVV:Hid (asciiD asciiL s.data.toList=(nm,0)):=by show _=_;rw[HVN.out,if_neg h255]
    clear HVN h255
    go_wp2_with fail
    refine bodyPost_ret (v:=.tuple #[.string ⟨nm.toArray⟩,.int .i64 0]) (by simp[results,Tryz.results113,go_sem]) rfl ⟨by rw[HVV.out];rfl,HB3.out⟩
open Go.RowKit
theorem hostC_name (h:Ho) (n:List UInt8):(hostC h).setIfInBounds 1 (.string ⟨n.toArray⟩)=hostC ⟨h.k,n,h.a⟩:=rfl
theorem results_mix {fn:Func} {p q:Tmp} (h:fn.results=#[.cell p 25,.tmp q]) (tmps:Array Value) (w:World) (g:Nat) (x:Ho) (hx:x.a.length=16) (v:Value) (hp:tmps.getD p undef=.pointer (some ⟨g,0,none⟩)) (hq:tmps.getD q undef=v) (hg:Lies w g (hostC x) 25):
  (results fn tmps).run Tryz.prog w=.ok (.tuple #[hostV x,v]) w:=by
 have hp':tmps[p]?.getD undef=.pointer (some ⟨g,0,none⟩):=by simpa using hp
 have hq':tmps[q]?.getD undef=v:=by simpa using hq
 simp[results,h,hp',hq',asAddr,run_loadVar_row w g 25 25 (hostC x) (0,0) _ hg Tryz.underlying25 rfl (by rw[hostC_size x hx];exact infoHo),hostV]
def ascV (r:Ho×Nat):Value:=.tuple #[hostV r.1,.int .i64 (r.2:Nat)]
theorem ext_size (s:ByteArray) (k:Nat):(s.extract 0 k).size≤s.size:=by rw[ByteArray.size_extract];omega
set_option maxHeartbeats 4000000 in
set_option maxRecDepth 100000 in
theorem asc_any (h:Ho) (ok:h.Ok) (w:World) (hT:Tc w) (hn:h.n.length≤140737488355328):
  Calls Tryz.prog 81 #[hostV h] w fun e w'=>e=.returned (ascV (ascii asciiL h))∧Below w.heap.size w w':=by
 have ha:=ok.len
 have HT:Hid (∀wx,Below w.heap.size w wx→Tc wx):=fun wx hb=>hT.below hb
 have hsz:=hostC_size h ha
 obtain⟨HC,hHC⟩:∃HC,HC=hostC h:=⟨_,rfl⟩
 have e1:hostV h=.agg HC:=by rw[hHC];rfl
 have HHC:Hid (HC=hostC h):=hHC
 rw[←hHC]at hsz
 have L1:Hid (Lies ((w.alloc (.cells HC 25)).alloc (.cells #[.int .i64 0,.string ⟨#[]⟩,.int .u8 0,.int .u8 0,.int .u8 0,.int .u8 0,.int .u8 0,.int .u8 0,.int .u8 0,.int .u8 0,.int .u8 0,.int .u8 0,.int .u8 0,.int .u8 0,.int .u8 0,.int .u8 0,.int .u8 0,.int .u8 0] 25)) w.heap.size HC 25):=(Lies.new w _ _).alloc _
 have L2:Hid (Lies ((w.alloc (.cells HC 25)).alloc (.cells #[.int .i64 0,.string ⟨#[]⟩,.int .u8 0,.int .u8 0,.int .u8 0,.int .u8 0,.int .u8 0,.int .u8 0,.int .u8 0,.int .u8 0,.int .u8 0,.int .u8 0,.int .u8 0,.int .u8 0,.int .u8 0,.int .u8 0,.int .u8 0,.int .u8 0] 25)) (w.heap.size+1) #[.int .i64 0,.string ⟨#[]⟩,.int .u8 0,.int .u8 0,.int .u8 0,.int .u8 0,.int .u8 0,.int .u8 0,.int .u8 0,.int .u8 0,.int .u8 0,.int .u8 0,.int .u8 0,.int .u8 0,.int .u8 0,.int .u8 0,.int .u8 0,.int .u8 0] 25):=new_one w _ _ _
 have HB:Hid (Below w.heap.size w ((w.alloc (.cells HC 25)).alloc (.cells #[.int .i64 0,.string ⟨#[]⟩,.int .u8 0,.int .u8 0,.int .u8 0,.int .u8 0,.int .u8 0,.int .u8 0,.int .u8 0,.int .u8 0,.int .u8 0,.int .u8 0,.int .u8 0,.int .u8 0,.int .u8 0,.int .u8 0,.int .u8 0,.int .u8 0] 25))):=((Below.refl _ _).alloc (Nat.le_refl _) _).alloc (by simp) _
 have HCK:Hid (∀wx,Below w.heap.size w wx→Calls Tryz.prog 74 #[.agg HC,.bool true] wx fun e w'=>e=.returned (.int .i64 (check h true:Nat))∧Below wx.heap.size wx w'):=fun wx hb=>by
  rw[←e1]
  exact chk_any h ha true wx (HT.out _ hb).tb hn
 rw[e1]
 clear hT hHC e1
 go_enter Tryz.func81,Tryz.ntmps81
 go_upto_region 1 with fail
 generalize (w.alloc (.cells HC 25)).alloc (.cells #[.int .i64 0,.string ⟨#[]⟩,.int .u8 0,.int .u8 0,.int .u8 0,.int .u8 0,.int .u8 0,.int .u8 0,.int .u8 0,.int .u8 0,.int .u8 0,.int .u8 0,.int .u8 0,.int .u8 0,.int .u8 0,.int .u8 0,.int .u8 0,.int .u8 0] 25)=wA at L1 L2 HB ⊢
 have hzA:=L2.out.lt
 go_wp2_with (refine wpList_load_row rfl 25 _ rfl w.heap.size rfl HC 25 _ L1.out Tryz.underlying25 rfl (by rw[hsz];exact infoHo) ?_)
 refine(HCK.out _ HB.out).mono ?_
 rintro e w1 ⟨rfl,hb1⟩
 have K1:Hid (Lies w1 w.heap.size HC 25):=L1.out.below hb1 L1.out.lt
 have K2:Hid (Lies w1 (w.heap.size+1) #[.int .i64 0,.string ⟨#[]⟩,.int .u8 0,.int .u8 0,.int .u8 0,.int .u8 0,.int .u8 0,.int .u8 0,.int .u8 0,.int .u8 0,.int .u8 0,.int .u8 0,.int .u8 0,.int .u8 0,.int .u8 0,.int .u8 0,.int .u8 0,.int .u8 0] 25):=L2.out.below hb1 L2.out.lt
 have KB:Hid (Below w.heap.size w w1):=HB.out.trans (hb1.mono (Nat.le_of_lt L1.out.lt))
 clear hb1 L1 L2 HB HCK hzA
 have hz1:=K2.out.lt
 have K1h:Lies w1 w.heap.size (hostC h) 25:=by rw[←HHC.out];exact K1.out
 obtain⟨c0,c1⟩:=host_cells K1h
 have hf1:=K1h.frozen 1
 by_cases hck:check h true=0
 case neg=>
  have HV:Hid (ascii asciiL h=(ho0,check h true)):=by show _=_;unfold ascii;rw[if_neg hck]
  have hck':((check h true:Int)==0)=false:=by rw[beq_eq_false_iff_ne];omega
  generalize check h true=ck at HV hck' ⊢
  clear hck
  go_wp2_with (refine wpList_store_row rfl 25 _ _ rfl (w.heap.size+1) rfl _ #[.int .i64 0,.string ⟨#[]⟩,.int .u8 0,.int .u8 0,.int .u8 0,.int .u8 0,.int .u8 0,.int .u8 0,.int .u8 0,.int .u8 0,.int .u8 0,.int .u8 0,.int .u8 0,.int .u8 0,.int .u8 0,.int .u8 0,.int .u8 0,.int .u8 0] rfl 25 K2.out infoHo rfl (by simp[Value.oneCell']) rfl ?_)
  exact bodyPost_ret (results_mix (p:=2) (q:=3) (by kernel_rfl) _ _ (w.heap.size+1) ho0 rfl (.int .i64 (ck:Int)) rfl rfl (K2.out.row _)) rfl ⟨by rw[HV.out];rfl,below_row KB.out (by omega) _⟩
 rw[hck]
 obtain⟨S,hS⟩:∃S:ByteArray,S=⟨h.n.toArray⟩:=⟨_,rfl⟩
 have hSl:S.data.toList=h.n:=by rw[hS]
 rw[←hS]at c1
 by_cases k1:h.k=1
 ·rw[k1]at c0
  have hnl:S.size≤255:=by
   rw[←len_list,hSl]
   exact(wd_ok (check_name k1 hck).2).1
  have HAD:Hid (Calls Tryz.prog 113 #[.string S] w1 fun e w'=>e=.returned (.tuple #[.string ⟨(asciiD asciiL h.n).1.toArray⟩,.int .i64 ((asciiD asciiL h.n).2:Nat)])∧Below w1.heap.size w1 w'):=by
   have:=ad_any S w1 (HT.out _ KB.out) hnl
   rw[hSl]at this
   exact this
  have HV0:Hid (ascii asciiL h=if (asciiD asciiL h.n).2=0 then (⟨1,(asciiD asciiL h.n).1,h.a⟩,0) else (ho0,(asciiD asciiL h.n).2)):=by show _=_;unfold ascii;rw[if_pos hck,if_pos k1]
  generalize asciiD asciiL h.n=ad at HAD HV0
  clear hck hS hSl hnl
  go_wp2_with fail
  refine HAD.out.mono ?_
  rintro e w2 ⟨rfl,hb2⟩
  have J1:Hid (Lies w2 w.heap.size (hostC h) 25):=K1h.below hb2 K1h.lt
  have J2:Hid (Lies w2 (w.heap.size+1) #[.int .i64 0,.string ⟨#[]⟩,.int .u8 0,.int .u8 0,.int .u8 0,.int .u8 0,.int .u8 0,.int .u8 0,.int .u8 0,.int .u8 0,.int .u8 0,.int .u8 0,.int .u8 0,.int .u8 0,.int .u8 0,.int .u8 0,.int .u8 0,.int .u8 0] 25):=K2.out.below hb2 K2.out.lt
  have JB:Hid (Below w.heap.size w w2):=KB.out.trans (hb2.mono (Nat.le_of_lt K1.out.lt))
  clear hb2 HAD K1 K2 KB K1h c0 c1 hf1
  have hz2:=J2.out.lt
  by_cases he:ad.2=0
  ·have HV:Hid (ascii asciiL h=(⟨1,ad.1,h.a⟩,0)):=by show _=_;rw[HV0.out,if_pos he]
   have he':((ad.2:Int)==0)=true:=by rw[beq_iff_eq];omega
   have hc1:=J1.out.cell 1
   have hf1:=J1.out.frozen 1
   obtain⟨v1,hv1⟩:∃v,w2.cell? ⟨w.heap.size,1,none⟩=some v:=⟨_,hc1⟩
   have J3:Hid (Lies (w2.setCell ⟨w.heap.size,1,none⟩ (.string ⟨ad.1.toArray⟩)) w.heap.size (hostC ⟨1,ad.1,h.a⟩) 25):=by
    have:=J1.out.set 1 (.string ⟨ad.1.toArray⟩)
    rw[hostC_name,k1]at this
    exact this
   have J4:Hid (Lies (w2.setCell ⟨w.heap.size,1,none⟩ (.string ⟨ad.1.toArray⟩)) (w.heap.size+1) #[.int .i64 0,.string ⟨#[]⟩,.int .u8 0,.int .u8 0,.int .u8 0,.int .u8 0,.int .u8 0,.int .u8 0,.int .u8 0,.int .u8 0,.int .u8 0,.int .u8 0,.int .u8 0,.int .u8 0,.int .u8 0,.int .u8 0,.int .u8 0,.int .u8 0] 25):=J2.out.set_other (a:=⟨w.heap.size,1,none⟩) (by show w.heap.size+1≠w.heap.size;omega) _
   have JB4:Hid (Below w.heap.size w (w2.setCell ⟨w.heap.size,1,none⟩ (.string ⟨ad.1.toArray⟩))):=JB.out.setCell (p:=⟨w.heap.size,1,none⟩) (Nat.le_refl _) _
   have hzz:=hostC_size ⟨1,ad.1,h.a⟩ ha
   have hoo:=hostC_one ⟨1,ad.1,h.a⟩
   clear HV0 he k1 hc1 J1 J2
   go_upto_region 13 with fail
   generalize w2.setCell ⟨w.heap.size,1,none⟩ (.string ⟨ad.1.toArray⟩)=w3 at J3 J4 JB4 ⊢
   obtain⟨X,hX⟩:∃X,X=hostC ⟨1,ad.1,h.a⟩:=⟨_,rfl⟩
   rw[←hX]at J3 hzz hoo
   have HX:Hid (X=hostC ⟨1,ad.1,h.a⟩):=hX
   have hz3:=J4.out.lt
   clear hX hv1 hf1 hz2
   go_wp2_with (first|(refine wpList_load_row rfl 25 _ rfl w.heap.size rfl X 25 _ J3.out Tryz.underlying25 rfl (by rw[hzz];exact infoHo) ?_)|(refine wpList_store_row rfl 25 _ _ rfl (w.heap.size+1) rfl _ X rfl 25 J4.out (by rw[hzz];exact infoHo) (by rw[hzz];rfl) hoo rfl ?_))
   exact bodyPost_ret (results_mix (p:=2) (q:=3) (by kernel_rfl) _ _ (w.heap.size+1) ⟨1,ad.1,h.a⟩ ha (.int .i64 0) rfl rfl (by rw[←HX.out];exact J4.out.row _)) rfl ⟨by rw[HV.out];rfl,below_row JB4.out (by omega) _⟩
  ·have HV:Hid (ascii asciiL h=(ho0,ad.2)):=by show _=_;rw[HV0.out,if_neg he]
   have he':((ad.2:Int)==0)=false:=by rw[beq_eq_false_iff_ne];omega
   clear HV0 he k1
   go_wp2_with (refine wpList_store_row rfl 25 _ _ rfl (w.heap.size+1) rfl _ #[.int .i64 0,.string ⟨#[]⟩,.int .u8 0,.int .u8 0,.int .u8 0,.int .u8 0,.int .u8 0,.int .u8 0,.int .u8 0,.int .u8 0,.int .u8 0,.int .u8 0,.int .u8 0,.int .u8 0,.int .u8 0,.int .u8 0,.int .u8 0,.int .u8 0] rfl 25 J2.out infoHo rfl (by simp[Value.oneCell']) rfl ?_)
   exact bodyPost_ret (results_mix (p:=2) (q:=3) (by kernel_rfl) _ _ (w.heap.size+1) ho0 rfl (.int .i64 (ad.2:Int)) rfl rfl (J2.out.row _)) rfl ⟨by rw[HV.out];rfl,below_row JB.out (by omega) _⟩
 have k1':(h.k==1)=false:=by rw[beq_eq_false_iff_ne];exact k1
 by_cases k4:h.k=4
 ·rw[k4]at c0
  have htg:=(check_tag k4 hck).2
  have hnl:h.n.length≤253:=by
   unfold chTag at htg
   rcases Nat.lt_or_ge 253 h.n.length with hl|hl
   ·rw[if_pos hl]at htg;cases htg
   ·exact hl
  obtain⟨k,hk⟩:∃k,colonAt h.n=some k:=by
   unfold chTag at htg
   rw[if_neg (by omega)]at htg
   cases hk:colonAt h.n with
   |none=>rw[hk]at htg;cases htg
   |some k=>exact⟨k,rfl⟩
  have hkl:=(colonAt_some hk).1
  have hSs:S.size≤253:=by rw[←len_list,hSl];exact hnl
  have hkS:k≤S.size:=by rw[←len_list,hSl];omega
  have HV:Hid (ascii asciiL h=(⟨4,tagS h.n,h.a⟩,0)):=by show _=_;unfold ascii;rw[if_pos hck,if_neg k1,if_pos k4]
  have HIX:=Tryz.strings_IndexByte S 58 w1
  rw[show(58:Int).toNat.toUInt8=58 from rfl,index_colon,hSl,hk]at HIX
  have HIX2:Hid (Calls Tryz.prog 114 #[.string S,.int .u8 58] w1 fun e w'=>e=.returned (.int .i64 (k:Int))∧w'=w1):=HIX
  have HSM:Hid (∀wx,Calls Tryz.prog 115 #[.string (S.extract 0 k)] wx fun e w'=>e=.returned (.string (smS (S.extract 0 k)))∧Below wx.heap.size wx w'):=fun wx=>small_any (S.extract 0 k) wx (by have:=ext_size S k;unfold maxLen;omega)
  have HTG:Hid ((⟨(tagS h.n).toArray⟩:ByteArray)=smS (S.extract 0 k)++S.extract k S.size):=by
   show _=_
   have e2:S.extract k S.size=⟨(h.n.drop k).toArray⟩:=by
    have:=ext_drop S k
    rw[hSl]at this
    rw[←this]
   rw[tagS_some hk,e2]
   unfold smS
   rw[ext_take,hSl,str_append]
  have hss:(smS (S.extract 0 k)).size≤253:=by
   show(sml (S.extract 0 k).data.toList).toArray.size≤_
   rw[List.size_toArray,sml_len,len_list]
   have:=ext_size S k
   omega
  generalize smS (S.extract 0 k)=sm at HSM HTG hss
  have ad1:∀W,(Op.stringOp .add sm (S.extract k S.size)).run Tryz.prog W=.ok (.string (sm++S.extract k S.size)) W:=fun W=>run_string_add_sum _ _ _ (by rw[ByteArray.size_extract];omega)
  have hkk:(k:Int)≤(S.size:Int):=by omega
  have hkm:min k S.size=k:=by omega
  clear hck hS hSl hnl hk htg HIX k1 hkl
  go_wp2_with fail
  refine HIX2.out.mono ?_
  rintro e w2 ⟨rfl,rfl⟩
  clear HIX2
  go_upto_region 12 with fail
  have HSV:Hid (∀wx,Below w2.heap.size w2 wx→wx.cell? ⟨w.heap.size,1,none⟩=some (.string S)):=fun wx hb=>(hb.cell (p:=⟨w.heap.size,1,none⟩) (by show w.heap.size<w2.heap.size;omega)).trans c1
  have hS0:=HSV.out w2.drew (Below.refl _ w2).drew
  refine wp_region_late (fun wx=>wx.cell? ⟨w.heap.size,1,none⟩=some (.string S)) 11 (by kernel_rfl) hS0 (fun hHeld=>?_)
  refine tk8 0 (some 35) _ ?_
  simp only[Act.put,pA,pB,pC]
  refine tk8 1 (some 36) _ ?_
  simp only[Act.put,pA,pB,pC]
  refine tk8 2 (some 37) _ ?_
  simp only[Act.put,pA,pB,pC]
  refine tk8 3 (some 38) (.string (S.extract 0 k)) ?_
  simp only[Act.put,pA,pB,pC]
  refine tk8 5 (some 40) _ ?_
  simp only[Act.put,pA,pB,pC]
  refine tk8 6 (some 41) _ ?_
  simp only[Act.put,pA,pB,pC]
  refine tk8 7 (some 42) _ ?_
  simp only[Act.put,pA,pB,pC]
  refine tk8 8 (some 43) (.string (S.extract k S.size)) ?_
  simp only[Act.put,pA,pB,pC]
  refine on9 4 ?_
  go_simp
  refine Calls.mono (HSM.out _) ?_
  rintro e w3 ⟨rfl,hb3⟩
  have hb3':Below w2.heap.size w2 w3:=(Below.refl _ w2).drew.trans hb3
  have hS3:=HSV.out _ hb3'
  refine⟨hS3,?_⟩
  refine tk8 9 (some 44) (.string (sm++S.extract k S.size)) ?_
  simp only[Act.put,pA,pB,pC]
  refine tk8 10 (some 45) _ ?_
  simp only[Act.put,pA,pB,pC]
  have J1:Lies w3 w.heap.size (hostC h) 25:=K1h.below hb3' K1h.lt
  have J2:Lies w3 (w.heap.size+1) #[.int .i64 0,.string ⟨#[]⟩,.int .u8 0,.int .u8 0,.int .u8 0,.int .u8 0,.int .u8 0,.int .u8 0,.int .u8 0,.int .u8 0,.int .u8 0,.int .u8 0,.int .u8 0,.int .u8 0,.int .u8 0,.int .u8 0,.int .u8 0,.int .u8 0] 25:=K2.out.below hb3' K2.out.lt
  have JB:Below w.heap.size w w3:=KB.out.trans (hb3'.mono (Nat.le_of_lt K1.out.lt))
  have hf3:=J1.frozen 1
  have J3:Hid (Lies (w3.setCell ⟨w.heap.size,1,none⟩ (.string (sm++S.extract k S.size))) w.heap.size (hostC ⟨4,tagS h.n,h.a⟩) 25):=by
   have:=J1.set 1 (.string (sm++S.extract k S.size))
   rw[←HTG.out,hostC_name,k4]at this
   rw[←HTG.out]
   exact this
  have J4:Hid (Lies (w3.setCell ⟨w.heap.size,1,none⟩ (.string (sm++S.extract k S.size))) (w.heap.size+1) #[.int .i64 0,.string ⟨#[]⟩,.int .u8 0,.int .u8 0,.int .u8 0,.int .u8 0,.int .u8 0,.int .u8 0,.int .u8 0,.int .u8 0,.int .u8 0,.int .u8 0,.int .u8 0,.int .u8 0,.int .u8 0,.int .u8 0,.int .u8 0,.int .u8 0] 25):=J2.set_other (a:=⟨w.heap.size,1,none⟩) (by show w.heap.size+1≠w.heap.size;omega) _
  have JB4:Hid (Below w.heap.size w (w3.setCell ⟨w.heap.size,1,none⟩ (.string (sm++S.extract k S.size)))):=JB.setCell (p:=⟨w.heap.size,1,none⟩) (Nat.le_refl _) _
  refine on9 11 ?_
  have hz3:=J2.lt
  clear J1 J2 JB hb3 hHeld hS0 hb3'
  go_simp
  refine wpAnyE_done (by kernel_rfl) ?_ _
  generalize w3.setCell ⟨w.heap.size,1,none⟩ (.string (sm++S.extract k S.size))=w4 at J3 J4 JB4 ⊢
  have hzz:=hostC_size ⟨4,tagS h.n,h.a⟩ ha
  have hoo:=hostC_one ⟨4,tagS h.n,h.a⟩
  obtain⟨X,hX⟩:∃X,X=hostC ⟨4,tagS h.n,h.a⟩:=⟨_,rfl⟩
  rw[←hX]at J3 hzz hoo
  have HX:Hid (X=hostC ⟨4,tagS h.n,h.a⟩):=hX
  have hz4:=J4.out.lt
  clear hX hf3 hS3 hz3 c0 c1 k4
  go_wp2_with (first|(refine wpList_load_row rfl 25 _ rfl w.heap.size rfl X 25 _ J3.out Tryz.underlying25 rfl (by rw[hzz];exact infoHo) ?_)|(refine wpList_store_row rfl 25 _ _ rfl (w.heap.size+1) rfl _ X rfl 25 J4.out (by rw[hzz];exact infoHo) (by rw[hzz];rfl) hoo rfl ?_))
  exact bodyPost_ret (results_mix (p:=2) (q:=3) (by kernel_rfl) _ _ (w.heap.size+1) ⟨4,tagS h.n,h.a⟩ ha (.int .i64 0) rfl rfl (by rw[←HX.out];exact J4.out.row _)) rfl ⟨by rw[HV.out];rfl,below_row JB4.out (by omega) _⟩
 have k4':(h.k==4)=false:=by rw[beq_eq_false_iff_ne];exact k4
 have HV:Hid (ascii asciiL h=(h,0)):=by show _=_;unfold ascii;rw[if_pos hck,if_neg k1,if_neg k4]
 have hoo:HC.all (·.oneCell')=true:=by rw[HHC.out];exact hostC_one h
 clear k1 k4 hck hS hSl
 go_wp2_with (first|(refine wpList_load_row rfl 25 _ rfl w.heap.size rfl HC 25 _ K1.out Tryz.underlying25 rfl (by rw[hsz];exact infoHo) ?_)|(refine wpList_store_row rfl 25 _ _ rfl (w.heap.size+1) rfl _ HC rfl 25 K2.out (by rw[hsz];exact infoHo) (by rw[hsz];rfl) hoo rfl ?_))
 exact bodyPost_ret (results_mix (p:=2) (q:=3) (by kernel_rfl) _ _ (w.heap.size+1) h ha (.int .i64 0) rfl rfl (by rw[←HHC.out];exact K2.out.row _)) rfl ⟨by rw[HV.out];rfl,below_row KB.out (by omega) _⟩
open Go.RowKit
theorem cutGo_set:∀(a:List Nat) (i:Nat) (bits:Int) (j:Nat),j<a.length→(cutGo i bits (a.take j)++a.drop j).set j (cutB (i+j) bits (a.getD j 0))=cutGo i bits (a.take (j+1))++a.drop (j+1)
 |[],_,_,_,h=>by simp at h
 |x::a,i,bits,0,_=>by simp[cutGo]
 |x::a,i,bits,j+1,h=>by
  have:=cutGo_set a (i+1) bits j (by simpa using h)
  rw[List.take_succ_cons,List.drop_succ_cons,cutGo,List.cons_append,List.set_cons_succ,List.take_succ_cons,List.drop_succ_cons,cutGo,List.cons_append,List.getD_cons_succ,show i+(j+1)=i+1+j from by omega,this]
structure CuS (w:World) (a:List Nat) (bits:Int) (i:Nat) (wr:World):Prop where
 a:Lies wr w.heap.size (bytesV (cutGo 0 bits (a.take i)++a.drop i)) 23
 r:Lies wr (w.heap.size+1) (bytesV (List.replicate 16 0)) 23
 below:Below w.heap.size w wr
theorem cut_keep (a:List Nat) (bits:Int) (i:Nat) (hi:i<a.length) (h:¬bits - 8*i<8):cutGo 0 bits (a.take (i+1))++a.drop (i+1)=cutGo 0 bits (a.take i)++a.drop i:=by
 rw[←cutGo_set a 0 bits i hi]
 have e:cutB (0+i) bits (a.getD i 0)=a.getD i 0:=by unfold cutB;rw[Nat.zero_add,if_neg h]
 rw[e]
 apply List.ext_getElem?
 intro j
 rw[List.getElem?_set]
 split
 ·rename_i hj
  subst hj
  have hl:(cutGo 0 bits (a.take i)).length=i:=by
   have:∀(l:List Nat) (k:Nat),(cutGo k bits l).length=l.length:=fun l=>by
    induction l with
    |nil=>intro k;rfl
    |cons x l ih=>intro k;rw[cutGo,List.length_cons,List.length_cons,ih]
   rw[this,List.length_take]
   omega
  rw[List.getElem?_append_right (by omega),hl,Nat.sub_self,List.getElem?_drop,Nat.add_zero,List.getD_eq_getElem?_getD,List.getElem?_eq_getElem hi]
  rw[if_pos (by rw[List.length_append,hl,List.length_drop];omega)]
  rfl
 ·rfl
theorem CuS.put {w wr:World} {a:List Nat} {bits:Int} {i:Nat} (h:CuS w a bits i wr) (hi:i<a.length) (v:Nat) (hv:cutB i bits (a.getD i 0)=v):CuS w a bits (i+1) (wr.setCell ⟨w.heap.size,i,none⟩ (.int .u8 (v:Nat))):=by
 refine⟨?_,h.r.set_other (a:=⟨w.heap.size,i,none⟩) (by show w.heap.size+1≠w.heap.size;omega) _,h.below.setCell (p:=⟨w.heap.size,i,none⟩) (Nat.le_refl _) _⟩
 have:=h.a.set i (.int .u8 (v:Nat))
 rw[bytesV_set,←hv]at this
 have e:=cutGo_set a 0 bits i hi
 rw[Nat.zero_add]at e
 rw[e]at this
 rw[←hv]
 exact this
theorem CuS.keep {w wr:World} {a:List Nat} {bits:Int} {i:Nat} (h:CuS w a bits i wr) (hi:i<a.length) (hn:¬bits - 8*i<8):CuS w a bits (i+1) wr:=by
 refine⟨?_,h.r,h.below⟩
 rw[cut_keep a bits i hi hn]
 exact h.a
end Go.Proofs.YtfjpkfhbmldmfaaGreatDoor
