/-
  The document's whole6: the walk.
-/
import Derived.Test.YtfjpkfhbmldmfaaGreatDoorRu8
import Derived.Test.YtfjpkfhbmldmfaaGreatDoorREnc
namespace Go.Proofs.YtfjpkfhbmldmfaaGreatDoor
open Go.RowKit
set_option maxHeartbeats 16000000 in
set_option maxRecDepth 100000 in
theorem rw6_any (s:ByteArray) (w:World) (hT:∃m,w.cell? ⟨2,0,none⟩=some (.int .i64 m)) (hs:s.size≤2000000):Calls Tryz.prog 160 #[.string s] w fun e w'=>e=.returned (w6V s.data.toList)∧Below w.heap.size w w':=by
 have HT:Hid (∀wx,Below w.heap.size w wx→∃m,wx.cell? ⟨2,0,none⟩=some (.int .i64 m)):=fun wx hx=>by
  obtain⟨m,hm⟩:=hT
  exact⟨m,(hx.cell (p:=⟨2,0,none⟩) (World.block_lt_of_cell? w _ hm)).trans hm⟩
 clear hT
 have RR:Hid (Lies ((w.alloc (.cells #[.int .u8 0,.int .u8 0,.int .u8 0,.int .u8 0,.int .u8 0,.int .u8 0,.int .u8 0,.int .u8 0,.int .u8 0,.int .u8 0,.int .u8 0,.int .u8 0,.int .u8 0,.int .u8 0,.int .u8 0,.int .u8 0] 23)).alloc (.cells #[.int .u8 0,.int .u8 0,.int .u8 0,.int .u8 0,.int .u8 0,.int .u8 0,.int .u8 0,.int .u8 0,.int .u8 0,.int .u8 0,.int .u8 0,.int .u8 0,.int .u8 0,.int .u8 0,.int .u8 0,.int .u8 0] 23)) w.heap.size #[.int .u8 0,.int .u8 0,.int .u8 0,.int .u8 0,.int .u8 0,.int .u8 0,.int .u8 0,.int .u8 0,.int .u8 0,.int .u8 0,.int .u8 0,.int .u8 0,.int .u8 0,.int .u8 0,.int .u8 0,.int .u8 0] 23):=(Lies.new w _ _).alloc _
 have AA:Hid (Lies ((w.alloc (.cells #[.int .u8 0,.int .u8 0,.int .u8 0,.int .u8 0,.int .u8 0,.int .u8 0,.int .u8 0,.int .u8 0,.int .u8 0,.int .u8 0,.int .u8 0,.int .u8 0,.int .u8 0,.int .u8 0,.int .u8 0,.int .u8 0] 23)).alloc (.cells #[.int .u8 0,.int .u8 0,.int .u8 0,.int .u8 0,.int .u8 0,.int .u8 0,.int .u8 0,.int .u8 0,.int .u8 0,.int .u8 0,.int .u8 0,.int .u8 0,.int .u8 0,.int .u8 0,.int .u8 0,.int .u8 0] 23)) (w.heap.size+1) #[.int .u8 0,.int .u8 0,.int .u8 0,.int .u8 0,.int .u8 0,.int .u8 0,.int .u8 0,.int .u8 0,.int .u8 0,.int .u8 0,.int .u8 0,.int .u8 0,.int .u8 0,.int .u8 0,.int .u8 0,.int .u8 0] 23):=new_one w _ _ _
 have KX:Hid (Below w.heap.size w ((w.alloc (.cells #[.int .u8 0,.int .u8 0,.int .u8 0,.int .u8 0,.int .u8 0,.int .u8 0,.int .u8 0,.int .u8 0,.int .u8 0,.int .u8 0,.int .u8 0,.int .u8 0,.int .u8 0,.int .u8 0,.int .u8 0,.int .u8 0] 23)).alloc (.cells #[.int .u8 0,.int .u8 0,.int .u8 0,.int .u8 0,.int .u8 0,.int .u8 0,.int .u8 0,.int .u8 0,.int .u8 0,.int .u8 0,.int .u8 0,.int .u8 0,.int .u8 0,.int .u8 0,.int .u8 0,.int .u8 0] 23))):=((Below.refl _ _).alloc (Nat.le_refl _) _).alloc (by simp) _
 have HCT:Hid (∀wx,Below w.heap.size w wx→Calls Tryz.prog 116 #[.string s,.string ⟨#[58,58]⟩] wx fun e w'=>e=.returned (.tuple #[.string ⟨(Lib.cut s.data.toList [58,58]).1.toArray⟩,.string ⟨(Lib.cut s.data.toList [58,58]).2.1.toArray⟩,.bool (Lib.cut s.data.toList [58,58]).2.2])∧∃n,w'=wx.drewN n):=fun wx hx=>by
  obtain⟨m,hm⟩:=HT.out wx hx
  exact Tryz.strings_Cut s ⟨#[58,58]⟩ m wx (by omega) hm
 go_enter Tryz.func160,Tryz.ntmps160
 go_upto_region 2 with fail
 generalize (w.alloc (.cells #[.int .u8 0,.int .u8 0,.int .u8 0,.int .u8 0,.int .u8 0,.int .u8 0,.int .u8 0,.int .u8 0,.int .u8 0,.int .u8 0,.int .u8 0,.int .u8 0,.int .u8 0,.int .u8 0,.int .u8 0,.int .u8 0] 23)).alloc (.cells #[.int .u8 0,.int .u8 0,.int .u8 0,.int .u8 0,.int .u8 0,.int .u8 0,.int .u8 0,.int .u8 0,.int .u8 0,.int .u8 0,.int .u8 0,.int .u8 0,.int .u8 0,.int .u8 0,.int .u8 0,.int .u8 0] 23)=v0 at RR AA KX ⊢
 cases hcu:cut2 s.data.toList with
 |none=>
  have hcc:=cut_cut2 s.data.toList
  rw[hcu]at hcc
  have HCU:Hid (Calls Tryz.prog 116 #[.string s,.string ⟨#[58,58]⟩] v0 fun e w'=>e=.returned (.tuple #[.string s,.string ⟨#[]⟩,.bool false])∧∃n,w'=v0.drewN n):=by
   have:=HCT.out v0 KX.out
   rw[hcc]at this
   rw[show(⟨s.data.toList.toArray⟩:ByteArray)=s from by simp]at this
   exact this
  have HW:Hid (whole6 s.data.toList=match groupsD s.data.toList true with
   |some b=>if b.length=16 then some b else none
   |none=>none):=by show _=_;unfold whole6;rw[hcu];rfl
  have HG:=rgrp_any s true
  clear HCT hcc hcu
  go_wp2_with fail
  refine HCU.out.mono ?_
  rintro e y1 ⟨rfl,n,hy1⟩
  have hb1:Below v0.heap.size v0 y1:=by rw[hy1];exact⟨rfl,rfl,rfl,Nat.le_refl _,fun _ _=>rfl⟩
  have AAn:Hid (Lies y1 (w.heap.size+1) #[.int .u8 0,.int .u8 0,.int .u8 0,.int .u8 0,.int .u8 0,.int .u8 0,.int .u8 0,.int .u8 0,.int .u8 0,.int .u8 0,.int .u8 0,.int .u8 0,.int .u8 0,.int .u8 0,.int .u8 0,.int .u8 0] 23):=AA.out.below hb1 AA.out.lt
  have RRn:Hid (Lies y1 w.heap.size #[.int .u8 0,.int .u8 0,.int .u8 0,.int .u8 0,.int .u8 0,.int .u8 0,.int .u8 0,.int .u8 0,.int .u8 0,.int .u8 0,.int .u8 0,.int .u8 0,.int .u8 0,.int .u8 0,.int .u8 0,.int .u8 0] 23):=RR.out.below hb1 RR.out.lt
  have KXn:Hid (Below w.heap.size w y1):=KX.out.trans (hb1.mono KX.out.size)
  clear AA RR KX
  have AA:=AAn
  have RR:=RRn
  have KX:=KXn
  clear AAn RRn KXn
  clear hb1 hy1 HCU
  have HG2:=HG y1 (HT.out _ KX.out) hs
  clear HG
  go_wp2_with fail
  refine HG2.mono ?_
  rintro e y2 ⟨⟨v,rfl,hv⟩,hb2⟩
  have AAn:Hid (Lies y2 (w.heap.size+1) #[.int .u8 0,.int .u8 0,.int .u8 0,.int .u8 0,.int .u8 0,.int .u8 0,.int .u8 0,.int .u8 0,.int .u8 0,.int .u8 0,.int .u8 0,.int .u8 0,.int .u8 0,.int .u8 0,.int .u8 0,.int .u8 0] 23):=AA.out.below hb2 AA.out.lt
  have RRn:Hid (Lies y2 w.heap.size #[.int .u8 0,.int .u8 0,.int .u8 0,.int .u8 0,.int .u8 0,.int .u8 0,.int .u8 0,.int .u8 0,.int .u8 0,.int .u8 0,.int .u8 0,.int .u8 0,.int .u8 0,.int .u8 0,.int .u8 0,.int .u8 0] 23):=RR.out.below hb2 RR.out.lt
  have KXn:Hid (Below w.heap.size w y2):=KX.out.trans (hb2.mono KX.out.size)
  clear AA RR KX
  have AA:=AAn
  have RR:=RRn
  have KX:=KXn
  clear AAn RRn KXn
  clear hb2 HG2
  have hzy:=AA.out.lt
  cases hgd:groupsD s.data.toList true with
  |none=>
   rw[hgd]at hv
   obtain rfl:v=.tuple #[.slice none 0 0,.bool false]:=hv
   have HR:Hid (w6V s.data.toList=.tuple #[.agg #[.int .u8 0,.int .u8 0,.int .u8 0,.int .u8 0,.int .u8 0,.int .u8 0,.int .u8 0,.int .u8 0,.int .u8 0,.int .u8 0,.int .u8 0,.int .u8 0,.int .u8 0,.int .u8 0,.int .u8 0,.int .u8 0],.bool false]):=w6_none (by rw[HW.out,hgd])
   clear HW hgd
   go_wp2_with (first|(refine wpList_load_row rfl 23 _ rfl (w.heap.size+1) rfl #[.int .u8 0,.int .u8 0,.int .u8 0,.int .u8 0,.int .u8 0,.int .u8 0,.int .u8 0,.int .u8 0,.int .u8 0,.int .u8 0,.int .u8 0,.int .u8 0,.int .u8 0,.int .u8 0,.int .u8 0,.int .u8 0] 23 _ AA.out Tryz.underlying23 rfl info16 ?_)|(refine wpList_store_row rfl 23 _ _ rfl w.heap.size rfl _ #[.int .u8 0,.int .u8 0,.int .u8 0,.int .u8 0,.int .u8 0,.int .u8 0,.int .u8 0,.int .u8 0,.int .u8 0,.int .u8 0,.int .u8 0,.int .u8 0,.int .u8 0,.int .u8 0,.int .u8 0,.int .u8 0] rfl 23 RR.out info16 rfl (by simp[Value.oneCell']) rfl ?_))
   exact bodyPost_ret (results_mixR (p:=2) (q:=3) (by kernel_rfl) _ _ w.heap.size _ _ (.bool false) rfl rfl (RR.out.row _) Tryz.underlying23 rfl info16) rfl ⟨by rw[HR.out],below_row KX.out (Nat.le_refl _) _⟩
  |some b=>
   rw[hgd]at hv
   obtain⟨u,rfl,hown⟩:=hv
   obtain⟨ua,uc,rfl,_⟩:=own_u8 hown
   by_cases h16:b.length=16
   ·have h16b:((b.length:Int) != 16)=false:=by rw[h16];rfl
    have HR:Hid (w6V s.data.toList=.tuple #[.agg (bytesV b),.bool true]):=w6_some (by rw[HW.out,hgd];exact if_pos h16)
    obtain⟨w3,hrun,hl3,hw3⟩:=copy_u8 (g:=w.heap.size+1) (o:=0) (dLen:=16) (dCap:=16) hown AA.out (by omega) (by rw[h16];decide) (some ⟨w.heap.size+1,0,none⟩) (fun _=>rfl)
    have hnew:(#[.int .u8 0,.int .u8 0,.int .u8 0,.int .u8 0,.int .u8 0,.int .u8 0,.int .u8 0,.int .u8 0,.int .u8 0,.int .u8 0,.int .u8 0,.int .u8 0,.int .u8 0,.int .u8 0,.int .u8 0,.int .u8 0]:Array Value).toList.take 0++cells8 b++(#[.int .u8 0,.int .u8 0,.int .u8 0,.int .u8 0,.int .u8 0,.int .u8 0,.int .u8 0,.int .u8 0,.int .u8 0,.int .u8 0,.int .u8 0,.int .u8 0,.int .u8 0,.int .u8 0,.int .u8 0,.int .u8 0]:Array Value).toList.drop (0+b.length)=cells8 b:=by rw[h16];simp
    rw[hnew]at hl3 hw3
    have AA3:Hid (Lies w3 (w.heap.size+1) (bytesV b) 23):=hl3
    have RR3:Hid (Lies w3 w.heap.size #[.int .u8 0,.int .u8 0,.int .u8 0,.int .u8 0,.int .u8 0,.int .u8 0,.int .u8 0,.int .u8 0,.int .u8 0,.int .u8 0,.int .u8 0,.int .u8 0,.int .u8 0,.int .u8 0,.int .u8 0,.int .u8 0] 23):=by
     rcases hw3 with h|h
     ·rw[h];exact RR.out
     ·rw[h];exact RR.out.row_other (by omega) _
    have KX3:Hid (Below w.heap.size w w3):=by
     rcases hw3 with h|h
     ·rw[h];exact KX.out
     ·rw[h];exact below_row KX.out (by omega) _
    have hVz:(bytesV b).size=16:=by rw[bytesV_size,h16]
    have hVo:(bytesV b).all (·.oneCell')=true:=by
     rw[Array.all_eq_true_iff_forall_mem]
     intro v hv
     exact cells8_one b v (by unfold bytesV at hv;exact List.mem_toArray.1 hv)
    rw[h16]at hrun
    generalize bytesV b=V at HR AA3 hVz hVo
    have hlu:(b.length:Int)=16:=by omega
    clear hl3 hw3 hnew HW hgd hown AA RR KX
    rw[h16]
    clear h16 h16b hlu
    have AA:=AA3
    have RR:=RR3
    have KX:=KX3
    clear AA3 RR3 KX3
    go_upto_region 8 with fail
    clear hrun
    go_wp2_with (first|(refine wpList_load_row rfl 23 _ rfl (w.heap.size+1) rfl V 23 _ AA.out Tryz.underlying23 rfl (by rw[hVz];exact info16) ?_)|(refine wpList_store_row rfl 23 _ _ rfl w.heap.size rfl _ V rfl 23 RR.out (by rw[hVz];exact info16) (by rw[hVz];rfl) hVo rfl ?_))
    exact bodyPost_ret (results_mixR (p:=2) (q:=3) (by kernel_rfl) _ _ w.heap.size _ _ (.bool true) rfl rfl (RR.out.row _) Tryz.underlying23 rfl (by rw[hVz];exact info16)) rfl ⟨by rw[HR.out],below_row KX.out (Nat.le_refl _) _⟩
   ·have h16b:((b.length:Int) != 16)=true:=by rw[bne_iff_ne];omega
    have HR:Hid (w6V s.data.toList=.tuple #[.agg #[.int .u8 0,.int .u8 0,.int .u8 0,.int .u8 0,.int .u8 0,.int .u8 0,.int .u8 0,.int .u8 0,.int .u8 0,.int .u8 0,.int .u8 0,.int .u8 0,.int .u8 0,.int .u8 0,.int .u8 0,.int .u8 0],.bool false]):=w6_none (by rw[HW.out,hgd];exact if_neg h16)
    clear HW hgd h16 hown
    go_wp2_with (first|(refine wpList_load_row rfl 23 _ rfl (w.heap.size+1) rfl #[.int .u8 0,.int .u8 0,.int .u8 0,.int .u8 0,.int .u8 0,.int .u8 0,.int .u8 0,.int .u8 0,.int .u8 0,.int .u8 0,.int .u8 0,.int .u8 0,.int .u8 0,.int .u8 0,.int .u8 0,.int .u8 0] 23 _ AA.out Tryz.underlying23 rfl info16 ?_)|(refine wpList_store_row rfl 23 _ _ rfl w.heap.size rfl _ #[.int .u8 0,.int .u8 0,.int .u8 0,.int .u8 0,.int .u8 0,.int .u8 0,.int .u8 0,.int .u8 0,.int .u8 0,.int .u8 0,.int .u8 0,.int .u8 0,.int .u8 0,.int .u8 0,.int .u8 0,.int .u8 0] rfl 23 RR.out info16 rfl (by simp[Value.oneCell']) rfl ?_))
    exact bodyPost_ret (results_mixR (p:=2) (q:=3) (by kernel_rfl) _ _ w.heap.size _ _ (.bool false) rfl rfl (RR.out.row _) Tryz.underlying23 rfl info16) rfl ⟨by rw[HR.out],below_row KX.out (Nat.le_refl _) _⟩
 |some x=>
  obtain⟨hd,tl⟩:=x
  have hcc:=cut_cut2 s.data.toList
  rw[hcu]at hcc
  have hat:=cut2_at _ _ _ hcu
  have hlen:hd.length+tl.length+2=s.size:=by
   have:=congrArg List.length hat
   rw[len_list]at this
   simp at this
   omega
  have HCU:Hid (Calls Tryz.prog 116 #[.string s,.string ⟨#[58,58]⟩] v0 fun e w'=>e=.returned (.tuple #[.string ⟨hd.toArray⟩,.string ⟨tl.toArray⟩,.bool true])∧∃n,w'=v0.drewN n):=by
   have:=HCT.out v0 KX.out
   rw[hcc]at this
   exact this
  have HW:Hid (whole6 s.data.toList=match groupsD hd false,groupsD tl true with
   |some b,some c=>if b.length+c.length≤12 then some (b++List.replicate (16 - b.length - c.length) 0++c) else none
   |_,_=>none):=by show _=_;unfold whole6;rw[hcu];rfl
  have HGA:Hid (∀wx,Below w.heap.size w wx→Calls Tryz.prog 188 #[.string ⟨hd.toArray⟩,.bool false] wx fun e w'=>(∃v,e=.returned v∧GrpA (groupsD hd false) wx.heap.size v w')∧Below wx.heap.size wx w'):=fun wx hx=>by
   have:=rgrp_any ⟨hd.toArray⟩ false wx (HT.out wx hx) (by show hd.toArray.size≤_;rw[List.size_toArray];omega)
   rw[str_list]at this
   exact this
  have HGB:Hid (∀wx,Below w.heap.size w wx→Calls Tryz.prog 188 #[.string ⟨tl.toArray⟩,.bool true] wx fun e w'=>(∃v,e=.returned v∧GrpA (groupsD tl true) wx.heap.size v w')∧Below wx.heap.size wx w'):=fun wx hx=>by
   have:=rgrp_any ⟨tl.toArray⟩ true wx (HT.out wx hx) (by show tl.toArray.size≤_;rw[List.size_toArray];omega)
   rw[str_list]at this
   exact this
  generalize (⟨hd.toArray⟩:ByteArray)=XH at HCU HGA
  generalize (⟨tl.toArray⟩:ByteArray)=XT at HCU HGB
  clear HCT hcc hcu hat
  go_wp2_with fail
  refine HCU.out.mono ?_
  rintro e y1 ⟨rfl,n,hy1⟩
  have hb1:Below v0.heap.size v0 y1:=by rw[hy1];exact⟨rfl,rfl,rfl,Nat.le_refl _,fun _ _=>rfl⟩
  have AAn:Hid (Lies y1 (w.heap.size+1) #[.int .u8 0,.int .u8 0,.int .u8 0,.int .u8 0,.int .u8 0,.int .u8 0,.int .u8 0,.int .u8 0,.int .u8 0,.int .u8 0,.int .u8 0,.int .u8 0,.int .u8 0,.int .u8 0,.int .u8 0,.int .u8 0] 23):=AA.out.below hb1 AA.out.lt
  have RRn:Hid (Lies y1 w.heap.size #[.int .u8 0,.int .u8 0,.int .u8 0,.int .u8 0,.int .u8 0,.int .u8 0,.int .u8 0,.int .u8 0,.int .u8 0,.int .u8 0,.int .u8 0,.int .u8 0,.int .u8 0,.int .u8 0,.int .u8 0,.int .u8 0] 23):=RR.out.below hb1 RR.out.lt
  have KXn:Hid (Below w.heap.size w y1):=KX.out.trans (hb1.mono KX.out.size)
  clear AA RR KX
  have AA:=AAn
  have RR:=RRn
  have KX:=KXn
  clear AAn RRn KXn
  clear hb1 hy1 HCU
  go_wp2_with fail
  refine(HGA.out _ KX.out).mono ?_
  rintro e y2 ⟨⟨v,rfl,hv⟩,hb2⟩
  have AAn:Hid (Lies y2 (w.heap.size+1) #[.int .u8 0,.int .u8 0,.int .u8 0,.int .u8 0,.int .u8 0,.int .u8 0,.int .u8 0,.int .u8 0,.int .u8 0,.int .u8 0,.int .u8 0,.int .u8 0,.int .u8 0,.int .u8 0,.int .u8 0,.int .u8 0] 23):=AA.out.below hb2 AA.out.lt
  have RRn:Hid (Lies y2 w.heap.size #[.int .u8 0,.int .u8 0,.int .u8 0,.int .u8 0,.int .u8 0,.int .u8 0,.int .u8 0,.int .u8 0,.int .u8 0,.int .u8 0,.int .u8 0,.int .u8 0,.int .u8 0,.int .u8 0,.int .u8 0,.int .u8 0] 23):=RR.out.below hb2 RR.out.lt
  have KXn:Hid (Below w.heap.size w y2):=KX.out.trans (hb2.mono KX.out.size)
  clear AA RR KX
  have AA:=AAn
  have RR:=RRn
  have KX:=KXn
  clear AAn RRn KXn
  clear hb2 HGA
  cases hgd:groupsD hd false with
  |none=>
   rw[hgd]at hv
   obtain rfl:v=.tuple #[.slice none 0 0,.bool false]:=hv
   have HR:Hid (w6V s.data.toList=.tuple #[.agg #[.int .u8 0,.int .u8 0,.int .u8 0,.int .u8 0,.int .u8 0,.int .u8 0,.int .u8 0,.int .u8 0,.int .u8 0,.int .u8 0,.int .u8 0,.int .u8 0,.int .u8 0,.int .u8 0,.int .u8 0,.int .u8 0],.bool false]):=w6_none (by rw[HW.out,hgd])
   clear HW hgd
   go_wp2_with fail
   refine(HGB.out _ KX.out).mono ?_
   rintro e y3 ⟨⟨v,rfl,hv⟩,hb3⟩
   have AAn:Hid (Lies y3 (w.heap.size+1) #[.int .u8 0,.int .u8 0,.int .u8 0,.int .u8 0,.int .u8 0,.int .u8 0,.int .u8 0,.int .u8 0,.int .u8 0,.int .u8 0,.int .u8 0,.int .u8 0,.int .u8 0,.int .u8 0,.int .u8 0,.int .u8 0] 23):=AA.out.below hb3 AA.out.lt
   have RRn:Hid (Lies y3 w.heap.size #[.int .u8 0,.int .u8 0,.int .u8 0,.int .u8 0,.int .u8 0,.int .u8 0,.int .u8 0,.int .u8 0,.int .u8 0,.int .u8 0,.int .u8 0,.int .u8 0,.int .u8 0,.int .u8 0,.int .u8 0,.int .u8 0] 23):=RR.out.below hb3 RR.out.lt
   have KXn:Hid (Below w.heap.size w y3):=KX.out.trans (hb3.mono KX.out.size)
   clear AA RR KX
   have AA:=AAn
   have RR:=RRn
   have KX:=KXn
   clear AAn RRn KXn
   clear hb3 HGB
   have hzy:=AA.out.lt
   obtain⟨vu,vb,rfl⟩:∃a b,v=.tuple #[a,.bool b]:=by
    cases hgt:groupsD tl true with
    |none=>rw[hgt]at hv;exact⟨_,_,hv⟩
    |some c=>rw[hgt]at hv;obtain⟨u,h,_⟩:=hv;exact⟨_,_,h⟩
   clear hv
   go_wp2_with (first|(refine wpList_load_row rfl 23 _ rfl (w.heap.size+1) rfl #[.int .u8 0,.int .u8 0,.int .u8 0,.int .u8 0,.int .u8 0,.int .u8 0,.int .u8 0,.int .u8 0,.int .u8 0,.int .u8 0,.int .u8 0,.int .u8 0,.int .u8 0,.int .u8 0,.int .u8 0,.int .u8 0] 23 _ AA.out Tryz.underlying23 rfl info16 ?_)|(refine wpList_store_row rfl 23 _ _ rfl w.heap.size rfl _ #[.int .u8 0,.int .u8 0,.int .u8 0,.int .u8 0,.int .u8 0,.int .u8 0,.int .u8 0,.int .u8 0,.int .u8 0,.int .u8 0,.int .u8 0,.int .u8 0,.int .u8 0,.int .u8 0,.int .u8 0,.int .u8 0] rfl 23 RR.out info16 rfl (by simp[Value.oneCell']) rfl ?_))
   exact bodyPost_ret (results_mixR (p:=2) (q:=3) (by kernel_rfl) _ _ w.heap.size _ _ (.bool false) rfl rfl (RR.out.row _) Tryz.underlying23 rfl info16) rfl ⟨by rw[HR.out],below_row KX.out (Nat.le_refl _) _⟩
  |some b=>
   rw[hgd]at hv
   obtain⟨u,rfl,hown⟩:=hv
   obtain⟨ua,uc,rfl,_⟩:=own_u8 hown
   have HOB:Hid (y2.ownsRow y1.heap.size 5 1 (.slice ua b.length uc) b.length (cells8 b)):=hown
   clear hown
   go_wp2_with fail
   refine(HGB.out _ KX.out).mono ?_
   rintro e y3 ⟨⟨v,rfl,hv⟩,hb3⟩
   have HO3:Hid (y3.ownsRow y1.heap.size 5 1 (.slice ua b.length uc) b.length (cells8 b)):=ownN_below HOB.out hb3
   have AAn:Hid (Lies y3 (w.heap.size+1) #[.int .u8 0,.int .u8 0,.int .u8 0,.int .u8 0,.int .u8 0,.int .u8 0,.int .u8 0,.int .u8 0,.int .u8 0,.int .u8 0,.int .u8 0,.int .u8 0,.int .u8 0,.int .u8 0,.int .u8 0,.int .u8 0] 23):=AA.out.below hb3 AA.out.lt
   have RRn:Hid (Lies y3 w.heap.size #[.int .u8 0,.int .u8 0,.int .u8 0,.int .u8 0,.int .u8 0,.int .u8 0,.int .u8 0,.int .u8 0,.int .u8 0,.int .u8 0,.int .u8 0,.int .u8 0,.int .u8 0,.int .u8 0,.int .u8 0,.int .u8 0] 23):=RR.out.below hb3 RR.out.lt
   have KXn:Hid (Below w.heap.size w y3):=KX.out.trans (hb3.mono KX.out.size)
   clear AA RR KX
   have AA:=AAn
   have RR:=RRn
   have KX:=KXn
   clear AAn RRn KXn
   clear hb3 HGB HOB
   have hzy:=AA.out.lt
   cases hgt:groupsD tl true with
   |none=>
    rw[hgt]at hv
    obtain rfl:v=.tuple #[.slice none 0 0,.bool false]:=hv
    have HR:Hid (w6V s.data.toList=.tuple #[.agg #[.int .u8 0,.int .u8 0,.int .u8 0,.int .u8 0,.int .u8 0,.int .u8 0,.int .u8 0,.int .u8 0,.int .u8 0,.int .u8 0,.int .u8 0,.int .u8 0,.int .u8 0,.int .u8 0,.int .u8 0,.int .u8 0],.bool false]):=w6_none (by rw[HW.out,hgd,hgt])
    clear HW hgd hgt HO3
    go_wp2_with (first|(refine wpList_load_row rfl 23 _ rfl (w.heap.size+1) rfl #[.int .u8 0,.int .u8 0,.int .u8 0,.int .u8 0,.int .u8 0,.int .u8 0,.int .u8 0,.int .u8 0,.int .u8 0,.int .u8 0,.int .u8 0,.int .u8 0,.int .u8 0,.int .u8 0,.int .u8 0,.int .u8 0] 23 _ AA.out Tryz.underlying23 rfl info16 ?_)|(refine wpList_store_row rfl 23 _ _ rfl w.heap.size rfl _ #[.int .u8 0,.int .u8 0,.int .u8 0,.int .u8 0,.int .u8 0,.int .u8 0,.int .u8 0,.int .u8 0,.int .u8 0,.int .u8 0,.int .u8 0,.int .u8 0,.int .u8 0,.int .u8 0,.int .u8 0,.int .u8 0] rfl 23 RR.out info16 rfl (by simp[Value.oneCell']) rfl ?_))
    exact bodyPost_ret (results_mixR (p:=2) (q:=3) (by kernel_rfl) _ _ w.heap.size _ _ (.bool false) rfl rfl (RR.out.row _) Tryz.underlying23 rfl info16) rfl ⟨by rw[HR.out],below_row KX.out (Nat.le_refl _) _⟩
   |some c=>
    rw[hgt]at hv
    obtain⟨u,rfl,hown⟩:=hv
    obtain⟨va,vc,rfl,_⟩:=own_u8 hown
    by_cases h12:b.length+c.length≤12
    ·have h12b:¬(12:Int)<(b.length:Int)+(c.length:Int):=by omega
     have HR:Hid (w6V s.data.toList=.tuple #[.agg (bytesV (b++List.replicate (16 - b.length - c.length) 0++c)),.bool true]):=w6_some (by rw[HW.out,hgd,hgt];exact if_pos h12)
     obtain⟨w3,hrun,hl3,hw3⟩:=copy_u8 (g:=w.heap.size+1) (o:=0) (dLen:=16) (dCap:=16) HO3.out AA.out (by omega) (by show 0+b.length≤16;omega) (some ⟨w.heap.size+1,0,none⟩) (fun _=>rfl)
     have AA3:Hid (Lies w3 (w.heap.size+1) (((#[.int .u8 0,.int .u8 0,.int .u8 0,.int .u8 0,.int .u8 0,.int .u8 0,.int .u8 0,.int .u8 0,.int .u8 0,.int .u8 0,.int .u8 0,.int .u8 0,.int .u8 0,.int .u8 0,.int .u8 0,.int .u8 0]:Array Value).toList.take 0++cells8 b++(#[.int .u8 0,.int .u8 0,.int .u8 0,.int .u8 0,.int .u8 0,.int .u8 0,.int .u8 0,.int .u8 0,.int .u8 0,.int .u8 0,.int .u8 0,.int .u8 0,.int .u8 0,.int .u8 0,.int .u8 0,.int .u8 0]:Array Value).toList.drop (0+b.length)).toArray) 23):=hl3
     have RR3:Hid (Lies w3 w.heap.size #[.int .u8 0,.int .u8 0,.int .u8 0,.int .u8 0,.int .u8 0,.int .u8 0,.int .u8 0,.int .u8 0,.int .u8 0,.int .u8 0,.int .u8 0,.int .u8 0,.int .u8 0,.int .u8 0,.int .u8 0,.int .u8 0] 23):=by
      rcases hw3 with h|h
      ·rw[h];exact RR.out
      ·rw[h];exact RR.out.row_other (by omega) _
     have KX3:Hid (Below w.heap.size w w3):=by
      rcases hw3 with h|h
      ·rw[h];exact KX.out
      ·rw[h];exact below_row KX.out (by omega) _
     have HOC:Hid (w3.ownsRow y2.heap.size 5 1 (.slice va c.length vc) c.length (cells8 c)):=by
      rcases hw3 with h|h
      ·rw[h];exact hown
      ·rw[h];exact own_row hown AA.out _
     have hMl:((#[.int .u8 0,.int .u8 0,.int .u8 0,.int .u8 0,.int .u8 0,.int .u8 0,.int .u8 0,.int .u8 0,.int .u8 0,.int .u8 0,.int .u8 0,.int .u8 0,.int .u8 0,.int .u8 0,.int .u8 0,.int .u8 0]:Array Value).toList.take 0++cells8 b++(#[.int .u8 0,.int .u8 0,.int .u8 0,.int .u8 0,.int .u8 0,.int .u8 0,.int .u8 0,.int .u8 0,.int .u8 0,.int .u8 0,.int .u8 0,.int .u8 0,.int .u8 0,.int .u8 0,.int .u8 0,.int .u8 0]:Array Value).toList.drop (0+b.length)).toArray.toList=cells8 b++List.replicate (16 - b.length) (Value.int .u8 0):=by
      rw[Nat.zero_add]
      show []++cells8 b++(List.replicate 16 (Value.int .u8 0)).drop b.length=_
      rw[List.drop_replicate]
      rfl
     generalize ((#[.int .u8 0,.int .u8 0,.int .u8 0,.int .u8 0,.int .u8 0,.int .u8 0,.int .u8 0,.int .u8 0,.int .u8 0,.int .u8 0,.int .u8 0,.int .u8 0,.int .u8 0,.int .u8 0,.int .u8 0,.int .u8 0]:Array Value).toList.take 0++cells8 b++(#[.int .u8 0,.int .u8 0,.int .u8 0,.int .u8 0,.int .u8 0,.int .u8 0,.int .u8 0,.int .u8 0,.int .u8 0,.int .u8 0,.int .u8 0,.int .u8 0,.int .u8 0,.int .u8 0,.int .u8 0,.int .u8 0]:Array Value).toList.drop (0+b.length)).toArray=M at AA3 hMl
     clear hl3 hw3 HW hgd hgt hown HO3 AA RR KX hlen
     have AA:=AA3
     have RR:=RR3
     have KX:=KX3
     clear AA3 RR3 KX3
     have h16c:c.length≤16:=by omega
     have hMs:M.size=16:=by
      have:=congrArg List.length hMl
      rw[List.length_append,cells8_len,List.length_replicate]at this
      simp at this
      omega
     obtain⟨A,hA,hsl⟩:=slice_end (w.heap.size+1) c.length h16c
     obtain⟨w4,hrun2,hl4,hw4⟩:=copy_u8 (g:=w.heap.size+1) (o:=16 - c.length) (dLen:=c.length) (dCap:=c.length) HOC.out AA.out (Nat.le_refl _) (by omega) A (fun h=>hA (fun h0=>h (List.eq_nil_of_length_eq_zero h0)))
     rw[row_end h12 hMl]at hl4 hw4
     have hVz:(bytesV (b++List.replicate (16 - b.length - c.length) 0++c)).size=16:=by
      rw[bytesV_size]
      simp
      omega
     have hVo:(bytesV (b++List.replicate (16 - b.length - c.length) 0++c)).all (·.oneCell')=true:=by
      rw[Array.all_eq_true_iff_forall_mem]
      intro v hv
      exact cells8_one _ v (by unfold bytesV at hv;exact List.mem_toArray.1 hv)
     generalize bytesV (b++List.replicate (16 - b.length - c.length) 0++c)=V at HR hl4 hw4 hVz hVo
     have AA4:Hid (Lies w4 (w.heap.size+1) V 23):=hl4
     have RR4:Hid (Lies w4 w.heap.size #[.int .u8 0,.int .u8 0,.int .u8 0,.int .u8 0,.int .u8 0,.int .u8 0,.int .u8 0,.int .u8 0,.int .u8 0,.int .u8 0,.int .u8 0,.int .u8 0,.int .u8 0,.int .u8 0,.int .u8 0,.int .u8 0] 23):=by
      rcases hw4 with h|h
      ·rw[h];exact RR.out
      ·rw[h];exact RR.out.row_other (by omega) _
     have KX4:Hid (Below w.heap.size w w4):=by
      rcases hw4 with h|h
      ·rw[h];exact KX.out
      ·rw[h];exact below_row KX.out (by omega) _
     clear hl4 hw4 HOC hA AA RR KX hMl hMs h16c h12
     have AA:=AA4
     have RR:=RR4
     have KX:=KX4
     clear AA4 RR4 KX4
     go_upto_region 15 with fail
     clear hrun hrun2 hsl
     go_wp2_with (first|(refine wpList_load_row rfl 23 _ rfl (w.heap.size+1) rfl V 23 _ AA.out Tryz.underlying23 rfl (by rw[hVz];exact info16) ?_)|(refine wpList_store_row rfl 23 _ _ rfl w.heap.size rfl _ V rfl 23 RR.out (by rw[hVz];exact info16) (by rw[hVz];rfl) hVo rfl ?_))
     exact bodyPost_ret (results_mixR (p:=2) (q:=3) (by kernel_rfl) _ _ w.heap.size _ _ (.bool true) rfl rfl (RR.out.row _) Tryz.underlying23 rfl (by rw[hVz];exact info16)) rfl ⟨by rw[HR.out],below_row KX.out (Nat.le_refl _) _⟩
    ·have h12b:(12:Int)<(b.length:Int)+(c.length:Int):=by omega
     have HR:Hid (w6V s.data.toList=.tuple #[.agg #[.int .u8 0,.int .u8 0,.int .u8 0,.int .u8 0,.int .u8 0,.int .u8 0,.int .u8 0,.int .u8 0,.int .u8 0,.int .u8 0,.int .u8 0,.int .u8 0,.int .u8 0,.int .u8 0,.int .u8 0,.int .u8 0],.bool false]):=w6_none (by rw[HW.out,hgd,hgt];exact if_neg h12)
     have hbl:b.length≤140737488355328:=by have:=groups_short hgd;omega
     have hcl:c.length≤140737488355328:=by have:=groups_short hgt;omega
     clear HW hgd hgt HO3 hown h12 hlen
     go_wp2_with (first|(refine wpList_load_row rfl 23 _ rfl (w.heap.size+1) rfl #[.int .u8 0,.int .u8 0,.int .u8 0,.int .u8 0,.int .u8 0,.int .u8 0,.int .u8 0,.int .u8 0,.int .u8 0,.int .u8 0,.int .u8 0,.int .u8 0,.int .u8 0,.int .u8 0,.int .u8 0,.int .u8 0] 23 _ AA.out Tryz.underlying23 rfl info16 ?_)|(refine wpList_store_row rfl 23 _ _ rfl w.heap.size rfl _ #[.int .u8 0,.int .u8 0,.int .u8 0,.int .u8 0,.int .u8 0,.int .u8 0,.int .u8 0,.int .u8 0,.int .u8 0,.int .u8 0,.int .u8 0,.int .u8 0,.int .u8 0,.int .u8 0,.int .u8 0,.int .u8 0] rfl 23 RR.out info16 rfl (by simp[Value.oneCell']) rfl ?_))
     exact bodyPost_ret (results_mixR (p:=2) (q:=3) (by kernel_rfl) _ _ w.heap.size _ _ (.bool false) rfl rfl (RR.out.row _) Tryz.underlying23 rfl info16) rfl ⟨by rw[HR.out],below_row KX.out (Nat.le_refl _) _⟩
open Go.RowKit
theorem rep_is (c:UInt8):∀k,Lib.repeatL [c,48] k=rep c k
 |0=>rfl
 |k+1=>by rw[Lib.repeatL,rep_is c k];rfl
def NX (i:Nat):List UInt8:=if i=0 then [] else [48]
def B4 (s:List UInt8) (i k:Nat):Bool:=(whole4 (s++NX i++rep 46 k)).isSome
theorem begins4_some {s:List UInt8} {i k:Nat} (hk:k<4) (h:B4 s i k=true):begins4 s=true:=by
 unfold begins4
 rw[List.any_eq_true]
 refine⟨NX i,?_,?_⟩
 ·unfold NX
  split<;>simp
 ·rw[List.any_eq_true]
  exact⟨k,List.mem_range.2 hk,h⟩
theorem begins4_no {s:List UInt8} (h:∀i,i<2→∀k,k<4→B4 s i k=false):begins4 s=false:=by
 unfold begins4
 rw[List.any_eq_false]
 intro nx hnx
 have hb:∀i,i<2→¬((List.range 4).any fun k=>(whole4 (s++NX i++rep 46 k)).isSome)=true:=fun i hi=>by
  rw[List.any_eq_true]
  rintro ⟨k,hk,e⟩
  have:=h i hi k (List.mem_range.1 hk)
  unfold B4 at this
  rw[this]at e
  cases e
 rcases List.mem_cons.1 hnx with rfl|hnx
 ·exact hb 0 (by omega)
 ·rcases List.mem_cons.1 hnx with rfl|hnx
  ·exact hb 1 (by omega)
  ·cases hnx
theorem w4V_is (l:List UInt8):∃V:Array Value,w4V l=.tuple #[.agg V,.bool (whole4 l).isSome]∧V.size=4∧V.all (·.oneCell')=true:=by
 refine⟨_,rfl,?_,?_⟩
 ·rw[bytesV_size]
  cases h:whole4 l with
  |none=>rfl
  |some v=>exact whole4_len h
 ·rw[Array.all_eq_true_iff_forall_mem]
  intro v hv
  exact cells8_one _ v (by unfold bytesV at hv;exact List.mem_toArray.1 hv)
structure Bg4 (w wr:World):Prop where
 below:Below w.heap.size w wr
 row:Lies wr w.heap.size #[.string ⟨#[]⟩,.string ⟨#[48]⟩] 9
theorem Bg4.step {w wr y:World} (h:Bg4 w wr) (hb:Below wr.heap.size wr y):Bg4 w y:=⟨h.below.trans (hb.mono h.below.size),h.row.below hb h.row.lt⟩
theorem Bg4.at {w wr:World} (h:Bg4 w wr) {i:Nat} (hi:i<2):∃X:ByteArray,wr.cell? ⟨w.heap.size,i,none⟩=some (.string X)∧X.data.toList=NX i∧X.size≤2:=by
 rcases (by omega:i=0∨i=1) with rfl|rfl
 ·exact⟨⟨#[]⟩,h.row.cell 0,rfl,by decide⟩
 ·exact⟨⟨#[48]⟩,h.row.cell 1,rfl,by decide⟩
set_option maxHeartbeats 8000000 in
set_option maxRecDepth 100000 in
theorem rbeg4_any (s:ByteArray) (w:World) (hT:∃m,w.cell? ⟨2,0,none⟩=some (.int .i64 m)) (hs:s.size≤1000):Calls Tryz.prog 190 #[.string s] w fun e w'=>e=.returned (.bool (begins4 s.data.toList))∧Below w.heap.size w w':=by
 have HT:Hid (∀wx,Below w.heap.size w wx→∃m,wx.cell? ⟨2,0,none⟩=some (.int .i64 m)):=fun wx hx=>by
  obtain⟨m,hm⟩:=hT
  exact⟨m,(hx.cell (p:=⟨2,0,none⟩) (World.block_lt_of_cell? w _ hm)).trans hm⟩
 clear hT
 have HRP:Hid (∀(k:Nat),k<4→∃R:ByteArray,R.data.toList=rep 46 k∧R.size=2*k∧∀wx,Calls Tryz.prog 227 #[.string ⟨#[46,48]⟩,.int .i64 k] wx fun e w'=>e=.returned (.string R)∧Below wx.heap.size wx w'):=fun k hk=>by
  refine⟨⟨(Lib.repeatL [46,48] k).toArray⟩,rep_is 46 k,?_,fun wx=>Tryz.strings_Repeat ⟨#[46,48]⟩ k wx (by omega) (by show 2*k≤_;omega)⟩
  show(Lib.repeatL [46,48] k).toArray.size=_
  rw[List.size_toArray,Lib.repeatL_length]
  show k*2=_
  omega
 have HWH:Hid (∀(X R:ByteArray) (wx:World),X.size≤2→R.size≤8→Below w.heap.size w wx→Calls Tryz.prog 163 #[.string (s++X++R)] wx fun e w'=>e=.returned (w4V (s.data.toList++X.data.toList++R.data.toList))∧Below wx.heap.size wx w'):=fun X R wx hX hR hx=>by
  have:=rw4_any (s++X++R) wx (HT.out wx hx) (by rw[ByteArray.size_append,ByteArray.size_append];omega)
  rw[show(s++X++R).data.toList=s.data.toList++X.data.toList++R.data.toList from by simp[ByteArray.data_append]]at this
  exact this
 go_enter Tryz.func190,Tryz.ntmps190
 go_wp2_with fail
 have HS0:Hid (Bg4 w (w.alloc (.cells #[.string ⟨#[]⟩,.string ⟨#[48]⟩] 9))):=⟨(Below.refl _ _).alloc (Nat.le_refl _) _,Lies.new w _ _⟩
 go_loopw [10] (fun c wr=>∃i:Nat,i≤2∧c=.int .i64 i∧Hid (Bg4 w wr)∧Hid (∀j,j<i→∀k,k<4→B4 s.data.toList j k=false)) (fun c _=>2 - (intOf c).toNat)
 case atStart=>exact⟨0,by omega,rfl,HS0,fun j hj=>by omega⟩
 case round=>
  obtain⟨i,hi,rfl,HS,HN⟩:=hrel
  clear HS0
  by_cases hlt:i<2
  ·have hlt':(i:Int)<2:=by omega
   have hi0:(0:Int)≤(i:Int):=by omega
   obtain⟨X,hc,hX,hXs⟩:=HS.out.at hlt
   have HX:Hid (X.data.toList=NX i):=hX
   have hz:w.heap.size<wr.heap.size:=HS.out.row.lt
   clear hX
   go_wp2_with fail
   go_loopw [14] (fun c wr=>∃k:Nat,k≤4∧c=.int .i64 k∧Hid (Bg4 w wr)∧Hid (∀j,j<k→B4 s.data.toList i j=false)) (fun c _=>4 - (intOf c).toNat)
   case atStart=>exact⟨0,by omega,rfl,HS,fun j hj=>by omega⟩
   case round=>
    clear hc hz HS
    obtain⟨k,hk,rfl,HS,HM⟩:=hrel
    by_cases hk4:k<4
    ·have hk4':(k:Int)<4:=by omega
     obtain⟨R,hR,hRs,hRc⟩:=HRP.out k hk4
     have HRC:Hid (∀wx,Calls Tryz.prog 227 #[.string ⟨#[46,48]⟩,.int .i64 k] wx fun e w'=>e=.returned (.string R)∧Below wx.heap.size wx w'):=hRc
     obtain⟨V,hV,hVz,hVo⟩:=w4V_is (s.data.toList++X.data.toList++R.data.toList)
     have hb4:(whole4 (s.data.toList++X.data.toList++R.data.toList)).isSome=B4 s.data.toList i k:=by rw[HX.out,hR];rfl
     rw[hb4]at hV
     have HWC:Hid (∀wx,Below w.heap.size w wx→Calls Tryz.prog 163 #[.string (s++X++R)] wx fun e w'=>e=.returned (.tuple #[.agg V,.bool (B4 s.data.toList i k)])∧Below wx.heap.size wx w'):=fun wx hx=>by
      have:=HWH.out X R wx hXs (by omega) hx
      rw[hV]at this
      exact this
     clear hRc hb4 hV hR
     have hsz:(s++X).size≤1002:=by rw[ByteArray.size_append];omega
     have hsz2:(s++X++R).size≤1010:=by rw[ByteArray.size_append];omega
     go_wp2_with fail
     refine(HRC.out _).mono ?_
     rintro e y1 ⟨rfl,hy1⟩
     have HS1:Hid (Bg4 w y1):=HS.out.step hy1
     clear hy1 HRC HS
     go_wp2_with fail
     refine(HWC.out _ HS1.out.below).mono ?_
     rintro e y2 ⟨rfl,hy2⟩
     have HS2:Hid (Bg4 w y2):=HS1.out.step hy2
     clear hy2 HWC HS1
     have HZ:Hid (Lies (y2.alloc (.cells #[.int .u8 0,.int .u8 0,.int .u8 0,.int .u8 0] 108)) y2.heap.size #[.int .u8 0,.int .u8 0,.int .u8 0,.int .u8 0] 108):=Lies.new y2 _ _
     have HS3:Hid (Bg4 w ((y2.alloc (.cells #[.int .u8 0,.int .u8 0,.int .u8 0,.int .u8 0] 108)).setRow y2.heap.size V)):=HS2.out.step (below_row ((Below.refl _ _).alloc (Nat.le_refl _) _) (Nat.le_refl _) _)
     cases hB:B4 s.data.toList i k with
     |true=>
      have HR:Hid (begins4 s.data.toList=true):=begins4_some hk4 hB
      go_wp2_with (refine wpList_store_row rfl 108 _ _ rfl y2.heap.size rfl _ V rfl 108 HZ.out (by rw[hVz];exact info4) (by rw[hVz];rfl) hVo rfl ?_)
      go_ret
      exact⟨by rw[HR.out];rfl,HS3.out.below⟩
     |false=>
      have HM2:Hid (∀j,j<k+1→B4 s.data.toList i j=false):=fun j hj=>by
       rcases (by omega:j<k∨j=k) with h|rfl
       ·exact HM.out j h
       ·exact hB
      clear HM hB
      go_wp2_with (refine wpList_store_row rfl 108 _ _ rfl y2.heap.size rfl _ V rfl 108 HZ.out (by rw[hVz];exact info4) (by rw[hVz];rfl) hVo rfl ?_)
      go_roundw
      case rel=>exact⟨k+1,by omega,by go_num,HS3,HM2⟩
      case measure=>simp[intOf];omega
    ·obtain rfl:k=4:=by omega
     have hk4':¬(4:Int)<4:=by omega
     have HN2:Hid (∀j,j<i+1→∀k,k<4→B4 s.data.toList j k=false):=fun j hj=>by
      rcases (by omega:j<i∨j=i) with h|rfl
      ·exact HN.out j h
      ·exact HM.out
     clear HM HN
     go_wp2_with fail
     go_roundw
     case rel=>exact⟨i+1,by omega,by go_num,HS,HN2⟩
     case measure=>simp[intOf];omega
  ·obtain rfl:i=2:=by omega
   have hlt':¬(2:Int)<2:=by omega
   have HR:Hid (begins4 s.data.toList=false):=begins4_no HN.out
   clear HN
   go_wp2_with fail
   go_ret
   exact⟨by rw[HR.out];rfl,HS.out.below⟩
def Rst (g:Gs) (s:List UInt8) (x:List Nat):Prop:=
 (cut2 s=none∧∃b,dGrps true (splitB 58 s)=some b∧2*g.l.length+b.length=16∧x=twoB g.l++b)∨
 ∃h t b c,cut2 s=some (h,t)∧dGrps false (splitB 58 h)=some b∧groupsD t true=some c∧2*g.l.length+b.length+c.length≤12∧x=twoB g.l++b++List.replicate (16 - 2*g.l.length - b.length - c.length) 0++c
theorem Rst.room {g:Gs} {s:List UInt8} {x:List Nat} (h:Rst g s x):g.l.length<8:=by
 rcases h with⟨_,b,h1,h2,_⟩|⟨h,t,b,c,_,h1,_,h2,_⟩
 ·have:=dGrps_len true _ b (splitB_ne 58 s) h1
  omega
 ·have:=dGrps_len false _ b (splitB_ne 58 h) h1
  omega
theorem twoB_put (g:Gs) (n:Nat):twoB (g.put n).l=twoB g.l++[n / 256,n % 256]:=by
 unfold Gs.put
 rw[twoB_appendP]
 rfl
theorem put_len (g:Gs) (n:Nat):(g.put n).l.length=g.l.length+1:=by simp[Gs.put]
theorem Rst.cons {g:Gs} {p r:List UInt8} {x b:List Nat} (hp:∀c∈p,c≠58) (hd:dGrp p=some b) (hr:r.head?≠some 58):Rst g (p++58::r) x↔Rst (g.put (hexN 0 p)) r x:=by
 have hb:=(dGrp_some hd).2.2.2
 have hbl:b.length=2:=by rw[hb];rfl
 unfold Rst
 rw[cut2_one p r hp hr,splitB_at 58 p r hp,dGrps_cons true p _ (splitB_ne 58 r),hd,twoB_put,put_len,←hb]
 dsimp only
 constructor
 ·rintro (⟨h1,b',h2,h3,h4⟩|⟨h,t,b',c,h1,h2,h3,h4,h5⟩)
  ·left
   have hcn:cut2 r=none:=by
    cases hc:cut2 r with
    |none=>rfl
    |some y=>rw[hc]at h1;cases h1
   refine⟨hcn,?_⟩
   cases hrr:dGrps true (splitB 58 r) with
   |none=>rw[hrr]at h2;cases h2
   |some c=>
    rw[hrr]at h2
    have e:some (b++c)=some b':=h2
    injection e with e
    subst e
    rw[List.length_append]at h3
    exact⟨c,rfl,by omega,by rw[h4,List.append_assoc]⟩
  ·right
   cases hc:cut2 r with
   |none=>rw[hc]at h1;cases h1
   |some y=>
    obtain⟨h',t'⟩:=y
    rw[hc]at h1
    have e:some (p++58::h',t')=some (h,t):=h1
    injection e with e
    injection e with e1 e2
    subst e1 e2
    rw[splitB_at 58 p h' hp,dGrps_cons false p _ (splitB_ne 58 h'),hd]at h2
    dsimp only at h2
    cases hrr:dGrps false (splitB 58 h') with
    |none=>rw[hrr]at h2;cases h2
    |some c'=>
     rw[hrr]at h2
     have e:some (b++c')=some b':=h2
     injection e with e
     subst e
     rw[List.length_append]at h4 h5
     refine⟨h',t',c',c,rfl,hrr,h3,by omega,?_⟩
     rw[h5,show 16 - 2*(g.l.length+1) - c'.length - c.length=16 - 2*g.l.length - (b.length+c'.length) - c.length from by omega]
     simp
 ·rintro (⟨h1,c,h2,h3,h4⟩|⟨h,t,b',c,h1,h2,h3,h4,h5⟩)
  ·left
   refine⟨by rw[h1];rfl,b++c,by rw[h2];rfl,by rw[List.length_append];omega,by rw[h4,List.append_assoc]⟩
  ·right
   refine⟨p++58::h,t,b++b',c,by rw[h1];rfl,?_,h3,by rw[List.length_append];omega,?_⟩
   ·rw[splitB_at 58 p h hp,dGrps_cons false p _ (splitB_ne 58 h),hd]
    dsimp only
    rw[h2]
    rfl
   ·rw[h5,List.length_append,show 16 - 2*(g.l.length+1) - b'.length - c.length=16 - 2*g.l.length - (b.length+b'.length) - c.length from by omega]
    simp
theorem Rst.no {g:Gs} {p r:List UInt8} {x:List Nat} (hp:∀c∈p,c≠58) (hd:dGrp p=none):¬Rst g (p++58::r) x:=by
 rintro (⟨h1,b',h2,_⟩|⟨h,t,b',c,h1,h2,_⟩)
 ·rw[splitB_at 58 p r hp,dGrps_cons true p _ (splitB_ne 58 r),hd]at h2
  cases h2
 ·by_cases hr:r.head?=some 58
  ·match r,hr with
   |d::r',hr=>
    simp at hr
    subst hr
    rw[cut2_dd p r' hp]at h1
    injection h1 with h1
    injection h1 with e1 e2
    subst e1
    rw[splitB_none 58 p hp]at h2
    have:dGrp p=some b':=h2
    rw[hd]at this
    cases this
  ·rw[cut2_one p r hp hr]at h1
   cases hc:cut2 r with
   |none=>rw[hc]at h1;cases h1
   |some y=>
    obtain⟨h',t'⟩:=y
    rw[hc]at h1
    have e:some (p++58::h',t')=some (h,t):=h1
    injection e with e
    injection e with e1 e2
    subst e1
    rw[splitB_at 58 p h' hp,dGrps_cons false p _ (splitB_ne 58 h'),hd]at h2
    cases h2
theorem Rst.last {g:Gs} {p:List UInt8} {x:List Nat} (hp:∀c∈p,c≠58):Rst g p x↔∃b,dGrps true [p]=some b∧2*g.l.length+b.length=16∧x=twoB g.l++b:=by
 unfold Rst
 rw[cut2_none p hp,splitB_none 58 p hp]
 constructor
 ·rintro (⟨_,h⟩|⟨_,_,_,_,h,_⟩)
  ·exact h
  ·cases h
 ·intro h
  exact Or.inl ⟨rfl,h⟩
theorem addr_none {g:Gs} (h:g.gap=none):g.addr=twoB g.l:=by
 unfold Gs.addr Gs.all
 rw[h]
theorem v6Go_none:∀(f:Nat) (g:Gs) (a:Nat) (s:List UInt8) (x:List Nat),g.gap=none→g.Fit→8 - g.l.length≤f→(v6Go f g a s=.ok x↔Rst g s x)
 |0,g,a,s,x,hg,hf,hl=>by
  rw[v6Go]
  constructor
  ·intro h;cases h
  ·intro h
   have:=h.room
   omega
 |f+1,g,a,s,x,hg,hf,hl=>by
  have hle:=hf.le hg
  have hroom:g.room=8 - g.l.length:=by unfold Gs.room;rw[hg];rfl
  rw[v6Go]
  by_cases hr0:g.room=0
  ·rw[if_pos (Or.inr hr0)]
   constructor
   ·intro h;cases h
   ·intro h
    have:=h.room
    omega
  have hputroom:∀n,(g.put n).room=8 - (g.l.length+1):=fun n=>by unfold Gs.room Gs.put;rw[hg];simp
  have hput0:∀n,(g.put n).whole 0=true↔g.l.length+1=8:=fun n=>by
   unfold Gs.whole
   rw[hputroom]
   have:(g.put n).gap=none:=hg
   rw[this]
   simp
   omega
  rcases piece s with hs|⟨p,r,hp,rfl⟩
  ·rw[Rst.last hs]
   cases hd:dGrp s with
   |some b=>
    obtain⟨d1,d2,d3,d4⟩:=grp_piece hd [] (Or.inl rfl)
    rw[List.append_nil]at d1 d2 d3
    have hb:=(dGrp_some hd).2.2.2
    have hlen:=(dGrp_some hd).1
    have h4:whole4 s=none:=by
     cases hw:whole4 s with
     |none=>rfl
     |some v=>rw[(four_piece hw).2.2.1]at hd;cases hd
    have hdr:s.drop s.length=[]:=List.drop_eq_nil_of_le (Nat.le_refl _)
    rw[dGrps_one s true h4,hd,d1,d2,if_neg (by omega),if_neg (by rw[d3];simp),hdr]
    by_cases h8:g.l.length+1=8
    ·rw[if_pos ⟨rfl,(hput0 _).2 h8⟩,addr_none (g:=g.put (hexN 0 s)) hg,twoB_put,←hb]
     constructor
     ·intro h
      injection h with h
      exact⟨b,rfl,by rw[hb];simp;omega,h.symm⟩
     ·rintro ⟨b',h1,_,h3⟩
      injection h1 with h1
      rw[h3,h1]
    ·rw[if_neg (fun h=>h8 ((hput0 _).1 h.2)),if_pos (Or.inl (by simp))]
     constructor
     ·intro h;cases h
     ·rintro ⟨b',h1,h2,_⟩
      injection h1 with h1
      rw[←h1,hb]at h2
      simp at h2
      omega
   |none=>
    have key:=no_piece hs hd [] (Or.inl rfl)
    rw[List.append_nil]at key
    cases hw:whole4 s with
    |some v=>
     obtain⟨w1,w2,_,_⟩:=four_piece hw
     have hv:=(whole4_v4 s v).1 hw
     obtain⟨x1,x2,x3,x4,rfl,l1,l2,l3,l4⟩:=v4_four' s v hv
     have hdg:dGrps true [s]=some [x1,x2,x3,x4]:=by rw[dGrps,if_pos rfl,hw]
     rw[hdg,if_neg (by omega)]
     have hw2:g.whole 2=true↔g.l.length=6:=by
      unfold Gs.whole
      rw[hroom,hg]
      simp
      omega
     by_cases h6:g.l.length=6
     ·rw[if_pos ⟨hw2.2 h6,w2⟩,hv]
      dsimp only
      have hp1:pairN [x1,x2,x3,x4] 0=256*x1+x2:=rfl
      have hp2:pairN [x1,x2,x3,x4] 2=256*x3+x4:=rfl
      rw[hp1,hp2,addr_none (g:=(g.put (256*x1+x2)).put (256*x3+x4)) hg,twoB_put,twoB_put,(pair_bytes x1 x2 l2).1,(pair_bytes x1 x2 l2).2,(pair_bytes x3 x4 l4).1,(pair_bytes x3 x4 l4).2,List.append_assoc]
      constructor
      ·intro h
       injection h with h
       exact⟨_,rfl,by simp;omega,h.symm⟩
      ·rintro ⟨b',h1,_,h3⟩
       injection h1 with h1
       rw[h3,←h1]
       rfl
     ·rw[if_neg (fun h=>h6 (hw2.1 h.1)),if_neg ?_,if_pos ?_]
      ·constructor
       ·intro h;cases h
       ·rintro ⟨b',h1,h2,_⟩
        injection h1 with h1
        rw[←h1]at h2
        simp at h2
        omega
      ·left
       rw[List.head?_drop,w2]
       simp
      ·rintro ⟨h,_⟩
       have:s[grpL s]?=none:=by
        rw[List.getElem?_eq_none_iff]
        exact List.drop_eq_nil_iff.1 h
       rw[w2]at this
       cases this
    |none=>
     rw[dGrps_one s true hw,hd]
     constructor
     ·intro h
      exfalso
      rcases key with k0|⟨k1,c,k2,k3,_⟩
      ·rw[if_pos (Or.inl k0)]at h;cases h
      ·split at h
       ·cases h
       ·split at h
        ·cases hv:v4 s with
         |ok y=>rw[(whole4_v4 s y).2 hv]at hw;cases hw
         |error q=>rw[hv]at h;cases h
        ·rw[if_neg ?_,if_pos ?_]at h
         ·cases h
         ·left
          rw[List.head?_drop,k2]
          simp[k3]
         ·rintro ⟨h',_⟩
          have:s[grpL s]?=none:=by
           rw[List.getElem?_eq_none_iff]
           exact List.drop_eq_nil_iff.1 h'
          rw[k2]at this
          cases this
     ·rintro ⟨b,h1,_⟩
      cases h1
  ·cases hd:dGrp p with
   |some b=>
    obtain⟨d1,d2,d3,d4⟩:=grp_piece hd (58::r) (Or.inr rfl)
    have hb:=(dGrp_some hd).2.2.2
    have hbl:b.length=2:=by rw[hb];rfl
    have hlen:=(dGrp_some hd).1
    have hdrop:(p++58::r).drop p.length=58::r:=List.drop_left
    have hdrop1:(p++58::r).drop (p.length+1)=r:=by rw[←List.drop_drop,hdrop];rfl
    have hdrop2:(p++58::r).drop (p.length+2)=r.drop 1:=by rw[←List.drop_drop,hdrop];rfl
    rw[d1,d2,if_neg (by omega),if_neg (by rw[d3];simp),hdrop,if_neg (by simp),hputroom]
    have hfit:=hf.put d4 (by omega)
    by_cases hr1:8 - (g.l.length+1)=0
    ·rw[if_pos (Or.inr hr1)]
     constructor
     ·intro h;cases h
     ·intro h
      exfalso
      by_cases hh:r.head?=some 58
      ·match r,hh with
       |c::r',hh=>
        simp at hh
        subst hh
        rcases h with⟨h1,_⟩|⟨h',t,b',c,h1,h2,_,h4,_⟩
        ·rw[cut2_dd p r' hp]at h1;cases h1
        ·have:=dGrps_len false _ b' (splitB_ne 58 h') h2
         omega
      ·have:=((Rst.cons hp hd hh).1 h).room
       rw[put_len]at this
       omega
    ·rw[if_neg (by simp;omega),hdrop1,hdrop2]
     by_cases hh:r.head?=some 58
     ·rw[if_pos hh]
      match r,hh with
      |c::t,hh=>
       simp at hh
       subst hh
       have hmo:(g.put (hexN 0 p)).mayOpen=true↔g.l.length+1≤6:=by
        unfold Gs.mayOpen
        have:(g.put (hexN 0 p)).gap=none:=hg
        rw[this,put_len]
        simp
       have hrst:Rst g (p++58::58::t) x↔∃c,groupsD t true=some c∧2*g.l.length+2+c.length≤12∧x=twoB g.l++b++List.replicate (16 - 2*g.l.length - 2 - c.length) 0++c:=by
        unfold Rst
        rw[cut2_dd p t hp]
        constructor
        ·rintro (⟨h1,_⟩|⟨h',t',b',c,h1,h2,h3,h4,h5⟩)
         ·cases h1
         ·injection h1 with h1
          injection h1 with e1 e2
          subst e1 e2
          rw[splitB_none 58 p hp]at h2
          have e:dGrp p=some b':=h2
          rw[hd]at e
          injection e with e
          subst e
          rw[hbl]at h4 h5
          exact⟨c,h3,h4,h5⟩
        ·rintro ⟨c,h3,h4,h5⟩
         refine Or.inr ⟨p,t,b,c,rfl,?_,h3,by rw[hbl];exact h4,by rw[hbl];exact h5⟩
         rw[splitB_none 58 p hp]
         exact hd
       rw[hrst]
       show(if (g.put (hexN 0 p)).mayOpen=true then if t=[] then _ else _ else _)=_↔_
       by_cases h6:g.l.length+1≤6
       ·rw[if_pos (hmo.2 h6)]
        have hofit:=hfit.open' (hmo.2 h6)
        have hog:(g.put (hexN 0 p)).open'.gap=some (g.l.length+1):=by show some _=_;rw[put_len]
        have hres:∀c,resG (g.put (hexN 0 p)).open' (g.l.length+1) c=twoB g.l++b++List.replicate (16 - 2*g.l.length - 2 - c.length) 0++c:=fun c=>by
         unfold resG
         show twoB ((g.put (hexN 0 p)).l.take (g.l.length+1))++List.replicate (16 - 2*(g.put (hexN 0 p)).l.length - c.length) 0++twoB ((g.put (hexN 0 p)).l.drop (g.l.length+1))++c=_
         rw[put_len,List.take_of_length_le (by rw[put_len];omega),List.drop_eq_nil_of_le (by rw[put_len];omega),twoB_put,←hb,show 16 - 2*(g.l.length+1) - c.length=16 - 2*g.l.length - 2 - c.length from by omega]
         simp[twoB]
        by_cases ht:t=[]
        ·rw[if_pos ht,resG_addr hog hofit,hres]
         subst ht
         constructor
         ·intro h
          injection h with h
          exact⟨[],rfl,by simp;omega,h.symm⟩
         ·rintro ⟨c,h1,_,h3⟩
          have:some ([]:List Nat)=some c:=h1
          injection this with this
          rw[h3,←this]
        ·rw[if_neg ht,show List.drop 1 (58::t)=t from rfl,v6Go_gap f _ (g.l.length+1) _ t x hog hofit (by show 6 - (g.put (hexN 0 p)).l.length≤f;rw[put_len];omega)]
         have:groupsD t true=dGrps true (splitB 58 t):=by unfold groupsD;rw[if_neg ht]
         rw[this]
         have hol:(g.put (hexN 0 p)).open'.l.length=g.l.length+1:=put_len g _
         constructor
         ·rintro ⟨c,h1,h2,h3⟩
          exact⟨c,h1,by omega,by rw[h3,hres]⟩
         ·rintro ⟨c,h1,h2,h3⟩
          exact⟨c,h1,by omega,by rw[h3,hres]⟩
       ·rw[if_neg (fun h=>h6 (hmo.1 h))]
        constructor
        ·intro h;cases h
        ·rintro ⟨c,_,h2,_⟩
         omega
     ·rw[if_neg hh,Rst.cons hp hd hh]
      exact v6Go_none f (g.put (hexN 0 p)) _ r x hg hfit (by rw[put_len];omega)
   |none=>
    have key:=no_piece hp hd (58::r) (Or.inr rfl)
    constructor
    ·intro h
     exfalso
     rcases key with k0|⟨k1,c,k2,k3,_⟩
     ·rw[if_pos (Or.inl k0)]at h;cases h
     ·split at h
      ·cases h
      ·split at h
       ·cases hv:v4 (p++58::r) with
        |ok y=>
         have:=(four_piece ((whole4_v4 _ y).2 hv)).2.2.2 58 (by simp)
         exact this rfl
        |error q=>rw[hv]at h;cases h
       ·rw[if_neg ?_,if_pos ?_]at h
        ·cases h
        ·left
         rw[List.head?_drop,k2]
         simp[k3]
        ·rintro ⟨h',_⟩
         have:(p++58::r)[grpL (p++58::r)]?=none:=by
          rw[List.getElem?_eq_none_iff]
          exact List.drop_eq_nil_iff.1 h'
         rw[k2]at this
         cases this
    ·intro h
     exact absurd h (Rst.no hp hd)
theorem fit0:(⟨[],some 0⟩:Gs).Fit:=⟨fun n hn=>(by cases hn),fun e=>(by cases e),fun k e=>(by injection e with e;subst e;exact⟨Nat.le_refl _,Nat.zero_le _⟩)⟩
theorem fit1:(⟨[],none⟩:Gs).Fit:=⟨fun n hn=>(by cases hn),fun e=>Nat.zero_le _,fun k e=>(by cases e)⟩
theorem whole6_v6 (s:List UInt8) (x:List Nat):whole6 s=some x↔v6 s=.ok x:=by
 unfold v6
 by_cases h2:s.take 2=[58,58]
 ·rw[if_pos h2]
  match s,h2 with
  |c::d::t,h2=>
   have hc:c=58∧d=58:=by simpa using h2
   obtain⟨rfl,rfl⟩:=hc
   have hcut:cut2 (58::58::t)=some ([],t):=by rw[cut2,if_pos ⟨rfl,rfl⟩]
   have hw:whole6 (58::58::t)=some x↔∃c,groupsD t true=some c∧c.length≤12∧x=List.replicate (16 - c.length) 0++c:=by
    unfold whole6
    rw[hcut]
    dsimp only
    have e:groupsD [] false=some []:=rfl
    rw[e]
    cases hg:groupsD t true with
    |none=>
     constructor
     ·intro h;cases h
     ·rintro ⟨c,h,_⟩;cases h
    |some c=>
     dsimp only
     rw[List.length_nil,Nat.zero_add,Nat.sub_zero,List.nil_append]
     constructor
     ·intro h
      split at h
      ·injection h with h
       exact⟨c,rfl,by assumption,h.symm⟩
      ·cases h
     ·rintro ⟨c',h1,h2,h3⟩
      injection h1 with h1
      subst h1
      rw[if_pos h2,h3]
   rw[hw]
   have hres:∀c,resG ⟨[],some 0⟩ 0 c=List.replicate (16 - c.length) 0++c:=fun c=>by simp[resG,twoB]
   by_cases ht:t=[]
   ·subst ht
    rw[if_pos (show([58,58]:List UInt8).length=2 from rfl),resG_addr (k:=0) rfl fit0,hres]
    constructor
    ·rintro ⟨c,h1,_,h3⟩
     have:some ([]:List Nat)=some c:=h1
     injection this with this
     rw[h3,←this]
    ·intro h
     injection h with h
     exact⟨[],rfl,by simp,h.symm⟩
   ·have hl:¬(58::58::t).length=2:=by
     cases t with
     |nil=>exact absurd rfl ht
     |cons c r=>simp
    rw[if_neg hl]
    have e:(58::58::t).drop 2=t:=rfl
    rw[e,v6Go_gap 9 ⟨[],some 0⟩ 0 2 t x rfl fit0 (by simp)]
    have:groupsD t true=dGrps true (splitB 58 t):=by unfold groupsD;rw[if_neg ht]
    rw[this]
    constructor
    ·rintro ⟨c,h1,h2,h3⟩
     exact⟨c,h1,by simpa using h2,by rw[h3,hres]⟩
    ·rintro ⟨c,h1,h2,h3⟩
     exact⟨c,h1,by simpa using h2,by rw[h3,hres]⟩
 ·rw[if_neg h2]
  by_cases h1:s.head?=some 58
  ·rw[if_pos h1]
   constructor
   ·intro h
    exfalso
    match s,h1 with
    |c::r,h1=>
     simp at h1
     subst h1
     have hr:r.head?≠some 58:=fun e=>by
      match r,e with
      |d::r',e=>
       simp at e
       subst e
       exact h2 rfl
     have hc:=cut2_one [] r (fun c hc=>by cases hc) hr
     rw[List.nil_append]at hc
     unfold whole6 at h
     rw[hc]at h
     cases hcr:cut2 r with
     |none=>
      rw[hcr]at h
      have e:groupsD (58::r) true=none:=by
       unfold groupsD
       rw[if_neg (by simp),splitB,if_pos rfl,dGrps_cons true [] _ (splitB_ne 58 r),dGrp_nil]
      simp only[Option.map_none,e]at h
      cases h
     |some y=>
      rw[hcr]at h
      have e:groupsD ([]++58::y.1) false=none:=by
       unfold groupsD
       rw[List.nil_append,if_neg (by simp),splitB,if_pos rfl,dGrps_cons false [] _ (splitB_ne 58 y.1),dGrp_nil]
      simp only[Option.map_some,e]at h
      cases h
   ·intro h;cases h
  ·rw[if_neg h1,v6Go_none 9 ⟨[],none⟩ 0 s x rfl fit1 (by simp)]
   unfold whole6 Rst
   cases hc:cut2 s with
   |none=>
    dsimp only
    by_cases hs:s=[]
    ·subst hs
     constructor
     ·intro h
      have:(if ([]:List Nat).length=16 then some ([]:List Nat) else none)=some x:=h
      rw[if_neg (by simp)]at this
      cases this
     ·rintro (⟨_,b,hb,_⟩|⟨_,_,_,_,h,_⟩)
      ·have:(none:Option (List Nat))=some b:=hb
       cases this
      ·cases h
    ·have:groupsD s true=dGrps true (splitB 58 s):=by unfold groupsD;rw[if_neg hs]
     rw[this]
     constructor
     ·intro h
      cases hg:dGrps true (splitB 58 s) with
      |none=>rw[hg]at h;cases h
      |some b=>
       rw[hg]at h
       dsimp only at h
       split at h
       ·injection h with h
        exact Or.inl ⟨rfl,b,rfl,by simp;assumption,by rw[←h];rfl⟩
       ·cases h
     ·rintro (⟨_,b,h3,h4,h5⟩|⟨_,_,_,_,h,_⟩)
      ·rw[h3]
       dsimp only
       rw[if_pos (by simpa using h4),h5]
       rfl
      ·cases h
   |some y=>
    obtain⟨h,t⟩:=y
    dsimp only
    have hh:h≠[]:=fun e=>by
     subst e
     match s,hc,h2 with
     |c::d::r,hc,h2=>
      rw[cut2]at hc
      split at hc
      ·rename_i e
       rw[e.1,e.2]at h2
       exact h2 rfl
      ·cases hcc:cut2 (d::r) with
       |none=>rw[hcc]at hc;cases hc
       |some z=>
        rw[hcc]at hc
        have:some (c::z.1,z.2)=some ([],t):=hc
        injection this with this
        injection this with e1 _
        cases e1
    have:groupsD h false=dGrps false (splitB 58 h):=by unfold groupsD;rw[if_neg hh]
    rw[this]
    constructor
    ·intro hw
     cases hg:dGrps false (splitB 58 h) with
     |none=>rw[hg]at hw;cases hw
     |some b=>
      rw[hg]at hw
      cases hg2:groupsD t true with
      |none=>rw[hg2]at hw;cases hw
      |some c=>
       rw[hg2]at hw
       dsimp only at hw
       split at hw
       ·injection hw with hw
        refine Or.inr ⟨h,t,b,c,rfl,hg,hg2,by simp;assumption,?_⟩
        rw[←hw]
        simp[twoB]
       ·cases hw
    ·rintro (⟨h',_⟩|⟨h',t',b,c,e,h3,h4,h5,h6⟩)
     ·cases h'
     ·injection e with e
      injection e with e1 e2
      subst e1 e2
      rw[h3,h4]
      dsimp only
      rw[if_pos (by simpa using h5),h6]
      simp[twoB]
end Go.Proofs.YtfjpkfhbmldmfaaGreatDoor
