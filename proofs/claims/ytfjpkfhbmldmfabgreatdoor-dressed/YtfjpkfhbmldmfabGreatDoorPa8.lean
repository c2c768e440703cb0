/-
  The contracts of domain.Parse and checkTagged.
-/
import Derived.Test.YtfjpkfhbmldmfabGreatDoorLt8
namespace Go.Proofs.YtfjpkfhbmldmfabGreatDoor
open Go.RowKit
theorem field_spot (a b:Int) (W:World):(Instr.field 35 (.agg #[.int .i64 a,.int .i64 b]) 0).run Tryz.prog W=.ok (.int .i64 a) W:=by
 have h5:(Tryz.prog.info? 33).map (·.size)=some 1:=by kernel_rfl
 cases hq:Tryz.prog.info? 33 with
 |none=>simp[hq]at h5
 |some i=>
  have hs:i.size=1:=by simpa [hq] using h5
  simp[Instr.field,asAgg,run_underlying Tryz.underlying35,run_underlying Tryz.underlying33,sizeOf,typeInfo,hq,hs,part,isAgg]
structure Tb (w:World):Prop where
 cls:Table w
 gcl:0<w.heap.size
 fst:Fst w
 es:∃te pe,w.cell? ⟨8,0,none⟩=some (.iface te pe)
 t64:w.cell? ⟨7,15,none⟩=some (.int .u8 4)
theorem Tb.below {w w':World} (h:Tb w) (hb:Below w.heap.size w w'):Tb w':=by
 obtain⟨te,pe,he⟩:=h.es
 exact⟨h.cls.below h.gcl hb,Nat.lt_of_lt_of_le h.gcl hb.size,h.fst.below hb h.fst.lt,⟨te,pe,(hb.cell (p:=⟨8,0,none⟩) (World.block_lt_of_cell? w _ he)).trans he⟩,(hb.cell (p:=⟨7,15,none⟩) (World.block_lt_of_cell? w _ h.t64)).trans h.t64⟩
theorem host_name (s:ByteArray):hostV ⟨1,s.data.toList,z16⟩=.agg #[.int .i64 1,.string s,.int .u8 0,.int .u8 0,.int .u8 0,.int .u8 0,.int .u8 0,.int .u8 0,.int .u8 0,.int .u8 0,.int .u8 0,.int .u8 0,.int .u8 0,.int .u8 0,.int .u8 0,.int .u8 0,.int .u8 0,.int .u8 0]:=by
 show Value.agg #[.int .i64 1,.string ⟨s.data.toList.toArray⟩,.int .u8 0,.int .u8 0,.int .u8 0,.int .u8 0,.int .u8 0,.int .u8 0,.int .u8 0,.int .u8 0,.int .u8 0,.int .u8 0,.int .u8 0,.int .u8 0,.int .u8 0,.int .u8 0,.int .u8 0,.int .u8 0]=_
 rw[Array.toArray_toList]
theorem pa_ret {w wr:World} (x:Ho) (hx:x.a.length=16) (e:Nat×Nat) (R:Ending→World→Prop) (tmps:Array Value) (h1:Lies wr w.heap.size #[.int .i64 0,.string ⟨#[]⟩,.int .u8 0,.int .u8 0,.int .u8 0,.int .u8 0,.int .u8 0,.int .u8 0,.int .u8 0,.int .u8 0,.int .u8 0,.int .u8 0,.int .u8 0,.int .u8 0,.int .u8 0,.int .u8 0,.int .u8 0,.int .u8 0] 28) (h2:Lies wr (w.heap.size+1) #[.int .i64 0,.int .i64 0] 35) (hp:tmps.getD 4 undef=.pointer (some ⟨w.heap.size,0,none⟩)) (hq:tmps.getD 5 undef=.pointer (some ⟨w.heap.size+1,0,none⟩))
  (hR:R (.returned (.tuple #[hostV x,.agg (spotV e)])) ((wr.setRow w.heap.size (hostC x)).setRow (w.heap.size+1) (spotV e))):bodyPost Tryz.prog Tryz.f65 R .ret {tmps:=tmps,defers:=[]} ((wr.setRow w.heap.size (hostC x)).setRow (w.heap.size+1) (spotV e)):=
 bodyPost_ret (ret_host (x:=x) (e:=e) (p:=4) (q:=5) (by kernel_rfl) rfl rfl rfl rfl tmps _ w.heap.size (w.heap.size+1) hx hp hq ((h1.row _).row_other (by omega) _) ((h2.row_other (by omega) _).row _)) rfl hR
theorem lit_len (s:List UInt8):(lit s).1.a.length=16:=by
 unfold lit
 split
 ·rfl
 ·split
  ·rfl
  ·split
   ·exact told_len (addr6_len _)
   ·split
    ·exact told_len rfl
    ·obtain⟨a,b,c,d,h⟩:=addr4_four ((s.drop 1).take (s.length - 2))
     rw[h]
     exact told_len rfl
set_option maxHeartbeats 4000000 in
set_option maxRecDepth 100000 in
theorem parse_any (s:ByteArray) (wide:Bool) (w:World) (hT:Tb w) (hs:s.size≤140737488355328):
  Calls Tryz.prog 65 #[.string s,.bool wide] w fun e w'=>e=.returned (.tuple #[hostV (parse s.data.toList wide).1,.agg (spotV (parse s.data.toList wide).2)])∧Below w.heap.size w w':=by
 have HT:Hid (∀wx,Below w.heap.size w wx→Tb wx):=fun wx hb=>hT.below hb
 have L1:Hid (Lies ((w.alloc (.cells #[.int .i64 0,.string ⟨#[]⟩,.int .u8 0,.int .u8 0,.int .u8 0,.int .u8 0,.int .u8 0,.int .u8 0,.int .u8 0,.int .u8 0,.int .u8 0,.int .u8 0,.int .u8 0,.int .u8 0,.int .u8 0,.int .u8 0,.int .u8 0,.int .u8 0] 28)).alloc (.cells #[.int .i64 0,.int .i64 0] 35)) w.heap.size #[.int .i64 0,.string ⟨#[]⟩,.int .u8 0,.int .u8 0,.int .u8 0,.int .u8 0,.int .u8 0,.int .u8 0,.int .u8 0,.int .u8 0,.int .u8 0,.int .u8 0,.int .u8 0,.int .u8 0,.int .u8 0,.int .u8 0,.int .u8 0,.int .u8 0] 28):=(Lies.new w _ _).alloc _
 have L2:Hid (Lies ((w.alloc (.cells #[.int .i64 0,.string ⟨#[]⟩,.int .u8 0,.int .u8 0,.int .u8 0,.int .u8 0,.int .u8 0,.int .u8 0,.int .u8 0,.int .u8 0,.int .u8 0,.int .u8 0,.int .u8 0,.int .u8 0,.int .u8 0,.int .u8 0,.int .u8 0,.int .u8 0] 28)).alloc (.cells #[.int .i64 0,.int .i64 0] 35)) (w.heap.size+1) #[.int .i64 0,.int .i64 0] 35):=new_one w _ _ _
 have HB:Hid (Below w.heap.size w ((w.alloc (.cells #[.int .i64 0,.string ⟨#[]⟩,.int .u8 0,.int .u8 0,.int .u8 0,.int .u8 0,.int .u8 0,.int .u8 0,.int .u8 0,.int .u8 0,.int .u8 0,.int .u8 0,.int .u8 0,.int .u8 0,.int .u8 0,.int .u8 0,.int .u8 0,.int .u8 0] 28)).alloc (.cells #[.int .i64 0,.int .i64 0] 35))):=((Below.refl _ _).alloc (Nat.le_refl _) _).alloc (by simp) _
 clear hT
 go_enter Tryz.func65,Tryz.ntmps65
 go_upto_region 1 with fail
 generalize (w.alloc (.cells #[.int .i64 0,.string ⟨#[]⟩,.int .u8 0,.int .u8 0,.int .u8 0,.int .u8 0,.int .u8 0,.int .u8 0,.int .u8 0,.int .u8 0,.int .u8 0,.int .u8 0,.int .u8 0,.int .u8 0,.int .u8 0,.int .u8 0,.int .u8 0,.int .u8 0] 28)).alloc (.cells #[.int .i64 0,.int .i64 0] 35)=wA at L1 L2 HB ⊢
 have hzA:=L2.out.lt
 have HP:=hasp_any s ⟨#[91]⟩ wA
 rw[show(⟨#[91]⟩:ByteArray).size=1 from rfl,show(⟨#[91]⟩:ByteArray).data.toList=[91] from rfl,take_one]at HP
 by_cases h91:s.data.toList.head?=some 91
 ·rw[decide_eq_true h91]at HP
  have HP2:Hid (Calls Tryz.prog 85 #[.string s,.string ⟨#[91]⟩] wA fun e w'=>e=.returned (.bool true)∧w'=wA):=HP
  obtain⟨te,pe,he⟩:=(HT.out _ HB.out).es
  have HLI:Hid (Calls Tryz.prog 86 #[.string s] wA fun e w'=>e=.returned (.tuple #[hostV (lit s.data.toList).1,.agg (spotV (lit s.data.toList).2)])∧Below wA.heap.size wA w'):=lit_any s te pe wA (HT.out _ HB.out).cls (HT.out _ HB.out).gcl he h91 hs
  have hxl:=lit_len s.data.toList
  obtain⟨x,hx⟩:∃x,x=(lit s.data.toList).1:=⟨_,rfl⟩
  obtain⟨sq,hsq⟩:∃sq,sq=(lit s.data.toList).2:=⟨_,rfl⟩
  have HVV:Hid (parse s.data.toList wide=(x,sq)):=by
   show _=_
   unfold parse
   rw[if_pos h91,hx,hsq]
  rw[←hx]at HLI hxl
  rw[←hsq]at HLI
  clear HP hx hsq he h91
  go_wp2_with fail
  refine HP2.out.mono ?_
  rintro e w1 ⟨rfl,rfl⟩
  go_wp2_with fail
  refine HLI.out.mono ?_
  rintro e w2 ⟨rfl,hb2⟩
  have K1:Hid (Lies w2 w.heap.size #[.int .i64 0,.string ⟨#[]⟩,.int .u8 0,.int .u8 0,.int .u8 0,.int .u8 0,.int .u8 0,.int .u8 0,.int .u8 0,.int .u8 0,.int .u8 0,.int .u8 0,.int .u8 0,.int .u8 0,.int .u8 0,.int .u8 0,.int .u8 0,.int .u8 0] 28):=L1.out.below hb2 L1.out.lt
  have K2:Hid (Lies w2 (w.heap.size+1) #[.int .i64 0,.int .i64 0] 35):=L2.out.below hb2 L2.out.lt
  have KB:Hid (Below w.heap.size w w2):=HB.out.trans (hb2.mono (Nat.le_of_lt L1.out.lt))
  clear hb2 HP2 HLI L1 L2 HB
  have hz2:=K2.out.lt
  go_wp2_with (first|(refine wpList_store_row rfl 28 _ _ rfl w.heap.size rfl _ (hostC x) rfl 28 K1.out (by rw[hostC_size _ hxl];exact infoHo) (by rw[hostC_size _ hxl];rfl) (hostC_one _) rfl ?_)|(refine wpList_store_row rfl 35 _ _ rfl (w.heap.size+1) rfl _ (spotV sq) rfl 35 (K2.out.row_other (by omega) _) infoSp rfl (by simp[spotV,Value.oneCell']) rfl ?_))
  exact pa_ret x hxl sq _ _ K1.out K2.out rfl rfl ⟨by rw[HVV.out],below_row (below_row KB.out (Nat.le_refl _) _) (by omega) _⟩
 ·rw[decide_eq_false h91]at HP
  have HP2:Hid (Calls Tryz.prog 85 #[.string s,.string ⟨#[91]⟩] wA fun e w'=>e=.returned (.bool false)∧w'=wA):=HP
  have HWD:Hid (Calls Tryz.prog 52 #[.string s,.bool wide] wA fun e w'=>e=.returned (.agg #[.int .i64 ((wd wide s.data.toList).1:Nat),.int .i64 ((wd wide s.data.toList).2:Nat)])∧Below wA.heap.size wA w'):=wd_any s wide wA (HT.out _ HB.out).cls (HT.out _ HB.out).gcl (HT.out _ HB.out).fst
  have HV:Hid (parse s.data.toList wide=if (wd wide s.data.toList).1=0 then (⟨1,s.data.toList,z16⟩,(0,0)) else (ho0,wd wide s.data.toList)):=by
   show _=_
   unfold parse
   rw[if_neg h91]
  generalize wd wide s.data.toList=ev at HWD HV
  clear HP h91
  go_wp2_with fail
  refine HP2.out.mono ?_
  rintro e w1 ⟨rfl,rfl⟩
  go_wp2_with fail
  refine HWD.out.mono ?_
  rintro e w2 ⟨rfl,hb2⟩
  have K1:Hid (Lies (w2.alloc (.cells #[.int .i64 (ev.1:Nat),.int .i64 (ev.2:Nat)] 35)) w.heap.size #[.int .i64 0,.string ⟨#[]⟩,.int .u8 0,.int .u8 0,.int .u8 0,.int .u8 0,.int .u8 0,.int .u8 0,.int .u8 0,.int .u8 0,.int .u8 0,.int .u8 0,.int .u8 0,.int .u8 0,.int .u8 0,.int .u8 0,.int .u8 0,.int .u8 0] 28):=(L1.out.below hb2 L1.out.lt).alloc _
  have K2:Hid (Lies (w2.alloc (.cells #[.int .i64 (ev.1:Nat),.int .i64 (ev.2:Nat)] 35)) (w.heap.size+1) #[.int .i64 0,.int .i64 0] 35):=(L2.out.below hb2 L2.out.lt).alloc _
  have K3:Hid (Lies (w2.alloc (.cells #[.int .i64 (ev.1:Nat),.int .i64 (ev.2:Nat)] 35)) w2.heap.size #[.int .i64 (ev.1:Nat),.int .i64 (ev.2:Nat)] 35):=Lies.new w2 _ _
  have KB:Hid (Below w.heap.size w (w2.alloc (.cells #[.int .i64 (ev.1:Nat),.int .i64 (ev.2:Nat)] 35))):=(HB.out.trans (hb2.mono (Nat.le_of_lt L1.out.lt))).alloc (Nat.le_trans (Nat.le_of_lt L1.out.lt) hb2.size) _
  have HZ2:Hid (w.heap.size+1<w2.heap.size):=Nat.lt_of_lt_of_le L2.out.lt hb2.size
  clear hb2 HP2 HWD L1 L2 HB
  go_upto_region 4 with fail
  generalize w2.alloc (.cells #[.int .i64 (ev.1:Nat),.int .i64 (ev.2:Nat)] 35)=w3 at K1 K2 K3 KB ⊢
  have hz2:=HZ2.out
  have hc1:=K3.out.cell 0
  have hc2:=K3.out.cell 1
  simp at hc1 hc2
  have hz3:=K3.out.lt
  by_cases h0:ev.1=0
  ·have h0':((ev.1:Int)==0)=true:=by rw[beq_iff_eq];omega
   have HVV:Hid (parse s.data.toList wide=(⟨1,s.data.toList,z16⟩,(0,0))):=by show _=_;rw[HV.out,if_pos h0]
   clear HV h0
   go_wp2_with (first|(refine wpList_store_row rfl 28 _ _ rfl w.heap.size rfl _ #[.int .i64 1,.string s,.int .u8 0,.int .u8 0,.int .u8 0,.int .u8 0,.int .u8 0,.int .u8 0,.int .u8 0,.int .u8 0,.int .u8 0,.int .u8 0,.int .u8 0,.int .u8 0,.int .u8 0,.int .u8 0,.int .u8 0,.int .u8 0] rfl 28 K1.out infoHo rfl (by simp[Value.oneCell']) rfl ?_)|(refine wpList_store_row rfl 35 _ _ rfl (w.heap.size+1) rfl _ #[.int .i64 0,.int .i64 0] rfl 35 (K2.out.row_other (by omega) _) infoSp rfl (by simp[Value.oneCell']) rfl ?_))
   have he:hostC ⟨1,s.data.toList,z16⟩=#[.int .i64 1,.string s,.int .u8 0,.int .u8 0,.int .u8 0,.int .u8 0,.int .u8 0,.int .u8 0,.int .u8 0,.int .u8 0,.int .u8 0,.int .u8 0,.int .u8 0,.int .u8 0,.int .u8 0,.int .u8 0,.int .u8 0,.int .u8 0]:=by
    have:=host_name s
    injection this
   rw[←he]
   exact pa_ret ⟨1,s.data.toList,z16⟩ rfl (0,0) _ _ K1.out K2.out rfl rfl ⟨by rw[HVV.out],below_row (below_row KB.out (Nat.le_refl _) _) (by omega) _⟩
  ·have h0':((ev.1:Int)==0)=false:=by rw[beq_eq_false_iff_ne];omega
   have HVV:Hid (parse s.data.toList wide=(ho0,ev)):=by show _=_;rw[HV.out,if_neg h0]
   clear HV h0
   go_wp2_with fail
   have hS0:w3.drew.cell? ⟨w2.heap.size,0,none⟩=some (.int .i64 (ev.1:Int))∧w3.drew.cell? ⟨w2.heap.size,1,none⟩=some (.int .i64 (ev.2:Int)):=⟨hc1,hc2⟩
   refine wp_region_late (fun wx=>wx.cell? ⟨w2.heap.size,0,none⟩=some (.int .i64 (ev.1:Int))∧wx.cell? ⟨w2.heap.size,1,none⟩=some (.int .i64 (ev.2:Int))) 4 (by kernel_rfl) hS0 (fun hHeld=>?_)
   refine wpAnyE_tk (i:=0) (d:=some 19) (v:=.agg #[.int .i64 0,.string ⟨#[]⟩,.int .u8 0,.int .u8 0,.int .u8 0,.int .u8 0,.int .u8 0,.int .u8 0,.int .u8 0,.int .u8 0,.int .u8 0,.int .u8 0,.int .u8 0,.int .u8 0,.int .u8 0,.int .u8 0,.int .u8 0,.int .u8 0]) rfl (by kernel_rfl) (by kernel_rfl) (by kernel_rfl) rfl (fun _ _ _ h=>h) rfl rfl ?hy (by first|assumption|go_simp) ?_
   case hy=>(intro w' hSw;(try dsimp only at hSw);go_simp<;>(first|with_reducible rfl|omega|skip))
   simp only[Act.put,pA,pB,pC]
   refine wpAnyE_tk (i:=1) (d:=some 20) (v:=.agg #[.int .i64 (ev.1:Int),.int .i64 (ev.2:Int)]) rfl (by kernel_rfl) (by kernel_rfl) (by kernel_rfl) rfl (fun _ _ _ h=>h) rfl rfl ?hy (by first|assumption|go_simp) ?_
   case hy=>(intro w' hSw;(try dsimp only at hSw);go_simp<;>(first|with_reducible rfl|omega|skip))
   simp only[Act.put,pA,pB,pC]
   have J1:Lies w3.drew w.heap.size #[.int .i64 0,.string ⟨#[]⟩,.int .u8 0,.int .u8 0,.int .u8 0,.int .u8 0,.int .u8 0,.int .u8 0,.int .u8 0,.int .u8 0,.int .u8 0,.int .u8 0,.int .u8 0,.int .u8 0,.int .u8 0,.int .u8 0,.int .u8 0,.int .u8 0] 28:=K1.out
   have J2:Lies w3.drew (w.heap.size+1) #[.int .i64 0,.int .i64 0] 35:=K2.out
   have J3:Lies w3.drew w2.heap.size #[.int .i64 (ev.1:Nat),.int .i64 (ev.2:Nat)] 35:=K3.out
   refine on9 2 ?_
   refine oper_store_row 28 _ _ rfl w.heap.size rfl #[.int .i64 0,.string ⟨#[]⟩,.int .u8 0,.int .u8 0,.int .u8 0,.int .u8 0,.int .u8 0,.int .u8 0,.int .u8 0,.int .u8 0,.int .u8 0,.int .u8 0,.int .u8 0,.int .u8 0,.int .u8 0,.int .u8 0,.int .u8 0,.int .u8 0] #[.int .i64 0,.string ⟨#[]⟩,.int .u8 0,.int .u8 0,.int .u8 0,.int .u8 0,.int .u8 0,.int .u8 0,.int .u8 0,.int .u8 0,.int .u8 0,.int .u8 0,.int .u8 0,.int .u8 0,.int .u8 0,.int .u8 0,.int .u8 0,.int .u8 0] rfl 28 J1 infoHo rfl (by simp[Value.oneCell']) rfl ?_
   have N3:=J3.row_other (show w2.heap.size≠w.heap.size by omega) #[.int .i64 0,.string ⟨#[]⟩,.int .u8 0,.int .u8 0,.int .u8 0,.int .u8 0,.int .u8 0,.int .u8 0,.int .u8 0,.int .u8 0,.int .u8 0,.int .u8 0,.int .u8 0,.int .u8 0,.int .u8 0,.int .u8 0,.int .u8 0,.int .u8 0]
   refine⟨Or.inr ⟨N3.cell 0,N3.cell 1⟩,?_⟩
   refine on9 3 ?_
   refine oper_store_row 35 _ _ rfl (w.heap.size+1) rfl #[.int .i64 0,.int .i64 0] #[.int .i64 (ev.1:Int),.int .i64 (ev.2:Int)] rfl 35 (J2.row_other (by omega) _) infoSp rfl (by simp[Value.oneCell']) rfl ?_
   have N4:=N3.row_other (show w2.heap.size≠w.heap.size+1 by omega) (spotV ev)
   refine⟨Or.inr ⟨N4.cell 0,N4.cell 1⟩,?_⟩
   refine wpAnyE_done (by kernel_rfl) ?_ _
   clear hHeld N3 N4 hS0 J3 hc1 hc2
   go_wp2
   exact pa_ret ho0 rfl ev _ _ J1 J2 rfl rfl ⟨by rw[HVV.out],below_row (below_row KB.out.drew (Nat.le_refl _) _) (by omega) _⟩
set_option maxHeartbeats 2000000 in
set_option maxRecDepth 100000 in
theorem ct_any (t:ByteArray) (w:World) (hT:Tb w) (hs:t.size≤140737488355328):Calls Tryz.prog 54 #[.string t] w fun e w'=>e=.returned (.int .i64 (chTag t.data.toList:Nat))∧Below w.heap.size w w':=by
 by_cases h253:253<t.size
 ·have HV:Hid (chTag t.data.toList=82):=by
   show _=_
   unfold chTag
   rw[if_pos (by rw[len_list];exact h253)]
  have h253':(253:Int)<(t.size:Int):=by omega
  clear hT
  go_enter Tryz.func54,Tryz.ntmps54
  go_wp2_with fail
  go_ret
  exact⟨by rw[HV.out];rfl,Below.refl _ _⟩
 have h253':¬(253:Int)<(t.size:Int):=by omega
 have HV:Hid (chTag t.data.toList=match colonAt t.data.toList with|none=>83|some k=>if sixB t.data.toList=true then 83 else (tagged t.data.toList k).1):=by
  show _=_
  unfold chTag
  rw[if_neg (by rw[len_list];exact h253)]
  rfl
 have HIX:=Tryz.strings_IndexByte t 58 w
 rw[show(58:Int).toNat.toUInt8=58 from rfl,index_colon]at HIX
 cases hcol:colonAt t.data.toList with
 |none=>
  rw[hcol]at HIX HV
  have HIX2:Hid (Calls Tryz.prog 67 #[.string t,.int .u8 58] w fun e w'=>e=.returned (.int .i64 (-1))∧w'=w):=HIX
  clear HIX hcol hT
  go_enter Tryz.func54,Tryz.ntmps54
  go_wp2_with fail
  refine HIX2.out.mono ?_
  rintro e w1 ⟨rfl,rfl⟩
  go_wp2_with fail
  go_ret
  exact⟨by rw[HV.out];rfl,Below.refl _ _⟩
 |some k=>
  rw[hcol]at HIX HV
  have hk:k<t.size:=by
   have:=(colonAt_some hcol).1
   rw[len_list]at this
   exact this
  have HIX2:Hid (Calls Tryz.prog 67 #[.string t,.int .u8 58] w fun e w'=>e=.returned (.int .i64 (k:Int))∧w'=w):=HIX
  have HT:Hid (∀wx,Below w.heap.size w wx→Tb wx):=fun wx hb=>hT.below hb
  have HSX:Hid (Calls Tryz.prog 72 #[.string t] w fun e w'=>e=.returned (.bool (sixB t.data.toList))∧Below w.heap.size w w'):=six_any t w
  have HWT:Hid (∀wx,Below w.heap.size w wx→Calls Tryz.prog 73 #[.string t,.int .i64 (k:Nat)] wx fun e w'=>e=.returned (.agg #[.int .i64 ((tagged t.data.toList k).1:Nat),.int .i64 ((tagged t.data.toList k).2:Nat)])∧Below wx.heap.size wx w'):=fun wx hb=>wt_any t k wx (HT.out _ hb).cls (HT.out _ hb).gcl hk (by omega)
  have HV2:Hid (chTag t.data.toList=if sixB t.data.toList=true then 83 else (tagged t.data.toList k).1):=HV
  have hk0:¬(k:Int)<0:=by omega
  obtain⟨b6,hb6⟩:∃b,b=sixB t.data.toList:=⟨_,rfl⟩
  rw[←hb6]at HSX HV2
  clear HIX hcol hT HV hb6
  generalize tagged t.data.toList k=tg at HWT HV2
  go_enter Tryz.func54,Tryz.ntmps54
  go_wp2_with fail
  refine HIX2.out.mono ?_
  rintro e w1 ⟨rfl,rfl⟩
  go_wp2_with fail
  refine HSX.out.mono ?_
  rintro e w2 ⟨rfl,hb2⟩
  have HB2:Hid (Below w1.heap.size w1 w2):=hb2
  clear hb2
  cases b6
  ·go_wp2_with fail
   refine(HWT.out _ HB2.out).mono ?_
   rintro e w3 ⟨rfl,hb3⟩
   have HB3:Hid (Below w1.heap.size w1 w3):=HB2.out.trans (hb3.mono HB2.out.size)
   clear hb3
   have hfd:=field_spot (tg.1:Int) (tg.2:Int)
   go_wp2_with fail
   go_ret
   exact⟨by rw[HV2.out];rfl,HB3.out⟩
  ·go_wp2_with fail
   go_ret
   exact⟨by rw[HV2.out];rfl,HB2.out⟩
end Go.Proofs.YtfjpkfhbmldmfabGreatDoor
