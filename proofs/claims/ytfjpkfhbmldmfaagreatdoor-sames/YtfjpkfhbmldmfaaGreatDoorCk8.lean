/-
  The contracts of domain.Parse and checkTagged.
-/
import Derived.Test.YtfjpkfhbmldmfaaGreatDoorLt8
import Derived.ChangeKeysEq
import Derived.Deep.MidRow
namespace Go.Proofs.YtfjpkfhbmldmfaaGreatDoor
open Go.RowKit
theorem field_spot (a b:Int) (W:World):(Instr.field 32 (.agg #[.int .i64 a,.int .i64 b]) 0).run Tryz.prog W=.ok (.int .i64 a) W:=by
 have h5:(Tryz.prog.info? 30).map (·.size)=some 1:=by kernel_rfl
 cases hq:Tryz.prog.info? 30 with
 |none=>simp[hq]at h5
 |some i=>
  have hs:i.size=1:=by simpa [hq] using h5
  simp[Instr.field,asAgg,run_underlying Tryz.underlying32,run_underlying Tryz.underlying30,sizeOf,typeInfo,hq,hs,part,isAgg]
structure Tb (w:World):Prop where
 cls:Table w
 gcl:0<w.heap.size
 fst:Fst w
 es:∃te pe,w.cell? ⟨8,0,none⟩=some (.iface te pe)
 t64:w.cell? ⟨7,15,none⟩=some (.int .u8 4)
theorem Tb.below {w w':World} (h:Tb w) (hb:Below w.heap.size w w'):Tb w':=by
 obtain⟨te,pe,he⟩:=h.es
 exact⟨h.cls.below h.gcl hb,Nat.lt_of_lt_of_le h.gcl hb.size,h.fst.below hb h.fst.lt,⟨te,pe,(hb.cell (p:=⟨8,0,none⟩) (World.block_lt_of_cell? w _ he)).trans he⟩,(hb.cell (p:=⟨7,15,none⟩) (World.block_lt_of_cell? w _ h.t64)).trans h.t64⟩
theorem host_name (s:ByteArray):hostV ⟨1,s.data.toList,z16⟩=.agg #[.int .i64 1,.string s,.int .u8 0,.int .u8 0,.int .u8 0,.int .u8 0,.int .u8 0,.int .u8 0,.int .u8 0,.int .u8 0,.int .u8 0,.int .u8 0,.int .u8 0,.int .u8 0,.int .u8 0,.int .u8 0,.int .u8 0,.int .u8 0]:=by
 show Value.agg #[.int .i64 1,.string ⟨s.data.toList.toArray⟩,.int .u8 0,.int .u8 0,.int .u8 0,.int .u8 0,.int .u8 0,.int .u8 0,.int .u8 0,.int .u8 0,.int .u8 0,.int .u8 0,.int .u8 0,.int .u8 0,.int .u8 0,.int .u8 0,.int .u8 0,.int .u8 0]=_
 rw[Array.toArray_toList]
theorem pa_ret {w wr:World} (x:Ho) (hx:x.a.length=16) (e:Nat×Nat) (R:Ending→World→Prop) (tmps:Array Value) (h1:Lies wr w.heap.size #[.int .i64 0,.string ⟨#[]⟩,.int .u8 0,.int .u8 0,.int .u8 0,.int .u8 0,.int .u8 0,.int .u8 0,.int .u8 0,.int .u8 0,.int .u8 0,.int .u8 0,.int .u8 0,.int .u8 0,.int .u8 0,.int .u8 0,.int .u8 0,.int .u8 0] 25) (h2:Lies wr (w.heap.size+1) #[.int .i64 0,.int .i64 0] 32) (hp:tmps.getD 4 undef=.pointer (some ⟨w.heap.size,0,none⟩)) (hq:tmps.getD 5 undef=.pointer (some ⟨w.heap.size+1,0,none⟩))
  (hR:R (.returned (.tuple #[hostV x,.agg (spotV e)])) ((wr.setRow w.heap.size (hostC x)).setRow (w.heap.size+1) (spotV e))):bodyPost Tryz.prog Tryz.f95 R .ret {tmps:=tmps,defers:=[]} ((wr.setRow w.heap.size (hostC x)).setRow (w.heap.size+1) (spotV e)):=
 bodyPost_ret (ret_host (x:=x) (e:=e) (p:=4) (q:=5) (by kernel_rfl) rfl rfl rfl rfl tmps _ w.heap.size (w.heap.size+1) hx hp hq ((h1.row _).row_other (by omega) _) ((h2.row_other (by omega) _).row _)) rfl hR
theorem lit_len (s:List UInt8):(lit s).1.a.length=16:=by
 unfold lit
 split
 ·rfl
 ·split
  ·rfl
  ·split
   ·exact told_len (addr6_len _)
   ·split
    ·exact told_len rfl
    ·obtain⟨a,b,c,d,h⟩:=addr4_four ((s.drop 1).take (s.length - 2))
     rw[h]
     exact told_len rfl
set_option maxHeartbeats 4000000 in
set_option maxRecDepth 100000 in
theorem parse_any (s:ByteArray) (wide:Bool) (w:World) (hT:Tb w) (hs:s.size≤140737488355328):
  Calls Tryz.prog 95 #[.string s,.bool wide] w fun e w'=>e=.returned (.tuple #[hostV (parse s.data.toList wide).1,.agg (spotV (parse s.data.toList wide).2)])∧Below w.heap.size w w':=by
 have HT:Hid (∀wx,Below w.heap.size w wx→Tb wx):=fun wx hb=>hT.below hb
 have L1:Hid (Lies ((w.alloc (.cells #[.int .i64 0,.string ⟨#[]⟩,.int .u8 0,.int .u8 0,.int .u8 0,.int .u8 0,.int .u8 0,.int .u8 0,.int .u8 0,.int .u8 0,.int .u8 0,.int .u8 0,.int .u8 0,.int .u8 0,.int .u8 0,.int .u8 0,.int .u8 0,.int .u8 0] 25)).alloc (.cells #[.int .i64 0,.int .i64 0] 32)) w.heap.size #[.int .i64 0,.string ⟨#[]⟩,.int .u8 0,.int .u8 0,.int .u8 0,.int .u8 0,.int .u8 0,.int .u8 0,.int .u8 0,.int .u8 0,.int .u8 0,.int .u8 0,.int .u8 0,.int .u8 0,.int .u8 0,.int .u8 0,.int .u8 0,.int .u8 0] 25):=(Lies.new w _ _).alloc _
 have L2:Hid (Lies ((w.alloc (.cells #[.int .i64 0,.string ⟨#[]⟩,.int .u8 0,.int .u8 0,.int .u8 0,.int .u8 0,.int .u8 0,.int .u8 0,.int .u8 0,.int .u8 0,.int .u8 0,.int .u8 0,.int .u8 0,.int .u8 0,.int .u8 0,.int .u8 0,.int .u8 0,.int .u8 0] 25)).alloc (.cells #[.int .i64 0,.int .i64 0] 32)) (w.heap.size+1) #[.int .i64 0,.int .i64 0] 32):=new_one w _ _ _
 have HB:Hid (Below w.heap.size w ((w.alloc (.cells #[.int .i64 0,.string ⟨#[]⟩,.int .u8 0,.int .u8 0,.int .u8 0,.int .u8 0,.int .u8 0,.int .u8 0,.int .u8 0,.int .u8 0,.int .u8 0,.int .u8 0,.int .u8 0,.int .u8 0,.int .u8 0,.int .u8 0,.int .u8 0,.int .u8 0] 25)).alloc (.cells #[.int .i64 0,.int .i64 0] 32))):=((Below.refl _ _).alloc (Nat.le_refl _) _).alloc (by simp) _
 clear hT
 go_enter Tryz.func95,Tryz.ntmps95
 go_upto_region 1 with fail
 generalize (w.alloc (.cells #[.int .i64 0,.string ⟨#[]⟩,.int .u8 0,.int .u8 0,.int .u8 0,.int .u8 0,.int .u8 0,.int .u8 0,.int .u8 0,.int .u8 0,.int .u8 0,.int .u8 0,.int .u8 0,.int .u8 0,.int .u8 0,.int .u8 0,.int .u8 0,.int .u8 0] 25)).alloc (.cells #[.int .i64 0,.int .i64 0] 32)=wA at L1 L2 HB ⊢
 have hzA:=L2.out.lt
 have HP:=hasp_any s ⟨#[91]⟩ wA
 rw[show(⟨#[91]⟩:ByteArray).size=1 from rfl,show(⟨#[91]⟩:ByteArray).data.toList=[91] from rfl,take_one]at HP
 by_cases h91:s.data.toList.head?=some 91
 ·rw[decide_eq_true h91]at HP
  have HP2:Hid (Calls Tryz.prog 129 #[.string s,.string ⟨#[91]⟩] wA fun e w'=>e=.returned (.bool true)∧w'=wA):=HP
  obtain⟨te,pe,he⟩:=(HT.out _ HB.out).es
  have HLI:Hid (Calls Tryz.prog 130 #[.string s] wA fun e w'=>e=.returned (.tuple #[hostV (lit s.data.toList).1,.agg (spotV (lit s.data.toList).2)])∧Below wA.heap.size wA w'):=lit_any s te pe wA (HT.out _ HB.out).cls (HT.out _ HB.out).gcl he h91 hs
  have hxl:=lit_len s.data.toList
  obtain⟨x,hx⟩:∃x,x=(lit s.data.toList).1:=⟨_,rfl⟩
  obtain⟨sq,hsq⟩:∃sq,sq=(lit s.data.toList).2:=⟨_,rfl⟩
  have HVV:Hid (parse s.data.toList wide=(x,sq)):=by
   show _=_
   unfold parse
   rw[if_pos h91,hx,hsq]
  rw[←hx]at HLI hxl
  rw[←hsq]at HLI
  clear HP hx hsq he h91
  go_wp2_with fail
  refine HP2.out.mono ?_
  rintro e w1 ⟨rfl,rfl⟩
  go_wp2_with fail
  refine HLI.out.mono ?_
  rintro e w2 ⟨rfl,hb2⟩
  have K1:Hid (Lies w2 w.heap.size #[.int .i64 0,.string ⟨#[]⟩,.int .u8 0,.int .u8 0,.int .u8 0,.int .u8 0,.int .u8 0,.int .u8 0,.int .u8 0,.int .u8 0,.int .u8 0,.int .u8 0,.int .u8 0,.int .u8 0,.int .u8 0,.int .u8 0,.int .u8 0,.int .u8 0] 25):=L1.out.below hb2 L1.out.lt
  have K2:Hid (Lies w2 (w.heap.size+1) #[.int .i64 0,.int .i64 0] 32):=L2.out.below hb2 L2.out.lt
  have KB:Hid (Below w.heap.size w w2):=HB.out.trans (hb2.mono (Nat.le_of_lt L1.out.lt))
  clear hb2 HP2 HLI L1 L2 HB
  have hz2:=K2.out.lt
  go_wp2_with (first|(refine wpList_store_row rfl 25 _ _ rfl w.heap.size rfl _ (hostC x) rfl 25 K1.out (by rw[hostC_size _ hxl];exact infoHo) (by rw[hostC_size _ hxl];rfl) (hostC_one _) rfl ?_)|(refine wpList_store_row rfl 32 _ _ rfl (w.heap.size+1) rfl _ (spotV sq) rfl 32 (K2.out.row_other (by omega) _) infoSp rfl (by simp[spotV,Value.oneCell']) rfl ?_))
  exact pa_ret x hxl sq _ _ K1.out K2.out rfl rfl ⟨by rw[HVV.out],below_row (below_row KB.out (Nat.le_refl _) _) (by omega) _⟩
 ·rw[decide_eq_false h91]at HP
  have HP2:Hid (Calls Tryz.prog 129 #[.string s,.string ⟨#[91]⟩] wA fun e w'=>e=.returned (.bool false)∧w'=wA):=HP
  have HWD:Hid (Calls Tryz.prog 101 #[.string s,.bool wide] wA fun e w'=>e=.returned (.agg #[.int .i64 ((wd wide s.data.toList).1:Nat),.int .i64 ((wd wide s.data.toList).2:Nat)])∧Below wA.heap.size wA w'):=wd_any s wide wA (HT.out _ HB.out).cls (HT.out _ HB.out).gcl (HT.out _ HB.out).fst
  have HV:Hid (parse s.data.toList wide=if (wd wide s.data.toList).1=0 then (⟨1,s.data.toList,z16⟩,(0,0)) else (ho0,wd wide s.data.toList)):=by
   show _=_
   unfold parse
   rw[if_neg h91]
  generalize wd wide s.data.toList=ev at HWD HV
  clear HP h91
  go_wp2_with fail
  refine HP2.out.mono ?_
  rintro e w1 ⟨rfl,rfl⟩
  go_wp2_with fail
  refine HWD.out.mono ?_
  rintro e w2 ⟨rfl,hb2⟩
  have K1:Hid (Lies (w2.alloc (.cells #[.int .i64 (ev.1:Nat),.int .i64 (ev.2:Nat)] 32)) w.heap.size #[.int .i64 0,.string ⟨#[]⟩,.int .u8 0,.int .u8 0,.int .u8 0,.int .u8 0,.int .u8 0,.int .u8 0,.int .u8 0,.int .u8 0,.int .u8 0,.int .u8 0,.int .u8 0,.int .u8 0,.int .u8 0,.int .u8 0,.int .u8 0,.int .u8 0] 25):=(L1.out.below hb2 L1.out.lt).alloc _
  have K2:Hid (Lies (w2.alloc (.cells #[.int .i64 (ev.1:Nat),.int .i64 (ev.2:Nat)] 32)) (w.heap.size+1) #[.int .i64 0,.int .i64 0] 32):=(L2.out.below hb2 L2.out.lt).alloc _
  have K3:Hid (Lies (w2.alloc (.cells #[.int .i64 (ev.1:Nat),.int .i64 (ev.2:Nat)] 32)) w2.heap.size #[.int .i64 (ev.1:Nat),.int .i64 (ev.2:Nat)] 32):=Lies.new w2 _ _
  have KB:Hid (Below w.heap.size w (w2.alloc (.cells #[.int .i64 (ev.1:Nat),.int .i64 (ev.2:Nat)] 32))):=(HB.out.trans (hb2.mono (Nat.le_of_lt L1.out.lt))).alloc (Nat.le_trans (Nat.le_of_lt L1.out.lt) hb2.size) _
  have HZ2:Hid (w.heap.size+1<w2.heap.size):=Nat.lt_of_lt_of_le L2.out.lt hb2.size
  clear hb2 HP2 HWD L1 L2 HB
  go_upto_region 4 with fail
  generalize w2.alloc (.cells #[.int .i64 (ev.1:Nat),.int .i64 (ev.2:Nat)] 32)=w3 at K1 K2 K3 KB ⊢
  have hz2:=HZ2.out
  have hc1:=K3.out.cell 0
  have hc2:=K3.out.cell 1
  simp at hc1 hc2
  have hz3:=K3.out.lt
  by_cases h0:ev.1=0
  ·have h0':((ev.1:Int)==0)=true:=by rw[beq_iff_eq];omega
   have HVV:Hid (parse s.data.toList wide=(⟨1,s.data.toList,z16⟩,(0,0))):=by show _=_;rw[HV.out,if_pos h0]
   clear HV h0
   go_wp2_with (first|(refine wpList_store_row rfl 25 _ _ rfl w.heap.size rfl _ #[.int .i64 1,.string s,.int .u8 0,.int .u8 0,.int .u8 0,.int .u8 0,.int .u8 0,.int .u8 0,.int .u8 0,.int .u8 0,.int .u8 0,.int .u8 0,.int .u8 0,.int .u8 0,.int .u8 0,.int .u8 0,.int .u8 0,.int .u8 0] rfl 25 K1.out infoHo rfl (by simp[Value.oneCell']) rfl ?_)|(refine wpList_store_row rfl 32 _ _ rfl (w.heap.size+1) rfl _ #[.int .i64 0,.int .i64 0] rfl 32 (K2.out.row_other (by omega) _) infoSp rfl (by simp[Value.oneCell']) rfl ?_))
   have he:hostC ⟨1,s.data.toList,z16⟩=#[.int .i64 1,.string s,.int .u8 0,.int .u8 0,.int .u8 0,.int .u8 0,.int .u8 0,.int .u8 0,.int .u8 0,.int .u8 0,.int .u8 0,.int .u8 0,.int .u8 0,.int .u8 0,.int .u8 0,.int .u8 0,.int .u8 0,.int .u8 0]:=by
    have:=host_name s
    injection this
   rw[←he]
   exact pa_ret ⟨1,s.data.toList,z16⟩ rfl (0,0) _ _ K1.out K2.out rfl rfl ⟨by rw[HVV.out],below_row (below_row KB.out (Nat.le_refl _) _) (by omega) _⟩
  ·have h0':((ev.1:Int)==0)=false:=by rw[beq_eq_false_iff_ne];omega
   have HVV:Hid (parse s.data.toList wide=(ho0,ev)):=by show _=_;rw[HV.out,if_neg h0]
   clear HV h0
   go_wp2_with fail
   have hS0:w3.drew.cell? ⟨w2.heap.size,0,none⟩=some (.int .i64 (ev.1:Int))∧w3.drew.cell? ⟨w2.heap.size,1,none⟩=some (.int .i64 (ev.2:Int)):=⟨hc1,hc2⟩
   refine wp_region_late (fun wx=>wx.cell? ⟨w2.heap.size,0,none⟩=some (.int .i64 (ev.1:Int))∧wx.cell? ⟨w2.heap.size,1,none⟩=some (.int .i64 (ev.2:Int))) 4 (by kernel_rfl) hS0 (fun hHeld=>?_)
   refine wpAnyE_tk (i:=0) (d:=some 19) (v:=.agg #[.int .i64 0,.string ⟨#[]⟩,.int .u8 0,.int .u8 0,.int .u8 0,.int .u8 0,.int .u8 0,.int .u8 0,.int .u8 0,.int .u8 0,.int .u8 0,.int .u8 0,.int .u8 0,.int .u8 0,.int .u8 0,.int .u8 0,.int .u8 0,.int .u8 0]) rfl (by kernel_rfl) (by kernel_rfl) (by kernel_rfl) rfl (fun _ _ _ h=>h) rfl rfl ?hy (by first|assumption|go_simp) ?_
   case hy=>(intro w' hSw;(try dsimp only at hSw);go_simp<;>(first|with_reducible rfl|omega|skip))
   simp only[Act.put,pA,pB,pC]
   refine wpAnyE_tk (i:=1) (d:=some 20) (v:=.agg #[.int .i64 (ev.1:Int),.int .i64 (ev.2:Int)]) rfl (by kernel_rfl) (by kernel_rfl) (by kernel_rfl) rfl (fun _ _ _ h=>h) rfl rfl ?hy (by first|assumption|go_simp) ?_
   case hy=>(intro w' hSw;(try dsimp only at hSw);go_simp<;>(first|with_reducible rfl|omega|skip))
   simp only[Act.put,pA,pB,pC]
   have J1:Lies w3.drew w.heap.size #[.int .i64 0,.string ⟨#[]⟩,.int .u8 0,.int .u8 0,.int .u8 0,.int .u8 0,.int .u8 0,.int .u8 0,.int .u8 0,.int .u8 0,.int .u8 0,.int .u8 0,.int .u8 0,.int .u8 0,.int .u8 0,.int .u8 0,.int .u8 0,.int .u8 0] 25:=K1.out
   have J2:Lies w3.drew (w.heap.size+1) #[.int .i64 0,.int .i64 0] 32:=K2.out
   have J3:Lies w3.drew w2.heap.size #[.int .i64 (ev.1:Nat),.int .i64 (ev.2:Nat)] 32:=K3.out
   refine on9 2 ?_
   refine oper_store_row 25 _ _ rfl w.heap.size rfl #[.int .i64 0,.string ⟨#[]⟩,.int .u8 0,.int .u8 0,.int .u8 0,.int .u8 0,.int .u8 0,.int .u8 0,.int .u8 0,.int .u8 0,.int .u8 0,.int .u8 0,.int .u8 0,.int .u8 0,.int .u8 0,.int .u8 0,.int .u8 0,.int .u8 0] #[.int .i64 0,.string ⟨#[]⟩,.int .u8 0,.int .u8 0,.int .u8 0,.int .u8 0,.int .u8 0,.int .u8 0,.int .u8 0,.int .u8 0,.int .u8 0,.int .u8 0,.int .u8 0,.int .u8 0,.int .u8 0,.int .u8 0,.int .u8 0,.int .u8 0] rfl 25 J1 infoHo rfl (by simp[Value.oneCell']) rfl ?_
   have N3:=J3.row_other (show w2.heap.size≠w.heap.size by omega) #[.int .i64 0,.string ⟨#[]⟩,.int .u8 0,.int .u8 0,.int .u8 0,.int .u8 0,.int .u8 0,.int .u8 0,.int .u8 0,.int .u8 0,.int .u8 0,.int .u8 0,.int .u8 0,.int .u8 0,.int .u8 0,.int .u8 0,.int .u8 0,.int .u8 0]
   refine⟨Or.inr ⟨N3.cell 0,N3.cell 1⟩,?_⟩
   refine on9 3 ?_
   refine oper_store_row 32 _ _ rfl (w.heap.size+1) rfl #[.int .i64 0,.int .i64 0] #[.int .i64 (ev.1:Int),.int .i64 (ev.2:Int)] rfl 32 (J2.row_other (by omega) _) infoSp rfl (by simp[Value.oneCell']) rfl ?_
   have N4:=N3.row_other (show w2.heap.size≠w.heap.size+1 by omega) (spotV ev)
   refine⟨Or.inr ⟨N4.cell 0,N4.cell 1⟩,?_⟩
   refine wpAnyE_done (by kernel_rfl) ?_ _
   clear hHeld N3 N4 hS0 J3 hc1 hc2
   go_wp2
   exact pa_ret ho0 rfl ev _ _ J1 J2 rfl rfl ⟨by rw[HVV.out],below_row (below_row KB.out.drew (Nat.le_refl _) _) (by omega) _⟩
set_option maxHeartbeats 2000000 in
set_option maxRecDepth 100000 in
theorem ct_any (t:ByteArray) (w:World) (hT:Tb w) (hs:t.size≤140737488355328):Calls Tryz.prog 103 #[.string t] w fun e w'=>e=.returned (.int .i64 (chTag t.data.toList:Nat))∧Below w.heap.size w w':=by
 by_cases h253:253<t.size
 ·have HV:Hid (chTag t.data.toList=82):=by
   show _=_
   unfold chTag
   rw[if_pos (by rw[len_list];exact h253)]
  have h253':(253:Int)<(t.size:Int):=by omega
  clear hT
  go_enter Tryz.func103,Tryz.ntmps103
  go_wp2_with fail
  go_ret
  exact⟨by rw[HV.out];rfl,Below.refl _ _⟩
 have h253':¬(253:Int)<(t.size:Int):=by omega
 have HV:Hid (chTag t.data.toList=match colonAt t.data.toList with|none=>83|some k=>if sixB t.data.toList=true then 83 else (tagged t.data.toList k).1):=by
  show _=_
  unfold chTag
  rw[if_neg (by rw[len_list];exact h253)]
  rfl
 have HIX:=Tryz.strings_IndexByte t 58 w
 rw[show(58:Int).toNat.toUInt8=58 from rfl,index_colon]at HIX
 cases hcol:colonAt t.data.toList with
 |none=>
  rw[hcol]at HIX HV
  have HIX2:Hid (Calls Tryz.prog 114 #[.string t,.int .u8 58] w fun e w'=>e=.returned (.int .i64 (-1))∧w'=w):=HIX
  clear HIX hcol hT
  go_enter Tryz.func103,Tryz.ntmps103
  go_wp2_with fail
  refine HIX2.out.mono ?_
  rintro e w1 ⟨rfl,rfl⟩
  go_wp2_with fail
  go_ret
  exact⟨by rw[HV.out];rfl,Below.refl _ _⟩
 |some k=>
  rw[hcol]at HIX HV
  have hk:k<t.size:=by
   have:=(colonAt_some hcol).1
   rw[len_list]at this
   exact this
  have HIX2:Hid (Calls Tryz.prog 114 #[.string t,.int .u8 58] w fun e w'=>e=.returned (.int .i64 (k:Int))∧w'=w):=HIX
  have HT:Hid (∀wx,Below w.heap.size w wx→Tb wx):=fun wx hb=>hT.below hb
  have HSX:Hid (Calls Tryz.prog 139 #[.string t] w fun e w'=>e=.returned (.bool (sixB t.data.toList))∧Below w.heap.size w w'):=six_any t w
  have HWT:Hid (∀wx,Below w.heap.size w wx→Calls Tryz.prog 140 #[.string t,.int .i64 (k:Nat)] wx fun e w'=>e=.returned (.agg #[.int .i64 ((tagged t.data.toList k).1:Nat),.int .i64 ((tagged t.data.toList k).2:Nat)])∧Below wx.heap.size wx w'):=fun wx hb=>wt_any t k wx (HT.out _ hb).cls (HT.out _ hb).gcl hk (by omega)
  have HV2:Hid (chTag t.data.toList=if sixB t.data.toList=true then 83 else (tagged t.data.toList k).1):=HV
  have hk0:¬(k:Int)<0:=by omega
  obtain⟨b6,hb6⟩:∃b,b=sixB t.data.toList:=⟨_,rfl⟩
  rw[←hb6]at HSX HV2
  clear HIX hcol hT HV hb6
  generalize tagged t.data.toList k=tg at HWT HV2
  go_enter Tryz.func103,Tryz.ntmps103
  go_wp2_with fail
  refine HIX2.out.mono ?_
  rintro e w1 ⟨rfl,rfl⟩
  go_wp2_with fail
  refine HSX.out.mono ?_
  rintro e w2 ⟨rfl,hb2⟩
  have HB2:Hid (Below w1.heap.size w1 w2):=hb2
  clear hb2
  cases b6
  ·go_wp2_with fail
   refine(HWT.out _ HB2.out).mono ?_
   rintro e w3 ⟨rfl,hb3⟩
   have HB3:Hid (Below w1.heap.size w1 w3):=HB2.out.trans (hb3.mono HB2.out.size)
   clear hb3
   have hfd:=field_spot (tg.1:Int) (tg.2:Int)
   go_wp2_with fail
   go_ret
   exact⟨by rw[HV2.out];rfl,HB3.out⟩
  ·go_wp2_with fail
   go_ret
   exact⟨by rw[HV2.out];rfl,HB2.out⟩
open Go.RowKit
theorem info5e:∃i,Tryz.prog.info? 5=some i∧i.size=1:=by
 have h5:(Tryz.prog.info? 5).map (·.size)=some 1:=by kernel_rfl
 cases hq:Tryz.prog.info? 5 with
 |none=>simp[hq]at h5
 |some i=>exact⟨i,rfl,by simpa [hq] using h5⟩
theorem cells5:Tryz.prog.cellsOf 5=1:=by kernel_rfl
theorem part_byte (l:List Nat) (k:Nat) (hk:k<l.length) (w:World):(part 5 (bytesV l) k).run Tryz.prog w=.ok (.int .u8 (l[k]:Nat)) w:=by
 simp[part,isAgg,run_underlying Tryz.underlying5,bytesV_at l k hk]
theorem eqItems_bytes (d:Nat) (a b:List Nat):∀(is:List Nat) (_:∀i∈is,i<a.length∧i<b.length) (w:World),(Op.eqItems (d+1) 5 1 (bytesV a) (bytesV b) is).run Tryz.prog w=.ok (is.all fun i=>decide (a.getD i 0=b.getD i 0)) w
 |[],_,w=>by simp[Op.eqItems]
 |i::is,h,w=>by
  obtain⟨h1,h2⟩:=h i (by simp)
  have ih:=eqItems_bytes d a b is (fun j hj=>h j (by simp[hj])) w
  have e1:a.getD i 0=a[i]:=by rw[List.getD_eq_getElem?_getD,List.getElem?_eq_getElem h1];rfl
  have e2:b.getD i 0=b[i]:=by rw[List.getD_eq_getElem?_getD,List.getElem?_eq_getElem h2];rfl
  have e3:((a[i]:Int)==(b[i]:Int))=decide (a[i]=b[i]):=by
   rw[Bool.eq_iff_iff,beq_iff_eq,decide_eq_true_eq]
   omega
  simp only[Op.eqItems,Sem.run_bind,Nat.mul_one,part_byte a i h1,part_byte b i h2,Result.andThen_ok,run_equalIn_int (P:=Tryz.prog) w d 5 .u8 .u8 _ _ Tryz.underlying5,e3,List.all_cons,e1,e2]
  by_cases hab:a[i]=b[i]
  ·rw[decide_eq_true hab]
   simpa using ih
  ·rw[decide_eq_false hab]
   simp
theorem eq_list (a b:List Nat) (n:Nat) (ha:a.length=n) (hb:b.length=n):((List.range n).all fun i=>decide (a.getD i 0=b.getD i 0))=decide (a=b):=by
 rw[Bool.eq_iff_iff,List.all_eq_true,decide_eq_true_eq]
 constructor
 ·intro h
  apply List.ext_getElem (by rw[ha,hb])
  intro i h1 h2
  have:=h i (List.mem_range.2 (by omega))
  rw[decide_eq_true_eq,List.getD_eq_getElem?_getD,List.getD_eq_getElem?_getD,List.getElem?_eq_getElem h1,List.getElem?_eq_getElem h2]at this
  exact this
 ·intro h i _
  rw[h]
  simp
set_option maxRecDepth 100000 in
theorem eq16 (d:Nat) (a b:List Nat) (ha:a.length=16) (hb:b.length=16) (w:World):(Op.equalIn (d+2) 23 (.agg (bytesV a)) (.agg (bytesV b))).run Tryz.prog w=.ok (decide (a=b)) w:=by
 obtain⟨i,hi,_⟩:=info5e
 rw[run_equalIn_array w (d+1) _ _ Tryz.underlying23 hi,cells5,eqItems_bytes d a b _ (fun i hi=>by rw[List.mem_range]at hi;omega) w,eq_list a b 16 ha hb]
theorem neq16 (a b:List Nat) (ha:a.length=16) (hb:b.length=16) (w:World):(binOp .neq 23 (.agg (bytesV a)) (.agg (bytesV b))).run Tryz.prog w=.ok (.bool (!decide (a=b))) w:=by
 rw[run_neq_struct,eq16 9998 a b ha hb]
 rfl
theorem info16':∃i,Tryz.prog.info? 23=some i∧i.size=16:=by
 have h5:=info16
 cases hq:Tryz.prog.info? 23 with
 |none=>simp[hq]at h5
 |some i=>exact⟨i,rfl,by simpa [hq] using h5⟩
theorem part_addr (h:Ho) (ha:h.a.length=16) (w:World):(part 23 (hostC h) 2).run Tryz.prog w=.ok (.agg (bytesV h.a)) w:=by
 obtain⟨i,hi,hs⟩:=info16'
 have e:(hostC h).extract 2 18=bytesV h.a:=by
  apply Array.ext'
  unfold hostC bytesV
  rw[Array.toList_extract]
  simp
  rw[List.take_of_length_le (by rw[List.length_map,ha];exact Nat.le_refl _)]
 have hz:=hostC_size h ha
 simp[part,isAgg,run_underlying Tryz.underlying23,sizeOf,typeInfo,hi,hs,e,hz]
theorem part_kind (h:Ho) (w:World):(part 3 (hostC h) 0).run Tryz.prog w=.ok (.int .i64 h.k) w:=by
 simp[part,isAgg,run_underlying Tryz.underlying3,hostC]
theorem part_text (h:Ho) (w:World):(part 9 (hostC h) 1).run Tryz.prog w=.ok (.string ⟨h.n.toArray⟩) w:=by
 simp[part,isAgg,run_underlying Tryz.underlying9,hostC]
theorem list_beq (x y:List UInt8):((⟨x.toArray⟩:ByteArray).toList==(⟨y.toArray⟩:ByteArray).toList)=decide (x=y):=by
 rw[ByteArray.toList_eq,ByteArray.toList_eq,Bool.eq_iff_iff]
 simp
theorem ho_eq (x y:Ho):decide (x=y)=(decide (x.k=y.k)&&decide (x.n=y.n)&&decide (x.a=y.a)):=by
 rw[Bool.eq_iff_iff]
 simp only[Bool.and_eq_true,decide_eq_true_eq]
 constructor
 ·intro h
  rw[h]
  simp
 ·rintro ⟨⟨h1,h2⟩,h3⟩
  cases x
  cases y
  simp_all
set_option maxRecDepth 100000 in
theorem eqHost (d:Nat) (x y:Ho) (hx:x.a.length=16) (hy:y.a.length=16) (w:World):(Op.equalIn (d+3) 25 (hostV x) (hostV y)).run Tryz.prog w=.ok (decide (x=y)) w:=by
 have hf:Tryz.prog.underlying 25=some (.struct (Tryz.prog.fieldsOf 25)):=by simp[Program.fieldsOf,Tryz.underlying25]
 have e3:((x.k:Int)==y.k)=decide (x.k=y.k):=by rw[Bool.eq_iff_iff,beq_iff_eq,decide_eq_true_eq]
 unfold hostV
 rw[run_equalIn_struct w (d+2) 25 _ _ hf (by kernel_rfl),ho_eq]
 simp only[Program.fieldsOf,Tryz.underlying25]
 simp only[Op.eqFields,Sem.run_bind,Sem.run_ite,part_kind,part_text,part_addr x hx,part_addr y hy,Result.andThen_ok,run_equalIn_int (P:=Tryz.prog) w (d+1) 3 .i64 .i64 _ _ Tryz.underlying3,run_equalIn_string (P:=Tryz.prog) w (d+1) 9 _ _ Tryz.underlying9,eq16 d x.a y.a hx hy,e3,list_beq]
 by_cases h1:x.k=y.k<;>by_cases h2:x.n=y.n<;>by_cases h3:x.a=y.a<;>simp[h1,h2,h3]
theorem neqHost (x y:Ho) (hx:x.a.length=16) (hy:y.a.length=16) (w:World):(binOp .neq 25 (hostV x) (hostV y)).run Tryz.prog w=.ok (.bool (!decide (x=y))) w:=by
 have:=eqHost 9997 x y hx hy w
 unfold hostV at*
 rw[run_neq_struct,this]
 rfl
theorem eqlHost (x y:Ho) (hx:x.a.length=16) (hy:y.a.length=16) (w:World):(binOp .eql 25 (hostV x) (hostV y)).run Tryz.prog w=.ok (.bool (decide (x=y))) w:=by
 have:=eqHost 9997 x y hx hy w
 unfold hostV at*
 rw[run_eql_struct,this]
 rfl
theorem exec_load_row {P:Program} {op:Oper} {a:Act} {w:World} (ty:TypeId) (x:Operand) (ho:op.op=.load ty x) (g:Nat) (hx:a.eval x=.pointer (some ⟨g,0,none⟩)) (cs:Array Value) (t:TypeId) (d:TypeDesc) (hc:Lies w g cs t)
  (hu:P.underlying ty=some d) (hd:(match d with| .struct _| .array _ _=>true|_=>false)=true) (hi:(P.info? ty).map (·.size)=some cs.size):(execOp a.eval op).run P w=.ok (.value (.agg cs)) w:=by
 unfold execOp
 simp only[ho,hx,Instr.loadAt,Instr.sureAddr,Sem.run_bind,Sem.run_pure,Result.andThen_ok,run_loadVar_row w g t ty cs (0,0) d hc hu hd hi]
theorem exec_load_mid {P:Program} {op:Oper} {a:Act} {w:World} (ty:TypeId) (x:Operand) (ho:op.op=.load ty x) (g o:Nat) (hx:a.eval x=.pointer (some ⟨g,o,none⟩)) (cs:List Value) (d:TypeDesc) (hc:w.rangeAt g o cs)
  (hu:P.underlying ty=some d) (hd:d.isRow=true) (hi:(P.info? ty).map (·.size)=some cs.length):(execOp a.eval op).run P w=.ok (.value (.agg cs.toArray)) w:=by
 unfold execOp
 simp only[ho,hx,Instr.loadAt,Instr.sureAddr,Sem.run_bind,Sem.run_pure,Result.andThen_ok,run_loadVar_mid w g o ty cs d hc hu hd hi]
theorem host_mid {w:World} {g:Nat} {h:Ho} (hl:Lies w g (hostC h) 25):w.rangeAt g 2 (h.a.map fun n=>Value.int .u8 (n:Nat)):=fun j v hv=>by
 rw[hl.cell]
 unfold hostC
 rw[List.getElem?_toArray,show 2+j=j+1+1 from by omega,List.getElem?_cons_succ,List.getElem?_cons_succ]
 exact hv
theorem host_mid4 {w:World} {g:Nat} {h:Ho} (hl:Lies w g (hostC h) 25):w.rangeAt g 2 ((h.a.take 4).map fun n=>Value.int .u8 (n:Nat)):=fun j v hv=>by
 refine host_mid hl j v ?_
 rw[List.map_take,List.getElem?_take]at hv
 split at hv
 ·exact hv
 ·cases hv
theorem host_cells {w:World} {g:Nat} {h:Ho} (hl:Lies w g (hostC h) 25):w.cell? ⟨g,0,none⟩=some (.int .i64 h.k)∧w.cell? ⟨g,1,none⟩=some (.string ⟨h.n.toArray⟩):=⟨hl.cell 0,hl.cell 1⟩
open Go.RowKit
theorem array_at (g:Nat) (W:World):(Instr.arrayAt 108 (.slice (some ⟨g,2,none⟩) 4 16)).run Tryz.prog W=.ok (.pointer (some ⟨g,2,none⟩)) W:=by
 simp[Instr.arrayAt,run_underlying Tryz.underlying108]
theorem exec_neq_host {op:Oper} {a:Act} {w:World} (p q:Operand) (r:TypeId) (ho:op.op=.binOp .neq 25 p q r) (x y:Ho) (hp:a.eval p=hostV x) (hq:a.eval q=hostV y) (hx:x.a.length=16) (hy:y.a.length=16):(execOp a.eval op).run Tryz.prog w=.ok (.value (.bool (!decide (x=y)))) w:=by
 have hgu:Tryz.prog.eqGuardType Tryz.prog.depth 25=false:=by kernel_rfl
 have h:=neqHost x y hx hy w
 have hg:=run_eqGuard_agg (P:=Tryz.prog) w .neq 25 p q (hostC x) (hostC y) hgu
 unfold hostV at*
 unfold execOp
 simp only[ho,hp,hq,Sem.run_bind,hg,Result.andThen_ok,h,Sem.run_pure]
theorem str_list (l:List UInt8):(⟨l.toArray⟩:ByteArray).data.toList=l:=by simp
set_option maxHeartbeats 4000000 in
set_option maxRecDepth 100000 in
theorem chk_any (h:Ho) (ha:h.a.length=16) (wide:Bool) (w:World) (hT:Tb w) (hn:h.n.length≤140737488355328):
  Calls Tryz.prog 74 #[hostV h,.bool wide] w fun e w'=>e=.returned (.int .i64 (check h wide:Nat))∧Below w.heap.size w w':=by
 have HT:Hid (∀wx,Below w.heap.size w wx→Tb wx):=fun wx hb=>hT.below hb
 have hsz:=hostC_size h ha
 obtain⟨HC,hHC⟩:∃HC,HC=hostC h:=⟨_,rfl⟩
 have e1:hostV h=.agg HC:=by rw[hHC];rfl
 have HHC:Hid (HC=hostC h):=hHC
 rw[←hHC]at hsz
 rw[e1]
 have L1:Hid (Lies ((w.alloc (.cells HC 25)).alloc (.cells #[.int .u8 0,.int .u8 0,.int .u8 0,.int .u8 0,.int .u8 0,.int .u8 0,.int .u8 0,.int .u8 0,.int .u8 0,.int .u8 0,.int .u8 0,.int .u8 0,.int .u8 0,.int .u8 0,.int .u8 0,.int .u8 0] 23)) w.heap.size HC 25):=(Lies.new w _ _).alloc _
 have L2:Hid (Lies ((w.alloc (.cells HC 25)).alloc (.cells #[.int .u8 0,.int .u8 0,.int .u8 0,.int .u8 0,.int .u8 0,.int .u8 0,.int .u8 0,.int .u8 0,.int .u8 0,.int .u8 0,.int .u8 0,.int .u8 0,.int .u8 0,.int .u8 0,.int .u8 0,.int .u8 0] 23)) (w.heap.size+1) #[.int .u8 0,.int .u8 0,.int .u8 0,.int .u8 0,.int .u8 0,.int .u8 0,.int .u8 0,.int .u8 0,.int .u8 0,.int .u8 0,.int .u8 0,.int .u8 0,.int .u8 0,.int .u8 0,.int .u8 0,.int .u8 0] 23):=new_one w _ _ _
 have HB:Hid (Below w.heap.size w ((w.alloc (.cells HC 25)).alloc (.cells #[.int .u8 0,.int .u8 0,.int .u8 0,.int .u8 0,.int .u8 0,.int .u8 0,.int .u8 0,.int .u8 0,.int .u8 0,.int .u8 0,.int .u8 0,.int .u8 0,.int .u8 0,.int .u8 0,.int .u8 0,.int .u8 0] 23))):=((Below.refl _ _).alloc (Nat.le_refl _) _).alloc (by simp) _
 clear hT hHC e1
 go_enter Tryz.func74,Tryz.ntmps74
 go_upto_region 2 with fail
 generalize (w.alloc (.cells HC 25)).alloc (.cells #[.int .u8 0,.int .u8 0,.int .u8 0,.int .u8 0,.int .u8 0,.int .u8 0,.int .u8 0,.int .u8 0,.int .u8 0,.int .u8 0,.int .u8 0,.int .u8 0,.int .u8 0,.int .u8 0,.int .u8 0,.int .u8 0] 23)=wA at L1 L2 HB ⊢
 have hzA:=L2.out.lt
 have L1h:Lies wA w.heap.size (hostC h) 25:=by rw[←HHC.out];exact L1.out
 obtain⟨c0,c1⟩:=host_cells L1h
 obtain⟨A,hA⟩:∃A,A=h.a.map fun n=>Value.int .u8 (n:Nat):=⟨_,rfl⟩
 have hAl:A.length=16:=by rw[hA,List.length_map,ha]
 have HMID:Hid (wA.rangeAt w.heap.size 2 A):=by rw[hA];exact host_mid L1h
 have hneq:∀W,(binOp .neq 23 (.agg A.toArray) (.agg #[.int .u8 0,.int .u8 0,.int .u8 0,.int .u8 0,.int .u8 0,.int .u8 0,.int .u8 0,.int .u8 0,.int .u8 0,.int .u8 0,.int .u8 0,.int .u8 0,.int .u8 0,.int .u8 0,.int .u8 0,.int .u8 0])).run Tryz.prog W=.ok (.bool (!decide (h.a=z16))) W:=fun W=>by rw[hA];exact neq16 h.a z16 ha rfl W
 have HTA:Hid (Tb wA):=HT.out _ HB.out
 by_cases k1:h.k=1
 ·have k1':(h.k==1)=true:=by rw[k1];rfl
  rw[k1]at c0
  by_cases hz:h.a=z16
  ·rw[decide_eq_true hz]at hneq
   have HV:Hid (check h wide=(wd wide h.n).1):=by show _=_;unfold check;rw[if_pos k1,if_pos hz]
   have HWD:Hid (Calls Tryz.prog 101 #[.string ⟨h.n.toArray⟩,.bool wide] wA fun e w'=>e=.returned (.agg #[.int .i64 ((wd wide h.n).1:Nat),.int .i64 ((wd wide h.n).2:Nat)])∧Below wA.heap.size wA w'):=by
    have:=wd_any ⟨h.n.toArray⟩ wide wA HTA.out.cls HTA.out.gcl HTA.out.fst
    rw[str_list]at this
    exact this
   generalize wd wide h.n=ev at HV HWD
   have hfd:=field_spot (ev.1:Int) (ev.2:Int)
   clear hz k1 hA
   go_wp2_with (first|(refine wpList_load_mid rfl 23 _ rfl w.heap.size 2 rfl A _ HMID.out Tryz.underlying23 rfl (by rw[hAl];exact info16) ?_)|(refine wpList_load_row rfl 23 _ rfl (w.heap.size+1) rfl #[.int .u8 0,.int .u8 0,.int .u8 0,.int .u8 0,.int .u8 0,.int .u8 0,.int .u8 0,.int .u8 0,.int .u8 0,.int .u8 0,.int .u8 0,.int .u8 0,.int .u8 0,.int .u8 0,.int .u8 0,.int .u8 0] 23 _ L2.out Tryz.underlying23 rfl info16 ?_))
   refine HWD.out.mono ?_
   rintro e w2 ⟨rfl,hb2⟩
   have KB:Hid (Below w.heap.size w w2):=HB.out.trans (hb2.mono (Nat.le_of_lt (Nat.lt_of_succ_lt hzA)))
   clear hb2 HWD c0 c1
   go_wp2_with fail
   go_ret
   exact⟨by rw[HV.out];rfl,KB.out⟩
  ·rw[decide_eq_false hz]at hneq
   have HV:Hid (check h wide=2):=by show _=_;unfold check;rw[if_pos k1,if_neg hz]
   clear hz k1 hA
   go_wp2_with (first|(refine wpList_load_mid rfl 23 _ rfl w.heap.size 2 rfl A _ HMID.out Tryz.underlying23 rfl (by rw[hAl];exact info16) ?_)|(refine wpList_load_row rfl 23 _ rfl (w.heap.size+1) rfl #[.int .u8 0,.int .u8 0,.int .u8 0,.int .u8 0,.int .u8 0,.int .u8 0,.int .u8 0,.int .u8 0,.int .u8 0,.int .u8 0,.int .u8 0,.int .u8 0,.int .u8 0,.int .u8 0,.int .u8 0,.int .u8 0] 23 _ L2.out Tryz.underlying23 rfl info16 ?_))
   go_ret
   exact⟨by rw[HV.out];rfl,HB.out⟩
 have k1':(h.k==1)=false:=by rw[beq_eq_false_iff_ne];exact k1
 by_cases k2:h.k=2
 ·have k2':(h.k==2)=true:=by rw[k2];rfl
  have HV:Hid (check h wide=if h=fourH (h.a.take 4) then 0 else 2):=by show _=_;unfold check;rw[if_neg k1,if_pos k2]
  obtain⟨q0,q1,q2,q3,hq⟩:∃q0 q1 q2 q3,h.a.take 4=[q0,q1,q2,q3]:=by
   have:(h.a.take 4).length=4:=by rw[List.length_take];omega
   match h.a.take 4,this with
   |[q0,q1,q2,q3],_=>exact⟨q0,q1,q2,q3,rfl⟩
  have HM4:=host_mid4 L1h
  rw[hq]at HM4 HV
  have HFH:Hid (Calls Tryz.prog 102 #[.agg #[.int .u8 (q0:Nat),.int .u8 (q1:Nat),.int .u8 (q2:Nat),.int .u8 (q3:Nat)]] wA.drew fun e w'=>e=.returned (hostV (fourH [q0,q1,q2,q3]))∧Below wA.drew.heap.size wA.drew w'):=fh_any q0 q1 q2 q3 wA.drew
  have hnq:∀W,(binOp .neq 25 (.agg HC) (hostV (fourH [q0,q1,q2,q3]))).run Tryz.prog W=.ok (.bool (!decide (h=fourH [q0,q1,q2,q3]))) W:=fun W=>by rw[HHC.out];exact neqHost h (fourH [q0,q1,q2,q3]) ha rfl W
  have HNQ:Hid (∀W,(binOp .neq 25 (.agg HC) (hostV (fourH [q0,q1,q2,q3]))).run Tryz.prog W=.ok (.bool (!decide (h=fourH [q0,q1,q2,q3]))) W):=hnq
  obtain⟨H4,hH4⟩:∃H4,H4=hostC (fourH [q0,q1,q2,q3]):=⟨_,rfl⟩
  have e4:hostV (fourH [q0,q1,q2,q3])=.agg H4:=by rw[hH4];rfl
  rw[e4]at HFH HNQ
  have HH4:Hid (H4=hostC (fourH [q0,q1,q2,q3])):=hH4
  clear hnq e4 hH4
  obtain⟨b,hb⟩:∃b,b=decide (h=fourH [q0,q1,q2,q3]):=⟨_,rfl⟩
  have HV2:Hid (check h wide=if b=true then 0 else 2):=by
   show _=_
   rw[HV.out,hb]
   by_cases hh:h=fourH [q0,q1,q2,q3]
   ·rw[if_pos hh,if_pos (decide_eq_true hh)]
   ·rw[if_neg hh,if_neg (by rw[decide_eq_false hh];decide)]
  have HBB:Hid (b=decide (h=fourH [q0,q1,q2,q3])):=hb
  clear HNQ
  have HS4:Hid (wA.rangeAt w.heap.size 2 [.int .u8 (q0:Nat),.int .u8 (q1:Nat),.int .u8 (q2:Nat),.int .u8 (q3:Nat)]):=HM4
  clear hb HV HM4 hq hneq hA
  rw[k2]at c0
  go_wp2_with fail
  have hat:=array_at w.heap.size
  refine wp_region_late (fun wx=>Below wA.heap.size wA wx) 7 (by kernel_rfl) (Below.refl _ wA).drew (fun hHeld=>?_)
  refine tk9 0 (some 22) (.agg HC) ?_ (hy:=?hy)
  case hy=>exact fun w' hSw=>exec_load_row 25 _ rfl w.heap.size rfl HC 25 _ (L1.out.below hSw L1.out.lt) Tryz.underlying25 rfl (by rw[hsz];exact infoHo)
  simp only[Act.put,pA,pB,pC]
  refine wpAnyE_tk (i:=1) (d:=some 23) (v:=?_) rfl (by kernel_rfl) (by kernel_rfl) (by kernel_rfl) rfl (fun _ _ _ h=>h) rfl rfl ?hy (by first|assumption|go_simp) ?_
  case hy=>(intro w' hSw;(try dsimp only at hSw);go_simp<;>(first|with_reducible rfl|omega|skip))
  simp only[Act.put,pA,pB,pC]
  refine wpAnyE_tk (i:=2) (d:=some 24) (v:=?_) rfl (by kernel_rfl) (by kernel_rfl) (by kernel_rfl) rfl (fun _ _ _ h=>h) rfl rfl ?hy (by first|assumption|go_simp) ?_
  case hy=>(intro w' hSw;(try dsimp only at hSw);go_simp<;>(first|with_reducible rfl|omega|skip))
  simp only[Act.put,pA,pB,pC]
  refine wpAnyE_tk (i:=3) (d:=some 25) (v:=?_) rfl (by kernel_rfl) (by kernel_rfl) (by kernel_rfl) rfl (fun _ _ _ h=>h) rfl rfl ?hy (by first|assumption|go_simp) ?_
  case hy=>(intro w' hSw;(try dsimp only at hSw);go_simp<;>(first|with_reducible rfl|omega|skip))
  simp only[Act.put,pA,pB,pC]
  refine tk9 4 (some 26) (.agg #[.int .u8 (q0:Nat),.int .u8 (q1:Nat),.int .u8 (q2:Nat),.int .u8 (q3:Nat)]) ?_ (hy:=?hy)
  case hy=>exact fun w' hSw=>exec_load_mid 108 _ rfl w.heap.size 2 rfl [.int .u8 (q0:Nat),.int .u8 (q1:Nat),.int .u8 (q2:Nat),.int .u8 (q3:Nat)] _ (fun j v hv=>(hSw.cell (p:=⟨w.heap.size,2+j,none⟩) (by show w.heap.size<wA.heap.size;omega)).trans (HS4.out j v hv)) Tryz.underlying108 rfl info4
  simp only[Act.put,pA,pB,pC]
  refine on9 5 ?_
  go_simp
  refine Calls.mono HFH.out ?_
  rintro e w6 ⟨rfl,hb6⟩
  have hb6':Below wA.heap.size wA w6:=(Below.refl _ wA).drew.trans hb6
  refine⟨hb6',?_⟩
  have KB:Hid (Below w.heap.size w w6):=HB.out.trans (hb6'.mono (Nat.le_of_lt (Nat.lt_of_succ_lt hzA)))
  refine tk9 6 (some 28) (.bool (!b)) ?_ (hy:=?hy)
  case hy=>
   intro w' _
   rw[HBB.out]
   exact exec_neq_host _ _ _ rfl h (fourH [q0,q1,q2,q3]) (by show Value.agg HC=_;rw[HHC.out];rfl) (by show Value.agg H4=_;rw[HH4.out];rfl) ha rfl
  simp only[Act.put,pA,pB,pC]
  refine wpAnyE_done (by kernel_rfl) ?_ _
  clear hHeld hb6 hb6' HFH HBB
  cases b
  ·go_wp2
   go_ret
   exact⟨by rw[HV2.out];rfl,KB.out⟩
  ·go_wp2
   go_ret
   exact⟨by rw[HV2.out];rfl,KB.out⟩
 have k2':(h.k==2)=false:=by rw[beq_eq_false_iff_ne];exact k2
 by_cases k3:h.k=3
 ·have k3':(h.k==3)=true:=by rw[k3];rfl
  rw[k3]at c0
  by_cases hn0:h.n=[]
  ·have HV:Hid (check h wide=0):=by show _=_;unfold check;rw[if_neg k1,if_neg k2,if_pos k3,if_pos hn0]
   have hne:(h.n==[])=true:=by rw[hn0];rfl
   rw[hn0]at c1
   clear k1 k2 k3 hneq hA
   go_wp2_with fail
   go_ret
   exact⟨by rw[HV.out];rfl,HB.out⟩
  ·have HV:Hid (check h wide=2):=by show _=_;unfold check;rw[if_neg k1,if_neg k2,if_pos k3,if_neg hn0]
   have hne:(h.n==[])=false:=by rw[beq_eq_false_iff_ne];exact hn0
   obtain⟨cc,rr,hcr⟩:∃cc rr,h.n=cc::rr:=by
    cases hh:h.n with
    |nil=>exact absurd hh hn0
    |cons cc rr=>exact⟨cc,rr,rfl⟩
   rw[hcr]at c1
   clear k1 k2 k3 hneq hA hn0 hne hcr
   go_wp2_with fail
   go_ret
   exact⟨by rw[HV.out];rfl,HB.out⟩
 have k3':(h.k==3)=false:=by rw[beq_eq_false_iff_ne];exact k3
 by_cases k4:h.k=4
 ·have k4':(h.k==4)=true:=by rw[k4];rfl
  rw[k4]at c0
  by_cases hz:h.a=z16
  ·rw[decide_eq_true hz]at hneq
   have HV:Hid (check h wide=chTag h.n):=by show _=_;unfold check;rw[if_neg k1,if_neg k2,if_neg k3,if_pos k4,if_pos hz]
   have HCT:Hid (Calls Tryz.prog 103 #[.string ⟨h.n.toArray⟩] wA fun e w'=>e=.returned (.int .i64 (chTag h.n:Nat))∧Below wA.heap.size wA w'):=by
    have:=ct_any ⟨h.n.toArray⟩ wA HTA.out (by rw[←len_list,str_list];exact hn)
    rw[str_list]at this
    exact this
   generalize chTag h.n=ev at HV HCT
   clear hz k1 k2 k3 k4 hA
   go_wp2_with (first|(refine wpList_load_mid rfl 23 _ rfl w.heap.size 2 rfl A _ HMID.out Tryz.underlying23 rfl (by rw[hAl];exact info16) ?_)|(refine wpList_load_row rfl 23 _ rfl (w.heap.size+1) rfl #[.int .u8 0,.int .u8 0,.int .u8 0,.int .u8 0,.int .u8 0,.int .u8 0,.int .u8 0,.int .u8 0,.int .u8 0,.int .u8 0,.int .u8 0,.int .u8 0,.int .u8 0,.int .u8 0,.int .u8 0,.int .u8 0] 23 _ L2.out Tryz.underlying23 rfl info16 ?_))
   refine HCT.out.mono ?_
   rintro e w2 ⟨rfl,hb2⟩
   have KB:Hid (Below w.heap.size w w2):=HB.out.trans (hb2.mono (Nat.le_of_lt (Nat.lt_of_succ_lt hzA)))
   clear hb2 HCT c0 c1
   go_wp2_with fail
   go_ret
   exact⟨by rw[HV.out];rfl,KB.out⟩
  ·rw[decide_eq_false hz]at hneq
   have HV:Hid (check h wide=2):=by show _=_;unfold check;rw[if_neg k1,if_neg k2,if_neg k3,if_pos k4,if_neg hz]
   clear hz k1 k2 k3 k4 hA
   go_wp2_with (first|(refine wpList_load_mid rfl 23 _ rfl w.heap.size 2 rfl A _ HMID.out Tryz.underlying23 rfl (by rw[hAl];exact info16) ?_)|(refine wpList_load_row rfl 23 _ rfl (w.heap.size+1) rfl #[.int .u8 0,.int .u8 0,.int .u8 0,.int .u8 0,.int .u8 0,.int .u8 0,.int .u8 0,.int .u8 0,.int .u8 0,.int .u8 0,.int .u8 0,.int .u8 0,.int .u8 0,.int .u8 0,.int .u8 0,.int .u8 0] 23 _ L2.out Tryz.underlying23 rfl info16 ?_))
   go_ret
   exact⟨by rw[HV.out];rfl,HB.out⟩
 have k4':(h.k==4)=false:=by rw[beq_eq_false_iff_ne];exact k4
 have HV:Hid (check h wide=2):=by show _=_;unfold check;rw[if_neg k1,if_neg k2,if_neg k3,if_neg k4]
 clear k1 k2 k3 k4 hA hneq
 go_wp2_with fail
 go_ret
 exact⟨by rw[HV.out];rfl,HB.out⟩
end Go.Proofs.YtfjpkfhbmldmfaaGreatDoor
