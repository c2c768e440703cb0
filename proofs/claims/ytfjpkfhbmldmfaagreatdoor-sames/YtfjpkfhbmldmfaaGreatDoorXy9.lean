/-
  The contracts of domain.Same and Within.
-/
import Derived.Test.YtfjpkfhbmldmfaaGreatDoorCu8
import Derived.Test.YtfjpkfhbmldmfaaGreatDoorXr9
import Derived.Test.YtfjpkfhbmldmfaaGreatDoorCk8
import Derived.Test.YtfjpkfhbmldmfaaGreatDoorLate5
namespace Go.Proofs.YtfjpkfhbmldmfaaGreatDoor
open Go.RowKit
theorem wpList_load_rowG {P:Program} {ops:Array Oper} {rest:List Oper} {op:Oper} {a:Act} {w:World} {Q:Exit→Act→World→Prop} (hw:Region.wanted op (yielded ops a.tmps)=true) (ty:TypeId) (x:Operand) (ho:op.op=.load ty x)
  (g:Nat) (hx:a.eval x=.pointer (some ⟨g,0,none⟩)) (cs:Array Value) (t:TypeId) (d:TypeDesc) (hc:Lies w g cs t)
  (hu:P.underlying ty=some d) (hd:(match d with| .struct _| .array _ _=>true|_=>false)=true) (hi:(P.info? ty).map (·.size)=some cs.size)
  (h:wpList P ops Q rest (a.put op.dst (.agg cs)) w):wpList P ops Q (op::rest) a w:=by
 unfold wpList
 rw[if_pos hw]
 left
 unfold Oper.wp
 rw[exec_load_row ty x ho g hx cs t d hc hu hd hi]
 exact h
theorem up_sm_fin:∀b c:Fin 256,(upB (UInt8.ofNat b.val)=upB (UInt8.ofNat c.val))=(smB (UInt8.ofNat b.val)=smB (UInt8.ofNat c.val))↔True:=by
 have key:∀b c:Fin 256,decide (upB (UInt8.ofNat b.val)=upB (UInt8.ofNat c.val))=decide (smB (UInt8.ofNat b.val)=smB (UInt8.ofNat c.val)):=by decide+kernel
 intro b c
 have:=key b c
 simp only[iff_true]
 exact propext (by rw[←decide_eq_true_iff (p:=upB (UInt8.ofNat b.val)=upB (UInt8.ofNat c.val)),this,decide_eq_true_iff])
theorem up_sm (b c:UInt8):upB b=upB c↔smB b=smB c:=by
 have:=(up_sm_fin ⟨b.toNat,b.toNat_lt⟩ ⟨c.toNat,c.toNat_lt⟩).2 trivial
 simpa using this
theorem upL_sml:∀x y:List UInt8,upL x=upL y↔sml x=sml y
 |[],[]=>by simp[upL,sml]
 |[],_::_=>by simp[upL,sml]
 |_::_,[]=>by simp[upL,sml]
 |b::x,c::y=>by
  have:=upL_sml x y
  unfold upL sml at*
  simp only[List.map_cons,List.cons.injEq,up_sm b c,this]
theorem sameB_sml (x y:List UInt8):sameB ⟨x.toArray⟩ ⟨y.toArray⟩=decide (sml x=sml y):=by
 unfold sameB
 rw[ByteArray.toList_eq,ByteArray.toList_eq]
 unfold upS
 rw[Bool.eq_iff_iff,beq_iff_eq,decide_eq_true_eq,←upL_sml]
theorem ascii_len (f:List UInt8→List UInt8) (h:Ho) (ha:h.a.length=16):(ascii f h).1.a.length=16:=by
 unfold ascii
 split
 ·split
  ·split
   ·exact ha
   ·rfl
  ·split
   ·exact ha
   ·exact ha
 ·rfl
theorem wpList_eql_host {ops:Array Oper} {rest:List Oper} {op:Oper} {a:Act} {w:World} {Q:Exit→Act→World→Prop} (hgd:op.guard=none) (p q:Operand) (r:TypeId) (ho:op.op=.binOp .eql 25 p q r) (x y:Ho) (hp:a.eval p=hostV x) (hq:a.eval q=hostV y) (hx:x.a.length=16) (hy:y.a.length=16)
  (h:wpList Tryz.prog ops Q rest (a.put op.dst (.bool (decide (x=y)))) w):wpList Tryz.prog ops Q (op::rest) a w:=by
 refine wpList_plain hgd fun K hK=>?_
 have hgu:Tryz.prog.eqGuardType Tryz.prog.depth 25=false:=by kernel_rfl
 have he:=eqlHost x y hx hy w
 have hg:=run_eqGuard_agg (P:=Tryz.prog) w .eql 25 p q (hostC x) (hostC y) hgu
 unfold hostV at*
 unfold Oper.wp execOp
 simp only[ho,hp,hq,Sem.run_bind,hg,Result.andThen_ok,he,Sem.run_pure]
 exact hK _ _ h
set_option maxHeartbeats 4000000 in
set_option maxRecDepth 100000 in
theorem sme_any (a b:Ho) (oka:a.Ok) (okb:b.Ok) (w:World) (hT:Tc w) (hna:a.n.length≤140737488355328) (hnb:b.n.length≤140737488355328):
  Calls Tryz.prog 53 #[hostV a,hostV b] w fun e w'=>e=.returned (.bool (same asciiL a b))∧Below w.heap.size w w':=by
 have ha:=oka.len
 have hb:=okb.len
 have HT:Hid (∀wx,Below w.heap.size w wx→Tc wx):=fun wx hb=>hT.below hb
 have hsa:=hostC_size a ha
 have hsb:=hostC_size b hb
 obtain⟨HA,hHA⟩:∃HA,HA=hostC a:=⟨_,rfl⟩
 obtain⟨HB,hHB⟩:∃HB,HB=hostC b:=⟨_,rfl⟩
 have e1:hostV a=.agg HA:=by rw[hHA];rfl
 have e2:hostV b=.agg HB:=by rw[hHB];rfl
 have HHA:Hid (HA=hostC a):=hHA
 have HHB:Hid (HB=hostC b):=hHB
 rw[←hHA]at hsa
 rw[←hHB]at hsb
 have L1:Hid (Lies ((w.alloc (.cells HA 25)).alloc (.cells HB 25)) w.heap.size HA 25):=(Lies.new w _ _).alloc _
 have L2:Hid (Lies ((w.alloc (.cells HA 25)).alloc (.cells HB 25)) (w.heap.size+1) HB 25):=new_one w _ _ _
 have HBL:Hid (Below w.heap.size w ((w.alloc (.cells HA 25)).alloc (.cells HB 25))):=((Below.refl _ _).alloc (Nat.le_refl _) _).alloc (by simp) _
 have HCA:Hid (∀wx,Below w.heap.size w wx→Calls Tryz.prog 74 #[.agg HA,.bool true] wx fun e w'=>e=.returned (.int .i64 (check a true:Nat))∧Below wx.heap.size wx w'):=fun wx hbx=>by
  rw[←e1]
  exact chk_any a ha true wx (HT.out _ hbx).tb hna
 have HCB:Hid (∀wx,Below w.heap.size w wx→Calls Tryz.prog 74 #[.agg HB,.bool true] wx fun e w'=>e=.returned (.int .i64 (check b true:Nat))∧Below wx.heap.size wx w'):=fun wx hbx=>by
  rw[←e2]
  exact chk_any b hb true wx (HT.out _ hbx).tb hnb
 have HAA:Hid (∀wx,Below w.heap.size w wx→Calls Tryz.prog 81 #[.agg HA] wx fun e w'=>e=.returned (.tuple #[hostV (ascii asciiL a).1,.int .i64 ((ascii asciiL a).2:Nat)])∧Below wx.heap.size wx w'):=fun wx hbx=>by
  rw[←e1]
  exact asc_any a oka wx (HT.out _ hbx) hna
 have HAB:Hid (∀wx,Below w.heap.size w wx→Calls Tryz.prog 81 #[.agg HB] wx fun e w'=>e=.returned (.tuple #[hostV (ascii asciiL b).1,.int .i64 ((ascii asciiL b).2:Nat)])∧Below wx.heap.size wx w'):=fun wx hbx=>by
  rw[←e2]
  exact asc_any b okb wx (HT.out _ hbx) hnb
 rw[e1,e2]
 clear hT hHA hHB e1 e2
 go_enter Tryz.func53,Tryz.ntmps53
 go_upto_region 1 with fail
 generalize (w.alloc (.cells HA 25)).alloc (.cells HB 25)=wA at L1 L2 HBL ⊢
 have hzA:=L2.out.lt
 have L1h:Lies wA w.heap.size (hostC a) 25:=by rw[←HHA.out];exact L1.out
 have L2h:Lies wA (w.heap.size+1) (hostC b) 25:=by rw[←HHB.out];exact L2.out
 obtain⟨c0,c1⟩:=host_cells L1h
 obtain⟨d0,d1⟩:=host_cells L2h
 by_cases hk:a.k=b.k
 case neg=>
  have hk':(a.k==b.k)=false:=by rw[beq_eq_false_iff_ne];exact hk
  have hk2:(a.k != b.k)=true:=by rw[bne,hk'];rfl
  have HV:Hid (same asciiL a b=false):=by show _=_;unfold same;rw[decide_eq_false hk];rfl
  clear hk
  go_wp2_with fail
  go_ret
  exact⟨by rw[HV.out];rfl,HBL.out⟩
 have hk':(a.k==b.k)=true:=by rw[beq_iff_eq];exact hk
 rw[←hk]at d0
 have hkk:(a.k==a.k)=true:=by rw[beq_iff_eq]
 by_cases hca:check a true=0
 case neg=>
  have hca':((check a true:Int)==0)=false:=by rw[beq_eq_false_iff_ne];omega
  have HV:Hid (same asciiL a b=false):=by show _=_;unfold same;rw[decide_eq_false hca];simp
  have hca2:((check a true:Int) != 0)=true:=by rw[bne,hca'];rfl
  generalize check a true=ca at HCA hca' hca2
  clear hca hk
  go_wp2_with (first|(refine wpList_load_rowG (by rfl) 25 _ rfl w.heap.size rfl HA 25 _ L1.out Tryz.underlying25 rfl (by rw[hsa];exact infoHo) ?_)|(refine wpList_load_rowG (by rfl) 25 _ rfl (w.heap.size+1) rfl HB 25 _ L2.out Tryz.underlying25 rfl (by rw[hsb];exact infoHo) ?_))
  refine(HCA.out _ HBL.out).mono ?_
  rintro e w1 ⟨rfl,hb1⟩
  have KB:Hid (Below w.heap.size w w1):=HBL.out.trans (hb1.mono (Nat.le_of_lt (Nat.lt_of_succ_lt hzA)))
  clear hb1
  go_wp2_with fail
  go_ret
  exact⟨by rw[HV.out];rfl,KB.out⟩
 by_cases hcb:check b true=0
 case neg=>
  have hcb':((check b true:Int)==0)=false:=by rw[beq_eq_false_iff_ne];omega
  have HV:Hid (same asciiL a b=false):=by show _=_;unfold same;rw[decide_eq_false hcb];simp
  rw[hca]at HCA
  have hcb2:((check b true:Int) != 0)=true:=by rw[bne,hcb'];rfl
  generalize check b true=cb at HCB hcb' hcb2
  clear hca hk hcb
  go_wp2_with (first|(refine wpList_load_rowG (by rfl) 25 _ rfl w.heap.size rfl HA 25 _ L1.out Tryz.underlying25 rfl (by rw[hsa];exact infoHo) ?_)|(refine wpList_load_rowG (by rfl) 25 _ rfl (w.heap.size+1) rfl HB 25 _ L2.out Tryz.underlying25 rfl (by rw[hsb];exact infoHo) ?_))
  refine(HCA.out _ HBL.out).mono ?_
  rintro e w1 ⟨rfl,hb1⟩
  have K2:Hid (Lies w1 (w.heap.size+1) HB 25):=L2.out.below hb1 L2.out.lt
  have KB:Hid (Below w.heap.size w w1):=HBL.out.trans (hb1.mono (Nat.le_of_lt (Nat.lt_of_succ_lt hzA)))
  clear hb1
  go_wp2_with (first|(refine wpList_load_rowG (by rfl) 25 _ rfl w.heap.size rfl HA 25 _ L1.out Tryz.underlying25 rfl (by rw[hsa];exact infoHo) ?_)|(refine wpList_load_rowG (by rfl) 25 _ rfl (w.heap.size+1) rfl HB 25 _ K2.out Tryz.underlying25 rfl (by rw[hsb];exact infoHo) ?_))
  refine(HCB.out _ KB.out).mono ?_
  rintro e w2 ⟨rfl,hb2⟩
  have KB2:Hid (Below w.heap.size w w2):=KB.out.trans (hb2.mono KB.out.size)
  clear hb2
  go_wp2_with fail
  go_ret
  exact⟨by rw[HV.out];rfl,KB2.out⟩
 rw[hca]at HCA
 rw[hcb]at HCB
 have HDD:Hid (check a true=0∧check b true=0∧a.k=b.k):=⟨hca,hcb,hk⟩
 clear hca hcb hk
 go_wp2_with (first|(refine wpList_load_rowG (by rfl) 25 _ rfl w.heap.size rfl HA 25 _ L1.out Tryz.underlying25 rfl (by rw[hsa];exact infoHo) ?_)|(refine wpList_load_rowG (by rfl) 25 _ rfl (w.heap.size+1) rfl HB 25 _ L2.out Tryz.underlying25 rfl (by rw[hsb];exact infoHo) ?_))
 refine(HCA.out _ HBL.out).mono ?_
 rintro e w1 ⟨rfl,hb1⟩
 have K2:Hid (Lies w1 (w.heap.size+1) HB 25):=L2.out.below hb1 L2.out.lt
 have K1:Hid (Lies w1 w.heap.size HA 25):=L1.out.below hb1 L1.out.lt
 have KB:Hid (Below w.heap.size w w1):=HBL.out.trans (hb1.mono (Nat.le_of_lt (Nat.lt_of_succ_lt hzA)))
 clear hb1 HCA L1 L2 HBL
 go_wp2_with (first|(refine wpList_load_rowG (by rfl) 25 _ rfl w.heap.size rfl HA 25 _ K1.out Tryz.underlying25 rfl (by rw[hsa];exact infoHo) ?_)|(refine wpList_load_rowG (by rfl) 25 _ rfl (w.heap.size+1) rfl HB 25 _ K2.out Tryz.underlying25 rfl (by rw[hsb];exact infoHo) ?_))
 refine(HCB.out _ KB.out).mono ?_
 rintro e w2 ⟨rfl,hb2⟩
 have M1:Hid (Lies w2 w.heap.size HA 25):=K1.out.below hb2 K1.out.lt
 have M2:Hid (Lies w2 (w.heap.size+1) HB 25):=K2.out.below hb2 K2.out.lt
 have MB:Hid (Below w.heap.size w w2):=KB.out.trans (hb2.mono KB.out.size)
 clear hb2 HCB K1 K2 KB c0 c1 d0 d1 L1h L2h hzA
 have hz2:=M2.out.lt
 have HV:Hid (same asciiL a b=if (ascii asciiL a).2=0∧(ascii asciiL b).2=0 then decide ((ascii asciiL a).1=(ascii asciiL b).1) else decide (sml a.n=sml b.n)):=by
  show _=_
  unfold same
  rw[decide_eq_true HDD.out.1,decide_eq_true HDD.out.2.1,decide_eq_true HDD.out.2.2]
  rfl
 have hal:=ascii_len asciiL a ha
 have hbl:=ascii_len asciiL b hb
 generalize ascii asciiL a=ra at HAA HV hal
 generalize ascii asciiL b=rb at HAB HV hbl
 go_wp2_with (refine wpList_load_row rfl 25 _ rfl w.heap.size rfl HA 25 _ M1.out Tryz.underlying25 rfl (by rw[hsa];exact infoHo) ?_)
 refine(HAA.out _ MB.out).mono ?_
 rintro e w3 ⟨rfl,hb3⟩
 have N1:Hid (Lies (w3.alloc (.cells #[.int .i64 0,.string ⟨#[]⟩,.int .u8 0,.int .u8 0,.int .u8 0,.int .u8 0,.int .u8 0,.int .u8 0,.int .u8 0,.int .u8 0,.int .u8 0,.int .u8 0,.int .u8 0,.int .u8 0,.int .u8 0,.int .u8 0,.int .u8 0,.int .u8 0] 25)) w.heap.size HA 25):=(M1.out.below hb3 M1.out.lt).alloc _
 have N2:Hid (Lies (w3.alloc (.cells #[.int .i64 0,.string ⟨#[]⟩,.int .u8 0,.int .u8 0,.int .u8 0,.int .u8 0,.int .u8 0,.int .u8 0,.int .u8 0,.int .u8 0,.int .u8 0,.int .u8 0,.int .u8 0,.int .u8 0,.int .u8 0,.int .u8 0,.int .u8 0,.int .u8 0] 25)) (w.heap.size+1) HB 25):=(M2.out.below hb3 M2.out.lt).alloc _
 have N3:Hid (Lies (w3.alloc (.cells #[.int .i64 0,.string ⟨#[]⟩,.int .u8 0,.int .u8 0,.int .u8 0,.int .u8 0,.int .u8 0,.int .u8 0,.int .u8 0,.int .u8 0,.int .u8 0,.int .u8 0,.int .u8 0,.int .u8 0,.int .u8 0,.int .u8 0,.int .u8 0,.int .u8 0] 25)) w3.heap.size #[.int .i64 0,.string ⟨#[]⟩,.int .u8 0,.int .u8 0,.int .u8 0,.int .u8 0,.int .u8 0,.int .u8 0,.int .u8 0,.int .u8 0,.int .u8 0,.int .u8 0,.int .u8 0,.int .u8 0,.int .u8 0,.int .u8 0,.int .u8 0,.int .u8 0] 25):=Lies.new w3 _ _
 have NB:Hid (Below w.heap.size w (w3.alloc (.cells #[.int .i64 0,.string ⟨#[]⟩,.int .u8 0,.int .u8 0,.int .u8 0,.int .u8 0,.int .u8 0,.int .u8 0,.int .u8 0,.int .u8 0,.int .u8 0,.int .u8 0,.int .u8 0,.int .u8 0,.int .u8 0,.int .u8 0,.int .u8 0,.int .u8 0] 25))):=(MB.out.trans (hb3.mono MB.out.size)).alloc (Nat.le_trans MB.out.size hb3.size) _
 have HZ3:Hid (w.heap.size+1<w3.heap.size):=Nat.lt_of_lt_of_le M2.out.lt hb3.size
 have hza:=hostC_size ra.1 hal
 have hoa:=hostC_one ra.1
 obtain⟨XA,hXA⟩:∃X,X=hostC ra.1:=⟨_,rfl⟩
 have ea:hostV ra.1=.agg XA:=by rw[hXA];rfl
 have HXA:Hid (XA=hostC ra.1):=hXA
 rw[←hXA]at hza hoa
 rw[ea]
 clear hb3 M1 M2 MB HAA hXA ea hz2
 have P1:Hid (Lies ((w3.alloc (.cells #[.int .i64 0,.string ⟨#[]⟩,.int .u8 0,.int .u8 0,.int .u8 0,.int .u8 0,.int .u8 0,.int .u8 0,.int .u8 0,.int .u8 0,.int .u8 0,.int .u8 0,.int .u8 0,.int .u8 0,.int .u8 0,.int .u8 0,.int .u8 0,.int .u8 0] 25)).setRow w3.heap.size XA) w.heap.size HA 25):=N1.out.row_other (by have:=HZ3.out;omega) _
 have P2:Hid (Lies ((w3.alloc (.cells #[.int .i64 0,.string ⟨#[]⟩,.int .u8 0,.int .u8 0,.int .u8 0,.int .u8 0,.int .u8 0,.int .u8 0,.int .u8 0,.int .u8 0,.int .u8 0,.int .u8 0,.int .u8 0,.int .u8 0,.int .u8 0,.int .u8 0,.int .u8 0,.int .u8 0] 25)).setRow w3.heap.size XA) (w.heap.size+1) HB 25):=N2.out.row_other (by have:=HZ3.out;omega) _
 have P3:Hid (Lies ((w3.alloc (.cells #[.int .i64 0,.string ⟨#[]⟩,.int .u8 0,.int .u8 0,.int .u8 0,.int .u8 0,.int .u8 0,.int .u8 0,.int .u8 0,.int .u8 0,.int .u8 0,.int .u8 0,.int .u8 0,.int .u8 0,.int .u8 0,.int .u8 0,.int .u8 0,.int .u8 0] 25)).setRow w3.heap.size XA) w3.heap.size XA 25):=N3.out.row _
 have PB:Hid (Below w.heap.size w ((w3.alloc (.cells #[.int .i64 0,.string ⟨#[]⟩,.int .u8 0,.int .u8 0,.int .u8 0,.int .u8 0,.int .u8 0,.int .u8 0,.int .u8 0,.int .u8 0,.int .u8 0,.int .u8 0,.int .u8 0,.int .u8 0,.int .u8 0,.int .u8 0,.int .u8 0,.int .u8 0] 25)).setRow w3.heap.size XA)):=below_row NB.out (by have:=HZ3.out;omega) _
 go_upto_region 4 with(refine wpList_store_row rfl 25 _ _ rfl w3.heap.size rfl _ XA rfl 25 N3.out (by rw[hza];exact infoHo) (by rw[hza];rfl) hoa rfl ?_)
 generalize (w3.alloc (.cells #[.int .i64 0,.string ⟨#[]⟩,.int .u8 0,.int .u8 0,.int .u8 0,.int .u8 0,.int .u8 0,.int .u8 0,.int .u8 0,.int .u8 0,.int .u8 0,.int .u8 0,.int .u8 0,.int .u8 0,.int .u8 0,.int .u8 0,.int .u8 0,.int .u8 0] 25)).setRow w3.heap.size XA=w4 at P1 P2 P3 PB ⊢
 clear N1 N2 N3 NB
 have hz4:=P3.out.lt
 have hz3:=HZ3.out
 go_wp2_with (refine wpList_load_row rfl 25 _ rfl (w.heap.size+1) rfl HB 25 _ P2.out Tryz.underlying25 rfl (by rw[hsb];exact infoHo) ?_)
 refine(HAB.out _ PB.out).mono ?_
 rintro e w5 ⟨rfl,hb5⟩
 have Q1:Hid (Lies (w5.alloc (.cells #[.int .i64 0,.string ⟨#[]⟩,.int .u8 0,.int .u8 0,.int .u8 0,.int .u8 0,.int .u8 0,.int .u8 0,.int .u8 0,.int .u8 0,.int .u8 0,.int .u8 0,.int .u8 0,.int .u8 0,.int .u8 0,.int .u8 0,.int .u8 0,.int .u8 0] 25)) w.heap.size HA 25):=(P1.out.below hb5 P1.out.lt).alloc _
 have Q2:Hid (Lies (w5.alloc (.cells #[.int .i64 0,.string ⟨#[]⟩,.int .u8 0,.int .u8 0,.int .u8 0,.int .u8 0,.int .u8 0,.int .u8 0,.int .u8 0,.int .u8 0,.int .u8 0,.int .u8 0,.int .u8 0,.int .u8 0,.int .u8 0,.int .u8 0,.int .u8 0,.int .u8 0] 25)) (w.heap.size+1) HB 25):=(P2.out.below hb5 P2.out.lt).alloc _
 have Q3:Hid (Lies (w5.alloc (.cells #[.int .i64 0,.string ⟨#[]⟩,.int .u8 0,.int .u8 0,.int .u8 0,.int .u8 0,.int .u8 0,.int .u8 0,.int .u8 0,.int .u8 0,.int .u8 0,.int .u8 0,.int .u8 0,.int .u8 0,.int .u8 0,.int .u8 0,.int .u8 0,.int .u8 0] 25)) w3.heap.size XA 25):=(P3.out.below hb5 P3.out.lt).alloc _
 have Q4:Hid (Lies (w5.alloc (.cells #[.int .i64 0,.string ⟨#[]⟩,.int .u8 0,.int .u8 0,.int .u8 0,.int .u8 0,.int .u8 0,.int .u8 0,.int .u8 0,.int .u8 0,.int .u8 0,.int .u8 0,.int .u8 0,.int .u8 0,.int .u8 0,.int .u8 0,.int .u8 0,.int .u8 0] 25)) w5.heap.size #[.int .i64 0,.string ⟨#[]⟩,.int .u8 0,.int .u8 0,.int .u8 0,.int .u8 0,.int .u8 0,.int .u8 0,.int .u8 0,.int .u8 0,.int .u8 0,.int .u8 0,.int .u8 0,.int .u8 0,.int .u8 0,.int .u8 0,.int .u8 0,.int .u8 0] 25):=Lies.new w5 _ _
 have QB:Hid (Below w.heap.size w (w5.alloc (.cells #[.int .i64 0,.string ⟨#[]⟩,.int .u8 0,.int .u8 0,.int .u8 0,.int .u8 0,.int .u8 0,.int .u8 0,.int .u8 0,.int .u8 0,.int .u8 0,.int .u8 0,.int .u8 0,.int .u8 0,.int .u8 0,.int .u8 0,.int .u8 0,.int .u8 0] 25))):=(PB.out.trans (hb5.mono PB.out.size)).alloc (Nat.le_trans PB.out.size hb5.size) _
 have HZ5:Hid (w3.heap.size<w5.heap.size):=Nat.lt_of_lt_of_le P3.out.lt hb5.size
 have hzb:=hostC_size rb.1 hbl
 have hob:=hostC_one rb.1
 obtain⟨XB,hXB⟩:∃X,X=hostC rb.1:=⟨_,rfl⟩
 have eb:hostV rb.1=.agg XB:=by rw[hXB];rfl
 have HXB:Hid (XB=hostC rb.1):=hXB
 rw[←hXB]at hzb hob
 rw[eb]
 clear hb5 P1 P2 P3 PB HAB hXB eb hz4
 have hz5:=HZ5.out
 have R1:Hid (Lies ((w5.alloc (.cells #[.int .i64 0,.string ⟨#[]⟩,.int .u8 0,.int .u8 0,.int .u8 0,.int .u8 0,.int .u8 0,.int .u8 0,.int .u8 0,.int .u8 0,.int .u8 0,.int .u8 0,.int .u8 0,.int .u8 0,.int .u8 0,.int .u8 0,.int .u8 0,.int .u8 0] 25)).setRow w5.heap.size XB) w.heap.size HA 25):=Q1.out.row_other (by omega) _
 have R2:Hid (Lies ((w5.alloc (.cells #[.int .i64 0,.string ⟨#[]⟩,.int .u8 0,.int .u8 0,.int .u8 0,.int .u8 0,.int .u8 0,.int .u8 0,.int .u8 0,.int .u8 0,.int .u8 0,.int .u8 0,.int .u8 0,.int .u8 0,.int .u8 0,.int .u8 0,.int .u8 0,.int .u8 0] 25)).setRow w5.heap.size XB) (w.heap.size+1) HB 25):=Q2.out.row_other (by omega) _
 have R3:Hid (Lies ((w5.alloc (.cells #[.int .i64 0,.string ⟨#[]⟩,.int .u8 0,.int .u8 0,.int .u8 0,.int .u8 0,.int .u8 0,.int .u8 0,.int .u8 0,.int .u8 0,.int .u8 0,.int .u8 0,.int .u8 0,.int .u8 0,.int .u8 0,.int .u8 0,.int .u8 0,.int .u8 0] 25)).setRow w5.heap.size XB) w3.heap.size XA 25):=Q3.out.row_other (by omega) _
 have R4:Hid (Lies ((w5.alloc (.cells #[.int .i64 0,.string ⟨#[]⟩,.int .u8 0,.int .u8 0,.int .u8 0,.int .u8 0,.int .u8 0,.int .u8 0,.int .u8 0,.int .u8 0,.int .u8 0,.int .u8 0,.int .u8 0,.int .u8 0,.int .u8 0,.int .u8 0,.int .u8 0,.int .u8 0] 25)).setRow w5.heap.size XB) w5.heap.size XB 25):=Q4.out.row _
 have RB:Hid (Below w.heap.size w ((w5.alloc (.cells #[.int .i64 0,.string ⟨#[]⟩,.int .u8 0,.int .u8 0,.int .u8 0,.int .u8 0,.int .u8 0,.int .u8 0,.int .u8 0,.int .u8 0,.int .u8 0,.int .u8 0,.int .u8 0,.int .u8 0,.int .u8 0,.int .u8 0,.int .u8 0,.int .u8 0] 25)).setRow w5.heap.size XB)):=below_row QB.out (by omega) _
 go_upto_region 5 with(refine wpList_store_row rfl 25 _ _ rfl w5.heap.size rfl _ XB rfl 25 Q4.out (by rw[hzb];exact infoHo) (by rw[hzb];rfl) hob rfl ?_)
 generalize (w5.alloc (.cells #[.int .i64 0,.string ⟨#[]⟩,.int .u8 0,.int .u8 0,.int .u8 0,.int .u8 0,.int .u8 0,.int .u8 0,.int .u8 0,.int .u8 0,.int .u8 0,.int .u8 0,.int .u8 0,.int .u8 0,.int .u8 0,.int .u8 0,.int .u8 0,.int .u8 0] 25)).setRow w5.heap.size XB=w6 at R1 R2 R3 R4 RB ⊢
 clear Q1 Q2 Q3 Q4 QB
 have hz6:=R4.out.lt
 have R1h:Lies w6 w.heap.size (hostC a) 25:=by rw[←HHA.out];exact R1.out
 have R2h:Lies w6 (w.heap.size+1) (hostC b) 25:=by rw[←HHB.out];exact R2.out
 obtain⟨_,c1⟩:=host_cells R1h
 obtain⟨_,d1⟩:=host_cells R2h
 by_cases hboth:ra.2=0∧rb.2=0
 ·have h1':((ra.2:Int)==0)=true:=by rw[beq_iff_eq];omega
  have h2':((rb.2:Int)==0)=true:=by rw[beq_iff_eq];omega
  have h1b:((ra.2:Int) != 0)=false:=by rw[bne,h1'];rfl
  have h2b:((rb.2:Int) != 0)=false:=by rw[bne,h2'];rfl
  have HVV:Hid (same asciiL a b=decide (ra.1=rb.1)):=by show _=_;rw[HV.out,if_pos hboth]
  have HEQ:Hid (∀W,(binOp .eql 25 (.agg XA) (.agg XB)).run Tryz.prog W=.ok (.bool (decide (ra.1=rb.1))) W):=fun W=>by rw[HXA.out,HXB.out];exact eqlHost ra.1 rb.1 hal hbl W
  clear hboth HV R1h R2h c1 d1
  go_wp2_with (first|(refine wpList_load_row rfl 25 _ rfl w3.heap.size rfl XA 25 _ R3.out Tryz.underlying25 rfl (by rw[hza];exact infoHo) ?_)|(refine wpList_load_row rfl 25 _ rfl w5.heap.size rfl XB 25 _ R4.out Tryz.underlying25 rfl (by rw[hzb];exact infoHo) ?_)|(refine wpList_eql_host rfl _ _ _ rfl ra.1 rb.1 (by show Value.agg XA=_;rw[HXA.out];rfl) (by show Value.agg XB=_;rw[HXB.out];rfl) hal hbl ?_))
  go_ret
  exact⟨by rw[HVV.out];rfl,RB.out⟩
 ·have HVV:Hid (same asciiL a b=decide (sml a.n=sml b.n)):=by show _=_;rw[HV.out,if_neg hboth]
  have HSA:Hid (Calls Tryz.prog 62 #[.string ⟨a.n.toArray⟩,.string ⟨b.n.toArray⟩] w6 fun e w'=>e=.returned (.bool (decide (sml a.n=sml b.n)))∧Below w6.heap.size w6 w'):=by
   have:=same_any ⟨a.n.toArray⟩ ⟨b.n.toArray⟩ w6 (by show a.n.toArray.size≤_;rw[List.size_toArray];unfold maxLen;omega) (by show b.n.toArray.size≤_;rw[List.size_toArray];unfold maxLen;omega)
   rw[sameB_sml]at this
   exact this
  generalize decide (sml a.n=sml b.n)=res at HVV HSA
  by_cases h1:ra.2=0
  ·have h1':((ra.2:Int)==0)=true:=by rw[beq_iff_eq];omega
   have h2':((rb.2:Int)==0)=false:=by rw[beq_eq_false_iff_ne];omega
   have h1b:((ra.2:Int) != 0)=false:=by rw[bne,h1'];rfl
   have h2b:((rb.2:Int) != 0)=true:=by rw[bne,h2'];rfl
   clear hboth HV R1h R2h h1
   go_wp2_with fail
   refine HSA.out.mono ?_
   rintro e w7 ⟨rfl,hb7⟩
   have SB:Hid (Below w.heap.size w w7):=RB.out.trans (hb7.mono RB.out.size)
   clear hb7
   go_wp2_with fail
   go_ret
   exact⟨by rw[HVV.out];rfl,SB.out⟩
  ·have h1':((ra.2:Int)==0)=false:=by rw[beq_eq_false_iff_ne];omega
   have h1b:((ra.2:Int) != 0)=true:=by rw[bne,h1'];rfl
   clear hboth HV R1h R2h h1
   go_wp2_with fail
   refine HSA.out.mono ?_
   rintro e w7 ⟨rfl,hb7⟩
   have SB:Hid (Below w.heap.size w w7):=RB.out.trans (hb7.mono RB.out.size)
   clear hb7
   go_wp2_with fail
   go_ret
   exact⟨by rw[HVV.out];rfl,SB.out⟩
open Go.RowKit
open Go.RowKit
end Go.Proofs.YtfjpkfhbmldmfaaGreatDoor
