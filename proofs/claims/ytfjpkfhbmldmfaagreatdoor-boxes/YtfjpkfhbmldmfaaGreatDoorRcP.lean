/-
  Addresses and hosts compared; loads of whole rows.
-/
import Derived.Test.YtfjpkfhbmldmfaaGreatDoorPa8
import Derived.ChangeKeysEq
import Derived.Deep.MidRow
import Derived.Test.YtfjpkfhbmldmfaaGreatDoorWd8
namespace Go.Proofs.YtfjpkfhbmldmfaaGreatDoor
open Go.RowKit
theorem info5e:∃i,Tryz.prog.info? 5=some i∧i.size=1:=by
 have h5:(Tryz.prog.info? 5).map (·.size)=some 1:=by kernel_rfl
 cases hq:Tryz.prog.info? 5 with
 |none=>simp[hq]at h5
 |some i=>exact⟨i,rfl,by simpa [hq] using h5⟩
theorem cells5:Tryz.prog.cellsOf 5=1:=by kernel_rfl
theorem part_byte (l:List Nat) (k:Nat) (hk:k<l.length) (w:World):(part 5 (bytesV l) k).run Tryz.prog w=.ok (.int .u8 (l[k]:Nat)) w:=by
 simp[part,isAgg,run_underlying Tryz.underlying5,bytesV_at l k hk]
theorem eqItems_bytes (d:Nat) (a b:List Nat):∀(is:List Nat) (_:∀i∈is,i<a.length∧i<b.length) (w:World),(Op.eqItems (d+1) 5 1 (bytesV a) (bytesV b) is).run Tryz.prog w=.ok (is.all fun i=>decide (a.getD i 0=b.getD i 0)) w
 |[],_,w=>by simp[Op.eqItems]
 |i::is,h,w=>by
  obtain⟨h1,h2⟩:=h i (by simp)
  have ih:=eqItems_bytes d a b is (fun j hj=>h j (by simp[hj])) w
  have e1:a.getD i 0=a[i]:=by rw[List.getD_eq_getElem?_getD,List.getElem?_eq_getElem h1];rfl
  have e2:b.getD i 0=b[i]:=by rw[List.getD_eq_getElem?_getD,List.getElem?_eq_getElem h2];rfl
  have e3:((a[i]:Int)==(b[i]:Int))=decide (a[i]=b[i]):=by
   rw[Bool.eq_iff_iff,beq_iff_eq,decide_eq_true_eq]
   omega
  simp only[Op.eqItems,Sem.run_bind,Nat.mul_one,part_byte a i h1,part_byte b i h2,Result.andThen_ok,run_equalIn_int (P:=Tryz.prog) w d 5 .u8 .u8 _ _ Tryz.underlying5,e3,List.all_cons,e1,e2]
  by_cases hab:a[i]=b[i]
  ·rw[decide_eq_true hab]
   simpa using ih
  ·rw[decide_eq_false hab]
   simp
theorem eq_list (a b:List Nat) (n:Nat) (ha:a.length=n) (hb:b.length=n):((List.range n).all fun i=>decide (a.getD i 0=b.getD i 0))=decide (a=b):=by
 rw[Bool.eq_iff_iff,List.all_eq_true,decide_eq_true_eq]
 constructor
 ·intro h
  apply List.ext_getElem (by rw[ha,hb])
  intro i h1 h2
  have:=h i (List.mem_range.2 (by omega))
  rw[decide_eq_true_eq,List.getD_eq_getElem?_getD,List.getD_eq_getElem?_getD,List.getElem?_eq_getElem h1,List.getElem?_eq_getElem h2]at this
  exact this
 ·intro h i _
  rw[h]
  simp
set_option maxRecDepth 100000 in
theorem eq16 (d:Nat) (a b:List Nat) (ha:a.length=16) (hb:b.length=16) (w:World):(Op.equalIn (d+2) 23 (.agg (bytesV a)) (.agg (bytesV b))).run Tryz.prog w=.ok (decide (a=b)) w:=by
 obtain⟨i,hi,_⟩:=info5e
 rw[run_equalIn_array w (d+1) _ _ Tryz.underlying23 hi,cells5,eqItems_bytes d a b _ (fun i hi=>by rw[List.mem_range]at hi;omega) w,eq_list a b 16 ha hb]
theorem neq16 (a b:List Nat) (ha:a.length=16) (hb:b.length=16) (w:World):(binOp .neq 23 (.agg (bytesV a)) (.agg (bytesV b))).run Tryz.prog w=.ok (.bool (!decide (a=b))) w:=by
 rw[run_neq_struct,eq16 9998 a b ha hb]
 rfl
theorem info16':∃i,Tryz.prog.info? 23=some i∧i.size=16:=by
 have h5:=info16
 cases hq:Tryz.prog.info? 23 with
 |none=>simp[hq]at h5
 |some i=>exact⟨i,rfl,by simpa [hq] using h5⟩
theorem part_addr (h:Ho) (ha:h.a.length=16) (w:World):(part 23 (hostC h) 2).run Tryz.prog w=.ok (.agg (bytesV h.a)) w:=by
 obtain⟨i,hi,hs⟩:=info16'
 have e:(hostC h).extract 2 18=bytesV h.a:=by
  apply Array.ext'
  unfold hostC bytesV
  rw[Array.toList_extract]
  simp
  rw[List.take_of_length_le (by rw[List.length_map,ha];exact Nat.le_refl _)]
 have hz:=hostC_size h ha
 simp[part,isAgg,run_underlying Tryz.underlying23,sizeOf,typeInfo,hi,hs,e,hz]
theorem part_kind (h:Ho) (w:World):(part 3 (hostC h) 0).run Tryz.prog w=.ok (.int .i64 h.k) w:=by
 simp[part,isAgg,run_underlying Tryz.underlying3,hostC]
theorem part_text (h:Ho) (w:World):(part 9 (hostC h) 1).run Tryz.prog w=.ok (.string ⟨h.n.toArray⟩) w:=by
 simp[part,isAgg,run_underlying Tryz.underlying9,hostC]
theorem list_beq (x y:List UInt8):((⟨x.toArray⟩:ByteArray).toList==(⟨y.toArray⟩:ByteArray).toList)=decide (x=y):=by
 rw[ByteArray.toList_eq,ByteArray.toList_eq,Bool.eq_iff_iff]
 simp
theorem ho_eq (x y:Ho):decide (x=y)=(decide (x.k=y.k)&&decide (x.n=y.n)&&decide (x.a=y.a)):=by
 rw[Bool.eq_iff_iff]
 simp only[Bool.and_eq_true,decide_eq_true_eq]
 constructor
 ·intro h
  rw[h]
  simp
 ·rintro ⟨⟨h1,h2⟩,h3⟩
  cases x
  cases y
  simp_all
set_option maxRecDepth 100000 in
theorem eqHost (d:Nat) (x y:Ho) (hx:x.a.length=16) (hy:y.a.length=16) (w:World):(Op.equalIn (d+3) 25 (hostV x) (hostV y)).run Tryz.prog w=.ok (decide (x=y)) w:=by
 have hf:Tryz.prog.underlying 25=some (.struct (Tryz.prog.fieldsOf 25)):=by simp[Program.fieldsOf,Tryz.underlying25]
 have e3:((x.k:Int)==y.k)=decide (x.k=y.k):=by rw[Bool.eq_iff_iff,beq_iff_eq,decide_eq_true_eq]
 unfold hostV
 rw[run_equalIn_struct w (d+2) 25 _ _ hf (by kernel_rfl),ho_eq]
 simp only[Program.fieldsOf,Tryz.underlying25]
 simp only[Op.eqFields,Sem.run_bind,Sem.run_ite,part_kind,part_text,part_addr x hx,part_addr y hy,Result.andThen_ok,run_equalIn_int (P:=Tryz.prog) w (d+1) 3 .i64 .i64 _ _ Tryz.underlying3,run_equalIn_string (P:=Tryz.prog) w (d+1) 9 _ _ Tryz.underlying9,eq16 d x.a y.a hx hy,e3,list_beq]
 by_cases h1:x.k=y.k<;>by_cases h2:x.n=y.n<;>by_cases h3:x.a=y.a<;>simp[h1,h2,h3]
theorem neqHost (x y:Ho) (hx:x.a.length=16) (hy:y.a.length=16) (w:World):(binOp .neq 25 (hostV x) (hostV y)).run Tryz.prog w=.ok (.bool (!decide (x=y))) w:=by
 have:=eqHost 9997 x y hx hy w
 unfold hostV at*
 rw[run_neq_struct,this]
 rfl
theorem exec_load_row {P:Program} {op:Oper} {a:Act} {w:World} (ty:TypeId) (x:Operand) (ho:op.op=.load ty x) (g:Nat) (hx:a.eval x=.pointer (some ⟨g,0,none⟩)) (cs:Array Value) (t:TypeId) (d:TypeDesc) (hc:Lies w g cs t)
  (hu:P.underlying ty=some d) (hd:(match d with| .struct _| .array _ _=>true|_=>false)=true) (hi:(P.info? ty).map (·.size)=some cs.size):(execOp a.eval op).run P w=.ok (.value (.agg cs)) w:=by
 unfold execOp
 simp only[ho,hx,Instr.loadAt,Instr.sureAddr,Sem.run_bind,Sem.run_pure,Result.andThen_ok,run_loadVar_row w g t ty cs (0,0) d hc hu hd hi]
theorem exec_load_mid {P:Program} {op:Oper} {a:Act} {w:World} (ty:TypeId) (x:Operand) (ho:op.op=.load ty x) (g o:Nat) (hx:a.eval x=.pointer (some ⟨g,o,none⟩)) (cs:List Value) (d:TypeDesc) (hc:w.rangeAt g o cs)
  (hu:P.underlying ty=some d) (hd:d.isRow=true) (hi:(P.info? ty).map (·.size)=some cs.length):(execOp a.eval op).run P w=.ok (.value (.agg cs.toArray)) w:=by
 unfold execOp
 simp only[ho,hx,Instr.loadAt,Instr.sureAddr,Sem.run_bind,Sem.run_pure,Result.andThen_ok,run_loadVar_mid w g o ty cs d hc hu hd hi]
theorem host_mid {w:World} {g:Nat} {h:Ho} (hl:Lies w g (hostC h) 25):w.rangeAt g 2 (h.a.map fun n=>Value.int .u8 (n:Nat)):=fun j v hv=>by
 rw[hl.cell]
 unfold hostC
 rw[List.getElem?_toArray,show 2+j=j+1+1 from by omega,List.getElem?_cons_succ,List.getElem?_cons_succ]
 exact hv
theorem host_mid4 {w:World} {g:Nat} {h:Ho} (hl:Lies w g (hostC h) 25):w.rangeAt g 2 ((h.a.take 4).map fun n=>Value.int .u8 (n:Nat)):=fun j v hv=>by
 refine host_mid hl j v ?_
 rw[List.map_take,List.getElem?_take]at hv
 split at hv
 ·exact hv
 ·cases hv
theorem host_cells {w:World} {g:Nat} {h:Ho} (hl:Lies w g (hostC h) 25):w.cell? ⟨g,0,none⟩=some (.int .i64 h.k)∧w.cell? ⟨g,1,none⟩=some (.string ⟨h.n.toArray⟩):=⟨hl.cell 0,hl.cell 1⟩
open Go.RowKit
theorem array_at (g:Nat) (W:World):(Instr.arrayAt 108 (.slice (some ⟨g,2,none⟩) 4 16)).run Tryz.prog W=.ok (.pointer (some ⟨g,2,none⟩)) W:=by
 simp[Instr.arrayAt,run_underlying Tryz.underlying108]
theorem exec_neq_host {op:Oper} {a:Act} {w:World} (p q:Operand) (r:TypeId) (ho:op.op=.binOp .neq 25 p q r) (x y:Ho) (hp:a.eval p=hostV x) (hq:a.eval q=hostV y) (hx:x.a.length=16) (hy:y.a.length=16):(execOp a.eval op).run Tryz.prog w=.ok (.value (.bool (!decide (x=y)))) w:=by
 have hgu:Tryz.prog.eqGuardType Tryz.prog.depth 25=false:=by kernel_rfl
 have h:=neqHost x y hx hy w
 have hg:=run_eqGuard_agg (P:=Tryz.prog) w .neq 25 p q (hostC x) (hostC y) hgu
 unfold hostV at*
 unfold execOp
 simp only[ho,hp,hq,Sem.run_bind,hg,Result.andThen_ok,h,Sem.run_pure]
theorem str_list (l:List UInt8):(⟨l.toArray⟩:ByteArray).data.toList=l:=by simp
set_option maxHeartbeats 4000000 in
set_option maxRecDepth 100000 in
theorem chk_any (h:Ho) (ha:h.a.length=16) (wide:Bool) (w:World) (hT:Tb w) (hn:h.n.length≤140737488351232):
  Calls Tryz.prog 74 #[hostV h,.bool wide] w fun e w'=>e=.returned (.int .i64 (check h wide:Nat))∧Below w.heap.size w w':=by
 have HT:Hid (∀wx,Below w.heap.size w wx→Tb wx):=fun wx hb=>hT.below hb
 have hsz:=hostC_size h ha
 obtain⟨HC,hHC⟩:∃HC,HC=hostC h:=⟨_,rfl⟩
 have e1:hostV h=.agg HC:=by rw[hHC];rfl
 have HHC:Hid (HC=hostC h):=hHC
 rw[←hHC]at hsz
 rw[e1]
 have L1:Hid (Lies ((w.alloc (.cells HC 25)).alloc (.cells #[.int .u8 0,.int .u8 0,.int .u8 0,.int .u8 0,.int .u8 0,.int .u8 0,.int .u8 0,.int .u8 0,.int .u8 0,.int .u8 0,.int .u8 0,.int .u8 0,.int .u8 0,.int .u8 0,.int .u8 0,.int .u8 0] 23)) w.heap.size HC 25):=(Lies.new w _ _).alloc _
 have L2:Hid (Lies ((w.alloc (.cells HC 25)).alloc (.cells #[.int .u8 0,.int .u8 0,.int .u8 0,.int .u8 0,.int .u8 0,.int .u8 0,.int .u8 0,.int .u8 0,.int .u8 0,.int .u8 0,.int .u8 0,.int .u8 0,.int .u8 0,.int .u8 0,.int .u8 0,.int .u8 0] 23)) (w.heap.size+1) #[.int .u8 0,.int .u8 0,.int .u8 0,.int .u8 0,.int .u8 0,.int .u8 0,.int .u8 0,.int .u8 0,.int .u8 0,.int .u8 0,.int .u8 0,.int .u8 0,.int .u8 0,.int .u8 0,.int .u8 0,.int .u8 0] 23):=new_one w _ _ _
 have HB:Hid (Below w.heap.size w ((w.alloc (.cells HC 25)).alloc (.cells #[.int .u8 0,.int .u8 0,.int .u8 0,.int .u8 0,.int .u8 0,.int .u8 0,.int .u8 0,.int .u8 0,.int .u8 0,.int .u8 0,.int .u8 0,.int .u8 0,.int .u8 0,.int .u8 0,.int .u8 0,.int .u8 0] 23))):=((Below.refl _ _).alloc (Nat.le_refl _) _).alloc (by simp) _
 clear hT hHC e1
 go_enter Tryz.func74,Tryz.ntmps74
 go_upto_region 2 with fail
 generalize (w.alloc (.cells HC 25)).alloc (.cells #[.int .u8 0,.int .u8 0,.int .u8 0,.int .u8 0,.int .u8 0,.int .u8 0,.int .u8 0,.int .u8 0,.int .u8 0,.int .u8 0,.int .u8 0,.int .u8 0,.int .u8 0,.int .u8 0,.int .u8 0,.int .u8 0] 23)=wA at L1 L2 HB ⊢
 have hzA:=L2.out.lt
 have L1h:Lies wA w.heap.size (hostC h) 25:=by rw[←HHC.out];exact L1.out
 obtain⟨c0,c1⟩:=host_cells L1h
 obtain⟨A,hA⟩:∃A,A=h.a.map fun n=>Value.int .u8 (n:Nat):=⟨_,rfl⟩
 have hAl:A.length=16:=by rw[hA,List.length_map,ha]
 have HMID:Hid (wA.rangeAt w.heap.size 2 A):=by rw[hA];exact host_mid L1h
 have hneq:∀W,(binOp .neq 23 (.agg A.toArray) (.agg #[.int .u8 0,.int .u8 0,.int .u8 0,.int .u8 0,.int .u8 0,.int .u8 0,.int .u8 0,.int .u8 0,.int .u8 0,.int .u8 0,.int .u8 0,.int .u8 0,.int .u8 0,.int .u8 0,.int .u8 0,.int .u8 0])).run Tryz.prog W=.ok (.bool (!decide (h.a=z16))) W:=fun W=>by rw[hA];exact neq16 h.a z16 ha rfl W
 have HTA:Hid (Tb wA):=HT.out _ HB.out
 by_cases k1:h.k=1
 ·have k1':(h.k==1)=true:=by rw[k1];rfl
  rw[k1]at c0
  by_cases hz:h.a=z16
  ·rw[decide_eq_true hz]at hneq
   have HV:Hid (check h wide=(wd wide h.n).1):=by show _=_;unfold check;rw[if_pos k1,if_pos hz]
   have HWD:Hid (Calls Tryz.prog 101 #[.string ⟨h.n.toArray⟩,.bool wide] wA fun e w'=>e=.returned (.agg #[.int .i64 ((wd wide h.n).1:Nat),.int .i64 ((wd wide h.n).2:Nat)])∧Below wA.heap.size wA w'):=by
    have:=wd_any ⟨h.n.toArray⟩ wide wA HTA.out.cls HTA.out.gcl HTA.out.fst
    rw[str_list]at this
    exact this
   generalize wd wide h.n=ev at HV HWD
   have hfd:=field_spot (ev.1:Int) (ev.2:Int)
   clear hz k1 hA
   go_wp2_with (first|(refine wpList_load_mid rfl 23 _ rfl w.heap.size 2 rfl A _ HMID.out Tryz.underlying23 rfl (by rw[hAl];exact info16) ?_)|(refine wpList_load_row rfl 23 _ rfl (w.heap.size+1) rfl #[.int .u8 0,.int .u8 0,.int .u8 0,.int .u8 0,.int .u8 0,.int .u8 0,.int .u8 0,.int .u8 0,.int .u8 0,.int .u8 0,.int .u8 0,.int .u8 0,.int .u8 0,.int .u8 0,.int .u8 0,.int .u8 0] 23 _ L2.out Tryz.underlying23 rfl info16 ?_))
   refine HWD.out.mono ?_
   rintro e w2 ⟨rfl,hb2⟩
   have KB:Hid (Below w.heap.size w w2):=HB.out.trans (hb2.mono (Nat.le_of_lt (Nat.lt_of_succ_lt hzA)))
   clear hb2 HWD c0 c1
   go_wp2_with fail
   go_ret
   exact⟨by rw[HV.out];rfl,KB.out⟩
  ·rw[decide_eq_false hz]at hneq
   have HV:Hid (check h wide=2):=by show _=_;unfold check;rw[if_pos k1,if_neg hz]
   clear hz k1 hA
   go_wp2_with (first|(refine wpList_load_mid rfl 23 _ rfl w.heap.size 2 rfl A _ HMID.out Tryz.underlying23 rfl (by rw[hAl];exact info16) ?_)|(refine wpList_load_row rfl 23 _ rfl (w.heap.size+1) rfl #[.int .u8 0,.int .u8 0,.int .u8 0,.int .u8 0,.int .u8 0,.int .u8 0,.int .u8 0,.int .u8 0,.int .u8 0,.int .u8 0,.int .u8 0,.int .u8 0,.int .u8 0,.int .u8 0,.int .u8 0,.int .u8 0] 23 _ L2.out Tryz.underlying23 rfl info16 ?_))
   go_ret
   exact⟨by rw[HV.out];rfl,HB.out⟩
 have k1':(h.k==1)=false:=by rw[beq_eq_false_iff_ne];exact k1
 by_cases k2:h.k=2
 ·have k2':(h.k==2)=true:=by rw[k2];rfl
  have HV:Hid (check h wide=if h=fourH (h.a.take 4) then 0 else 2):=by show _=_;unfold check;rw[if_neg k1,if_pos k2]
  obtain⟨q0,q1,q2,q3,hq⟩:∃q0 q1 q2 q3,h.a.take 4=[q0,q1,q2,q3]:=by
   have:(h.a.take 4).length=4:=by rw[List.length_take];omega
   match h.a.take 4,this with
   |[q0,q1,q2,q3],_=>exact⟨q0,q1,q2,q3,rfl⟩
  have HM4:=host_mid4 L1h
  rw[hq]at HM4 HV
  have HFH:Hid (Calls Tryz.prog 102 #[.agg #[.int .u8 (q0:Nat),.int .u8 (q1:Nat),.int .u8 (q2:Nat),.int .u8 (q3:Nat)]] wA.drew fun e w'=>e=.returned (hostV (fourH [q0,q1,q2,q3]))∧Below wA.drew.heap.size wA.drew w'):=fh_any q0 q1 q2 q3 wA.drew
  have hnq:∀W,(binOp .neq 25 (.agg HC) (hostV (fourH [q0,q1,q2,q3]))).run Tryz.prog W=.ok (.bool (!decide (h=fourH [q0,q1,q2,q3]))) W:=fun W=>by rw[HHC.out];exact neqHost h (fourH [q0,q1,q2,q3]) ha rfl W
  have HNQ:Hid (∀W,(binOp .neq 25 (.agg HC) (hostV (fourH [q0,q1,q2,q3]))).run Tryz.prog W=.ok (.bool (!decide (h=fourH [q0,q1,q2,q3]))) W):=hnq
  obtain⟨H4,hH4⟩:∃H4,H4=hostC (fourH [q0,q1,q2,q3]):=⟨_,rfl⟩
  have e4:hostV (fourH [q0,q1,q2,q3])=.agg H4:=by rw[hH4];rfl
  rw[e4]at HFH HNQ
  have HH4:Hid (H4=hostC (fourH [q0,q1,q2,q3])):=hH4
  clear hnq e4 hH4
  obtain⟨b,hb⟩:∃b,b=decide (h=fourH [q0,q1,q2,q3]):=⟨_,rfl⟩
  have HV2:Hid (check h wide=if b=true then 0 else 2):=by
   show _=_
   rw[HV.out,hb]
   by_cases hh:h=fourH [q0,q1,q2,q3]
   ·rw[if_pos hh,if_pos (decide_eq_true hh)]
   ·rw[if_neg hh,if_neg (by rw[decide_eq_false hh];decide)]
  have HBB:Hid (b=decide (h=fourH [q0,q1,q2,q3])):=hb
  clear HNQ
  have HS4:Hid (wA.rangeAt w.heap.size 2 [.int .u8 (q0:Nat),.int .u8 (q1:Nat),.int .u8 (q2:Nat),.int .u8 (q3:Nat)]):=HM4
  clear hb HV HM4 hq hneq hA
  rw[k2]at c0
  go_wp2_with fail
  have hat:=array_at w.heap.size
  refine wp_region_late (fun wx=>Below wA.heap.size wA wx) 7 (by kernel_rfl) (Below.refl _ wA).drew (fun hHeld=>?_)
  refine tk9 0 (some 22) (.agg HC) ?_ (hy:=?hy)
  case hy=>exact fun w' hSw=>exec_load_row 25 _ rfl w.heap.size rfl HC 25 _ (L1.out.below hSw L1.out.lt) Tryz.underlying25 rfl (by rw[hsz];exact infoHo)
  simp only[Act.put,pA,pB,pC]
  refine wpAnyE_tk (i:=1) (d:=some 23) (v:=?_) rfl (by kernel_rfl) (by kernel_rfl) (by kernel_rfl) rfl (fun _ _ _ h=>h) rfl rfl ?hy (by first|assumption|go_simp) ?_
  case hy=>(intro w' hSw;(try dsimp only at hSw);go_simp<;>(first|with_reducible rfl|omega|skip))
  simp only[Act.put,pA,pB,pC]
  refine wpAnyE_tk (i:=2) (d:=some 24) (v:=?_) rfl (by kernel_rfl) (by kernel_rfl) (by kernel_rfl) rfl (fun _ _ _ h=>h) rfl rfl ?hy (by first|assumption|go_simp) ?_
  case hy=>(intro w' hSw;(try dsimp only at hSw);go_simp<;>(first|with_reducible rfl|omega|skip))
  simp only[Act.put,pA,pB,pC]
  refine wpAnyE_tk (i:=3) (d:=some 25) (v:=?_) rfl (by kernel_rfl) (by kernel_rfl) (by kernel_rfl) rfl (fun _ _ _ h=>h) rfl rfl ?hy (by first|assumption|go_simp) ?_
  case hy=>(intro w' hSw;(try dsimp only at hSw);go_simp<;>(first|with_reducible rfl|omega|skip))
  simp only[Act.put,pA,pB,pC]
  refine tk9 4 (some 26) (.agg #[.int .u8 (q0:Nat),.int .u8 (q1:Nat),.int .u8 (q2:Nat),.int .u8 (q3:Nat)]) ?_ (hy:=?hy)
  case hy=>exact fun w' hSw=>exec_load_mid 108 _ rfl w.heap.size 2 rfl [.int .u8 (q0:Nat),.int .u8 (q1:Nat),.int .u8 (q2:Nat),.int .u8 (q3:Nat)] _ (fun j v hv=>(hSw.cell (p:=⟨w.heap.size,2+j,none⟩) (by show w.heap.size<wA.heap.size;omega)).trans (HS4.out j v hv)) Tryz.underlying108 rfl info4
  simp only[Act.put,pA,pB,pC]
  refine on9 5 ?_
  go_simp
  refine Calls.mono HFH.out ?_
  rintro e w6 ⟨rfl,hb6⟩
  have hb6':Below wA.heap.size wA w6:=(Below.refl _ wA).drew.trans hb6
  refine⟨hb6',?_⟩
  have KB:Hid (Below w.heap.size w w6):=HB.out.trans (hb6'.mono (Nat.le_of_lt (Nat.lt_of_succ_lt hzA)))
  refine tk9 6 (some 28) (.bool (!b)) ?_ (hy:=?hy)
  case hy=>
   intro w' _
   rw[HBB.out]
   exact exec_neq_host _ _ _ rfl h (fourH [q0,q1,q2,q3]) (by show Value.agg HC=_;rw[HHC.out];rfl) (by show Value.agg H4=_;rw[HH4.out];rfl) ha rfl
  simp only[Act.put,pA,pB,pC]
  refine wpAnyE_done (by kernel_rfl) ?_ _
  clear hHeld hb6 hb6' HFH HBB
  cases b
  ·go_wp2
   go_ret
   exact⟨by rw[HV2.out];rfl,KB.out⟩
  ·go_wp2
   go_ret
   exact⟨by rw[HV2.out];rfl,KB.out⟩
 have k2':(h.k==2)=false:=by rw[beq_eq_false_iff_ne];exact k2
 by_cases k3:h.k=3
 ·have k3':(h.k==3)=true:=by rw[k3];rfl
  rw[k3]at c0
  by_cases hn0:h.n=[]
  ·have HV:Hid (check h wide=0):=by show _=_;unfold check;rw[if_neg k1,if_neg k2,if_pos k3,if_pos hn0]
   have hne:(h.n==[])=true:=by rw[hn0];rfl
   rw[hn0]at c1
   clear k1 k2 k3 hneq hA
   go_wp2_with fail
   go_ret
   exact⟨by rw[HV.out];rfl,HB.out⟩
  ·have HV:Hid (check h wide=2):=by show _=_;unfold check;rw[if_neg k1,if_neg k2,if_pos k3,if_neg hn0]
   have hne:(h.n==[])=false:=by rw[beq_eq_false_iff_ne];exact hn0
   obtain⟨cc,rr,hcr⟩:∃cc rr,h.n=cc::rr:=by
    cases hh:h.n with
    |nil=>exact absurd hh hn0
    |cons cc rr=>exact⟨cc,rr,rfl⟩
   rw[hcr]at c1
   clear k1 k2 k3 hneq hA hn0 hne hcr
   go_wp2_with fail
   go_ret
   exact⟨by rw[HV.out];rfl,HB.out⟩
 have k3':(h.k==3)=false:=by rw[beq_eq_false_iff_ne];exact k3
 by_cases k4:h.k=4
 ·have k4':(h.k==4)=true:=by rw[k4];rfl
  rw[k4]at c0
  by_cases hz:h.a=z16
  ·rw[decide_eq_true hz]at hneq
   have HV:Hid (check h wide=chTag h.n):=by show _=_;unfold check;rw[if_neg k1,if_neg k2,if_neg k3,if_pos k4,if_pos hz]
   have HCT:Hid (Calls Tryz.prog 103 #[.string ⟨h.n.toArray⟩] wA fun e w'=>e=.returned (.int .i64 (chTag h.n:Nat))∧Below wA.heap.size wA w'):=by
    have:=ct_any ⟨h.n.toArray⟩ wA HTA.out (by rw[←len_list,str_list];exact hn)
    rw[str_list]at this
    exact this
   generalize chTag h.n=ev at HV HCT
   clear hz k1 k2 k3 k4 hA
   go_wp2_with (first|(refine wpList_load_mid rfl 23 _ rfl w.heap.size 2 rfl A _ HMID.out Tryz.underlying23 rfl (by rw[hAl];exact info16) ?_)|(refine wpList_load_row rfl 23 _ rfl (w.heap.size+1) rfl #[.int .u8 0,.int .u8 0,.int .u8 0,.int .u8 0,.int .u8 0,.int .u8 0,.int .u8 0,.int .u8 0,.int .u8 0,.int .u8 0,.int .u8 0,.int .u8 0,.int .u8 0,.int .u8 0,.int .u8 0,.int .u8 0] 23 _ L2.out Tryz.underlying23 rfl info16 ?_))
   refine HCT.out.mono ?_
   rintro e w2 ⟨rfl,hb2⟩
   have KB:Hid (Below w.heap.size w w2):=HB.out.trans (hb2.mono (Nat.le_of_lt (Nat.lt_of_succ_lt hzA)))
   clear hb2 HCT c0 c1
   go_wp2_with fail
   go_ret
   exact⟨by rw[HV.out];rfl,KB.out⟩
  ·rw[decide_eq_false hz]at hneq
   have HV:Hid (check h wide=2):=by show _=_;unfold check;rw[if_neg k1,if_neg k2,if_neg k3,if_pos k4,if_neg hz]
   clear hz k1 k2 k3 k4 hA
   go_wp2_with (first|(refine wpList_load_mid rfl 23 _ rfl w.heap.size 2 rfl A _ HMID.out Tryz.underlying23 rfl (by rw[hAl];exact info16) ?_)|(refine wpList_load_row rfl 23 _ rfl (w.heap.size+1) rfl #[.int .u8 0,.int .u8 0,.int .u8 0,.int .u8 0,.int .u8 0,.int .u8 0,.int .u8 0,.int .u8 0,.int .u8 0,.int .u8 0,.int .u8 0,.int .u8 0,.int .u8 0,.int .u8 0,.int .u8 0,.int .u8 0] 23 _ L2.out Tryz.underlying23 rfl info16 ?_))
   go_ret
   exact⟨by rw[HV.out];rfl,HB.out⟩
 have k4':(h.k==4)=false:=by rw[beq_eq_false_iff_ne];exact k4
 have HV:Hid (check h wide=2):=by show _=_;unfold check;rw[if_neg k1,if_neg k2,if_neg k3,if_neg k4]
 clear k1 k2 k3 k4 hA hneq
 go_wp2_with fail
 go_ret
 exact⟨by rw[HV.out];rfl,HB.out⟩
open Go.RowKit
theorem wpList_yieldG {P:Program} {ops:Array Oper} {rest:List Oper} {op:Oper} {a:Act} {w:World} {Q:Exit→Act→World→Prop} (v:Value) (hw:Region.wanted op (yielded ops a.tmps)=true)
  (hy:(execOp a.eval op).run P w=.ok (.value v) w) (h:wpList P ops Q rest (a.put op.dst v) w):wpList P ops Q (op::rest) a w:=by
 unfold wpList
 rw[if_pos hw]
 left
 unfold Oper.wp
 rw[hy]
 exact h
theorem wpList_onG {P:Program} {ops:Array Oper} {rest:List Oper} {op:Oper} {a:Act} {w:World} {Q:Exit→Act→World→Prop} (hw:Region.wanted op (yielded ops a.tmps)=true)
  (h:op.wp P a w (wpList P ops Q rest) Q):wpList P ops Q (op::rest) a w:=by
 unfold wpList
 rw[if_pos hw]
 exact .inl h
def letB (c:UInt8):Bool:=(decide (65≤c.toNat)&&decide (c.toNat≤90))||(decide (97≤c.toNat)&&decide (c.toNat≤122))
theorem ld_let (c:UInt8):ldB c=(letB c||dgB c):=by
 unfold ldB letB
 cases dgB c<;>simp
theorem let_not {c:UInt8} (h:c=45):letB c=false∧dgB c=false:=by
 subst h
 exact⟨by decide,by decide⟩
def pwC (F a n:Nat) (c:UInt8):Bool:=
 if letB c=false∧dgB c=false∧¬c=45∧¬(128≤c.toNat∧a<F) then true
 else decide (63≤n)||(decide (c=45)&&decide (n=0))
theorem pwC_is (F a n:Nat) (c:UInt8) (hn:n≤63):pwC F a n c=true↔(n=63∨stB F a n c=false):=by
 unfold pwC stB
 rw[ld_let]
 by_cases h45:c=45
 ·obtain⟨h1,h2⟩:=let_not h45
  have h3:¬128≤c.toNat:=by subst h45;decide
  rw[if_neg (by rintro ⟨-, -,h, -⟩;exact h h45),h1,h2,decide_eq_true h45,decide_eq_false h3]
  simp
  omega
 ·rw[decide_eq_false h45]
  by_cases hh:128≤c.toNat∧a<F
  ·rw[if_neg (by rintro ⟨-, -, -,h⟩;exact h hh),decide_eq_true hh.1,decide_eq_true hh.2]
   simp
   omega
  ·have h4:(decide (128≤c.toNat)&&decide (a<F))=false:=by
    rw[Bool.and_eq_false_iff,decide_eq_false_iff_not,decide_eq_false_iff_not]
    by_cases h:128≤c.toNat
    ·exact .inr fun h'=>hh ⟨h,h'⟩
    ·exact .inl h
   rw[h4]
   cases h1:letB c
   ·cases h2:dgB c
    ·rw[if_pos ⟨rfl,rfl,h45,hh⟩]
     simp
    ·rw[if_neg (by rintro ⟨-,h, -⟩;cases h)]
     simp
     omega
   ·rw[if_neg (by rintro ⟨h, -⟩;cases h)]
    simp
    omega
def pw (F:Nat) (s:List UInt8) (b i:Nat):Bool:=
 match s[i]? with
 |none=>decide (i=b)||decide (s[i - 1]?=some 45)
 |some c=>if c=46 then decide (i=b)||decide (s[i - 1]?=some 45) else pwC F i (i - b) c
structure NmAt (F:Nat) (s:List UInt8) (b i:Nat) (h:Bool):Prop where
 le:b≤i
 most:i - b≤63
 hyp:b<i→h=decide (s[i - 1]?=some 45)
 is:wdGo F 0 0 false s=wdGo F i (i - b) h (s.drop i)
theorem NmAt.start (F:Nat) (s:List UInt8):NmAt F s 0 0 false:=⟨Nat.le_refl _,Nat.zero_le _,fun h=>absurd h (by omega),by rw[List.drop_zero]⟩
theorem pw_end {s:List UInt8} {b i:Nat} {h:Bool} (hb:b≤i) (hh:b<i→h=decide (s[i - 1]?=some 45)):(decide (i=b)||decide (s[i - 1]?=some 45))=false↔(0<i - b∧h=false):=by
 by_cases e:i=b
 ·rw[decide_eq_true e]
  simp
  omega
 ·have:=hh (by omega)
  rw[decide_eq_false e,Bool.false_or,←this]
  constructor
  ·intro h;exact⟨by omega,h⟩
  ·exact fun h=>h.2
theorem NmAt.wrong {F:Nat} {s:List UInt8} {b i:Nat} {h:Bool} (H:NmAt F s b i h) (hw:pw F s b i=true):wdGo F 0 0 false s=some i:=by
 rw[H.is]
 rcases Nat.lt_or_ge i s.length with hl|hl
 ·rw[List.drop_eq_getElem_cons hl,wdGo]
  unfold pw at hw
  rw[List.getElem?_eq_getElem hl]at hw
  dsimp only at hw
  split at hw
  ·rename_i hc
   rw[if_pos hc,if_neg]
   intro h'
   rw[(pw_end H.le H.hyp).2 h']at hw
   cases hw
  ·rename_i hc
   rw[if_neg hc,if_pos ((pwC_is F i (i - b) _ H.most).1 hw)]
 ·rw[List.drop_eq_nil_of_le hl,wdGo]
  unfold pw at hw
  rw[List.getElem?_eq_none hl]at hw
  dsimp only at hw
  rw[if_neg]
  intro h'
  rw[(pw_end H.le H.hyp).2 h']at hw
  cases hw
theorem NmAt.last {F:Nat} {s:List UInt8} {b i:Nat} {h:Bool} (H:NmAt F s b i h) (hi:i=s.length) (hw:pw F s b i=false):wdGo F 0 0 false s=none:=by
 rw[H.is,List.drop_eq_nil_of_le (by omega),wdGo]
 unfold pw at hw
 rw[List.getElem?_eq_none (by omega)]at hw
 dsimp only at hw
 rw[if_pos ((pw_end H.le H.hyp).1 hw)]
theorem NmAt.dot {F:Nat} {s:List UInt8} {b i:Nat} {h:Bool} (H:NmAt F s b i h) (hi:i<s.length) (hc:s[i]=46) (hw:pw F s b i=false):NmAt F s (i+1) (i+1) false:=by
 refine⟨Nat.le_refl _,by omega,fun h=>absurd h (by omega),?_⟩
 rw[H.is,List.drop_eq_getElem_cons hi,wdGo,if_pos hc]
 unfold pw at hw
 rw[List.getElem?_eq_getElem hi]at hw
 dsimp only at hw
 rw[if_pos hc]at hw
 rw[if_pos ((pw_end H.le H.hyp).1 hw),Nat.sub_self]
theorem NmAt.next {F:Nat} {s:List UInt8} {b i:Nat} {h:Bool} (H:NmAt F s b i h) (hi:i<s.length) (hc:¬s[i]=46) (hw:pw F s b i=false):NmAt F s b (i+1) (decide (s[i]=45)):=by
 unfold pw at hw
 rw[List.getElem?_eq_getElem hi]at hw
 dsimp only at hw
 rw[if_neg hc]at hw
 have hn:¬(i - b=63∨stB F i (i - b) s[i]=false):=fun h'=>by rw[(pwC_is F i (i - b) _ H.most).2 h']at hw;cases hw
 have hle:=H.le
 have hm:=H.most
 refine⟨by omega,by omega,fun _=>?_,?_⟩
 ·rw[Nat.add_sub_cancel,List.getElem?_eq_getElem hi]
  rw[Bool.eq_iff_iff]
  simp
 ·rw[H.is,List.drop_eq_getElem_cons hi,wdGo,if_neg hc,if_neg hn,show i+1 - b=i - b+1 from by omega]
def tgD (t:List UInt8):Option Nat:=
 if spB lbB t<t.length∧¬t[spB lbB t]?=some 58 then some (spB lbB t)
 else if spB lbB t=t.length∨spB lbB t=0∨t[spB lbB t - 1]?=some 45 then some (spB lbB t)
 else if spB lbB t+1+spB plB (t.drop (spB lbB t+1))<t.length then some (spB lbB t+1+spB plB (t.drop (spB lbB t+1)))
 else if spB lbB t+1=t.length then some t.length
 else none
theorem spB_stop (f:UInt8→Bool):∀(l:List UInt8) (h:spB f l<l.length),f l[spB f l]=false
 |[],h=>by simp at h
 |c::r,h=>by
  cases hc:f c
  ·have e:spB f (c::r)=0:=by rw[spB,if_neg (by rw[hc];decide)]
   simp only[e]
   exact hc
  ·have e:spB f (c::r)=spB f r+1:=by rw[spB,if_pos hc]
   simp only[e]
   rw[e,List.length_cons]at h
   exact spB_stop f r (by omega)
theorem spB_pre (f:UInt8→Bool):∀(l:List UInt8) (j:Nat) (h:j<l.length),j<spB f l→f l[j]=true
 |[],j,h,_=>by simp at h
 |c::r,j,h,h'=>by
  cases hc:f c
  ·have e:spB f (c::r)=0:=by rw[spB,if_neg (by rw[hc];decide)]
   omega
  ·have e:spB f (c::r)=spB f r+1:=by rw[spB,if_pos hc]
   cases j with
   |zero=>exact hc
   |succ j=>
    rw[List.getElem_cons_succ]
    exact spB_pre f r j _ (by omega)
theorem spB_eq (f:UInt8→Bool) (l:List UInt8) (k:Nat) (hk:k≤l.length) (h1:∀j (h:j<l.length),j<k→f l[j]=true) (h2:∀h:k<l.length,f l[k]=false):spB f l=k:=by
 have hle:=spB_le f l
 rcases Nat.lt_trichotomy (spB f l) k with h|h|h
 ·have a:=spB_stop f l (by omega)
  rw[h1 _ (by omega) h]at a
  cases a
 ·exact h
 ·have a:=spB_pre f l k (by omega) h
  rw[h2 (by omega)]at a
  cases a
theorem colon_some:∀{t:List UInt8} {k:Nat},colonAt t=some k→∃h:k<t.length,t[k]=58∧∀j (h':j<t.length),j<k→t[j]≠58
 |[],k,h=>by cases h
 |c::r,k,h=>by
  rw[colonAt]at h
  by_cases hc:c=58
  ·rw[if_pos hc]at h
   cases h
   exact⟨by simp,hc,fun j _ h=>absurd h (by omega)⟩
  ·rw[if_neg hc]at h
   cases hr:colonAt r with
   |none=>rw[hr]at h;cases h
   |some q=>
    rw[hr]at h
    obtain rfl:q+1=k:=by simpa using h
    obtain⟨h1,h2,h3⟩:=colon_some hr
    refine⟨by simp;omega,by simpa using h2,fun j hj hjk=>?_⟩
    cases j with
    |zero=>exact hc
    |succ j=>exact h3 j (by simpa using hj) (by omega)
theorem lb_colon:lbB 58=false:=by decide
theorem spB_colon {t:List UInt8} {k:Nat} (h:colonAt t=some k):spB lbB (t.take k)=spB lbB t∧spB lbB t≤k:=by
 obtain⟨hk,h1,h2⟩:=colon_some h
 have hle:spB lbB t≤k:=by
  rcases Nat.lt_or_ge k (spB lbB t) with h'|h'
  ·have:=spB_pre lbB t k hk h'
   rw[h1,lb_colon]at this
   cases this
  ·exact h'
 refine⟨spB_eq lbB _ _ (by rw[List.length_take];omega) (fun j hj h'=>?_) (fun hh=>?_),hle⟩
 ·rw[List.getElem_take]
  exact spB_pre lbB t j _ h'
 ·rw[List.getElem_take]
  rw[List.length_take]at hh
  exact spB_stop lbB t (by omega)
theorem tgD_some {t:List UInt8} {k:Nat} (h:colonAt t=some k):tagged t k=match tgD t with
  |none=>(0,0)
  |some p=>(83,p):=by
 obtain⟨hk,h1,h2⟩:=colon_some h
 obtain⟨h3,h4⟩:=spB_colon h
 unfold tagged tgD
 rw[h3]
 rcases Nat.lt_or_ge (spB lbB t) k with hlt|hge
 ·rw[if_pos (.inl hlt),if_pos ⟨by omega,by rw[List.getElem?_eq_getElem (by omega)];intro e;exact h2 _ (by omega) hlt (by simpa using e)⟩]
 ·have e:spB lbB t=k:=by omega
  have n1:¬(k<t.length∧¬t[k]?=some 58):=fun h=>h.2 (by rw[List.getElem?_eq_getElem hk,h1])
  rw[e,if_neg n1]
  by_cases ha:k=0∨t[k - 1]?=some 45
  ·rw[if_pos (.inr ha),if_pos (.inr ha)]
  ·have n2:¬(k<k∨k=0∨t[k - 1]?=some 45):=fun h=>h.elim (by omega) ha
   have n3:¬(k=t.length∨k=0∨t[k - 1]?=some 45):=fun h=>h.elim (by omega) ha
   rw[if_neg n2,if_neg n3]
   have hl:=spB_le plB (t.drop (k+1))
   rw[List.length_drop]at hl
   by_cases hb:k+1+spB plB (t.drop (k+1))<t.length
   ·rw[if_pos (.inl hb),if_pos hb]
   ·rw[if_neg hb]
    by_cases hz:k+1=t.length
    ·have e0:spB plB (t.drop (k+1))=0:=by omega
     rw[if_pos (.inr e0),if_pos hz,e0,Nat.add_zero,hz]
    ·have n4:¬(k+1+spB plB (t.drop (k+1))<t.length∨spB plB (t.drop (k+1))=0):=by omega
     rw[if_neg n4,if_neg hz]
end Go.Proofs.YtfjpkfhbmldmfaaGreatDoor
