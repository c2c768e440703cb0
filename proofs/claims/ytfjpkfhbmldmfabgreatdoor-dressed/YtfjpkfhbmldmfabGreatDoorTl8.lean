/-
  The contracts of domain.fourthHost and of literal's told.
-/
import Derived.Test.YtfjpkfhbmldmfabGreatDoorWt8
import Derived.Test.YtfjpkfhbmldmfabGreatDoorDmR
import Derived.Deep.DeepCutAuto
import Derived.Test.YtfjpkfhbmldmfabGreatDoorLate5
namespace Go.Proofs.YtfjpkfhbmldmfabGreatDoor
open Go.RowKit
theorem infoHo:(Tryz.prog.info? 28).map (·.size)=some 18:=by kernel_rfl
def hostC (h:Ho):Array Value:=(Value.int .i64 h.k::Value.string ⟨h.n.toArray⟩::h.a.map fun n=>Value.int .u8 (n:Nat)).toArray
def hostV (h:Ho):Value:=.agg (hostC h)
theorem hostC_size (h:Ho) (ha:h.a.length=16):(hostC h).size=18:=by simp[hostC,ha]
theorem hostC_one (h:Ho):(hostC h).all (·.oneCell')=true:=by
 rw[Array.all_eq_true_iff_forall_mem]
 intro v hv
 unfold hostC at hv
 rw[List.mem_toArray]at hv
 rcases List.mem_cons.1 hv with rfl|hv
 ·rfl
 ·rcases List.mem_cons.1 hv with rfl|hv
  ·rfl
  ·obtain⟨n,_,rfl⟩:=List.mem_map.1 hv
   rfl
set_option maxHeartbeats 4000000 in
set_option maxRecDepth 100000 in
theorem fh_any (x y z u:Nat) (w:World):Calls Tryz.prog 53 #[.agg (bytesV [x,y,z,u])] w fun e w'=>e=.returned (hostV (fourH [x,y,z,u]))∧Below w.heap.size w w':=by
 have hu5:(Tryz.prog.info? 5).map (·.size)=some 1:=by kernel_rfl
 have hL0:Hid (Lies (((w.alloc (.cells (bytesV [x,y,z,u]) 89)).alloc (.cells #[.int .i64 0,.string ⟨#[]⟩,.int .u8 0,.int .u8 0,.int .u8 0,.int .u8 0,.int .u8 0,.int .u8 0,.int .u8 0,.int .u8 0,.int .u8 0,.int .u8 0,.int .u8 0,.int .u8 0,.int .u8 0,.int .u8 0,.int .u8 0,.int .u8 0] 28)).alloc (.cells #[.int .i64 2,.string ⟨#[]⟩,.int .u8 0,.int .u8 0,.int .u8 0,.int .u8 0,.int .u8 0,.int .u8 0,.int .u8 0,.int .u8 0,.int .u8 0,.int .u8 0,.int .u8 0,.int .u8 0,.int .u8 0,.int .u8 0,.int .u8 0,.int .u8 0] 28)) w.heap.size (bytesV [x,y,z,u]) 89):=((Lies.new w _ _).alloc _).alloc _
 have hL1:Hid (Lies (((w.alloc (.cells (bytesV [x,y,z,u]) 89)).alloc (.cells #[.int .i64 0,.string ⟨#[]⟩,.int .u8 0,.int .u8 0,.int .u8 0,.int .u8 0,.int .u8 0,.int .u8 0,.int .u8 0,.int .u8 0,.int .u8 0,.int .u8 0,.int .u8 0,.int .u8 0,.int .u8 0,.int .u8 0,.int .u8 0,.int .u8 0] 28)).alloc (.cells #[.int .i64 2,.string ⟨#[]⟩,.int .u8 0,.int .u8 0,.int .u8 0,.int .u8 0,.int .u8 0,.int .u8 0,.int .u8 0,.int .u8 0,.int .u8 0,.int .u8 0,.int .u8 0,.int .u8 0,.int .u8 0,.int .u8 0,.int .u8 0,.int .u8 0] 28)) (w.heap.size+1) #[.int .i64 0,.string ⟨#[]⟩,.int .u8 0,.int .u8 0,.int .u8 0,.int .u8 0,.int .u8 0,.int .u8 0,.int .u8 0,.int .u8 0,.int .u8 0,.int .u8 0,.int .u8 0,.int .u8 0,.int .u8 0,.int .u8 0,.int .u8 0,.int .u8 0] 28):=(new_one w _ _ _).alloc _
 have hL2:Hid (Lies (((w.alloc (.cells (bytesV [x,y,z,u]) 89)).alloc (.cells #[.int .i64 0,.string ⟨#[]⟩,.int .u8 0,.int .u8 0,.int .u8 0,.int .u8 0,.int .u8 0,.int .u8 0,.int .u8 0,.int .u8 0,.int .u8 0,.int .u8 0,.int .u8 0,.int .u8 0,.int .u8 0,.int .u8 0,.int .u8 0,.int .u8 0] 28)).alloc (.cells #[.int .i64 2,.string ⟨#[]⟩,.int .u8 0,.int .u8 0,.int .u8 0,.int .u8 0,.int .u8 0,.int .u8 0,.int .u8 0,.int .u8 0,.int .u8 0,.int .u8 0,.int .u8 0,.int .u8 0,.int .u8 0,.int .u8 0,.int .u8 0,.int .u8 0] 28)) (w.heap.size+1+1) #[.int .i64 2,.string ⟨#[]⟩,.int .u8 0,.int .u8 0,.int .u8 0,.int .u8 0,.int .u8 0,.int .u8 0,.int .u8 0,.int .u8 0,.int .u8 0,.int .u8 0,.int .u8 0,.int .u8 0,.int .u8 0,.int .u8 0,.int .u8 0,.int .u8 0] 28):=new_two w _ _ _ _
 have hB:Hid (Below w.heap.size w (((w.alloc (.cells (bytesV [x,y,z,u]) 89)).alloc (.cells #[.int .i64 0,.string ⟨#[]⟩,.int .u8 0,.int .u8 0,.int .u8 0,.int .u8 0,.int .u8 0,.int .u8 0,.int .u8 0,.int .u8 0,.int .u8 0,.int .u8 0,.int .u8 0,.int .u8 0,.int .u8 0,.int .u8 0,.int .u8 0,.int .u8 0] 28)).alloc (.cells #[.int .i64 2,.string ⟨#[]⟩,.int .u8 0,.int .u8 0,.int .u8 0,.int .u8 0,.int .u8 0,.int .u8 0,.int .u8 0,.int .u8 0,.int .u8 0,.int .u8 0,.int .u8 0,.int .u8 0,.int .u8 0,.int .u8 0,.int .u8 0,.int .u8 0] 28))):=(((Below.refl _ _).alloc (Nat.le_refl _) _).alloc (by simp) _).alloc (by simp;omega) _
 go_enter Tryz.func53,Tryz.ntmps53
 go_wp2_with fail
 generalize ((w.alloc (.cells (bytesV [x,y,z,u]) 89)).alloc (.cells #[.int .i64 0,.string ⟨#[]⟩,.int .u8 0,.int .u8 0,.int .u8 0,.int .u8 0,.int .u8 0,.int .u8 0,.int .u8 0,.int .u8 0,.int .u8 0,.int .u8 0,.int .u8 0,.int .u8 0,.int .u8 0,.int .u8 0,.int .u8 0,.int .u8 0] 28)).alloc (.cells #[.int .i64 2,.string ⟨#[]⟩,.int .u8 0,.int .u8 0,.int .u8 0,.int .u8 0,.int .u8 0,.int .u8 0,.int .u8 0,.int .u8 0,.int .u8 0,.int .u8 0,.int .u8 0,.int .u8 0,.int .u8 0,.int .u8 0,.int .u8 0,.int .u8 0] 28)=wA at hL0 hL1 hL2 hB ⊢
 obtain⟨cs,hcs⟩:∃cs:List Value,cs=[.int .u8 (x:Nat),.int .u8 (y:Nat),.int .u8 (z:Nat),.int .u8 (u:Nat)]:=⟨_,rfl⟩
 have hL2d:Lies wA.drew (w.heap.size+1+1) #[.int .i64 2,.string ⟨#[]⟩,.int .u8 0,.int .u8 0,.int .u8 0,.int .u8 0,.int .u8 0,.int .u8 0,.int .u8 0,.int .u8 0,.int .u8 0,.int .u8 0,.int .u8 0,.int .u8 0,.int .u8 0,.int .u8 0,.int .u8 0,.int .u8 0] 28:=hL2.out
 have hL0d:Lies wA.drew w.heap.size (bytesV [x,y,z,u]) 89:=hL0.out
 have hL1d:Lies wA.drew (w.heap.size+1) #[.int .i64 0,.string ⟨#[]⟩,.int .u8 0,.int .u8 0,.int .u8 0,.int .u8 0,.int .u8 0,.int .u8 0,.int .u8 0,.int .u8 0,.int .u8 0,.int .u8 0,.int .u8 0,.int .u8 0,.int .u8 0,.int .u8 0,.int .u8 0,.int .u8 0] 28:=hL1.out
 have hcp:=run_copy_row (P:=Tryz.prog) wA.drew 47 47 3 5 (w.heap.size+1+1) 2 16 16 ⟨w.heap.size,0,none⟩ 4 4 #[.int .i64 2,.string ⟨#[]⟩,.int .u8 0,.int .u8 0,.int .u8 0,.int .u8 0,.int .u8 0,.int .u8 0,.int .u8 0,.int .u8 0,.int .u8 0,.int .u8 0,.int .u8 0,.int .u8 0,.int .u8 0,.int .u8 0,.int .u8 0,.int .u8 0] 28 cs Tryz.underlying47 hu5 hL2d (by rw[hcs];rfl) (fun j v hv=>by
  rw[Addr.add_lit,Nat.zero_add,hL0d.cell]
  rw[hcs]at hv
  unfold bytesV
  rw[List.getElem?_toArray]
  exact hv) (by rw[hcs];simp) (fun v hv=>by
  rw[hcs]at hv
  simp at hv
  rcases hv with rfl|rfl|rfl|rfl<;>rfl)
 have hrow:(((#[.int .i64 2,.string ⟨#[]⟩,.int .u8 0,.int .u8 0,.int .u8 0,.int .u8 0,.int .u8 0,.int .u8 0,.int .u8 0,.int .u8 0,.int .u8 0,.int .u8 0,.int .u8 0,.int .u8 0,.int .u8 0,.int .u8 0,.int .u8 0,.int .u8 0]:Array Value).toList.take 2++cs++(#[.int .i64 2,.string ⟨#[]⟩,.int .u8 0,.int .u8 0,.int .u8 0,.int .u8 0,.int .u8 0,.int .u8 0,.int .u8 0,.int .u8 0,.int .u8 0,.int .u8 0,.int .u8 0,.int .u8 0,.int .u8 0,.int .u8 0,.int .u8 0,.int .u8 0]:Array Value).toList.drop (2+cs.length)).toArray)=hostC (fourH [x,y,z,u]):=by rw[hcs];rfl
 have hcl:cs.length=4:=by rw[hcs];rfl
 rw[hrow,hcl]at hcp
 have HL3:Hid (Lies (wA.drew.setRow (w.heap.size+1+1) (hostC (fourH [x,y,z,u]))) (w.heap.size+1+1) (hostC (fourH [x,y,z,u])) 28):=hL2d.row _
 have HL4:Hid (Lies (wA.drew.setRow (w.heap.size+1+1) (hostC (fourH [x,y,z,u]))) (w.heap.size+1) #[.int .i64 0,.string ⟨#[]⟩,.int .u8 0,.int .u8 0,.int .u8 0,.int .u8 0,.int .u8 0,.int .u8 0,.int .u8 0,.int .u8 0,.int .u8 0,.int .u8 0,.int .u8 0,.int .u8 0,.int .u8 0,.int .u8 0,.int .u8 0,.int .u8 0] 28):=hL1d.row_other (show w.heap.size+1≠w.heap.size+1+1 by omega) _
 have HB2:Hid (Below w.heap.size w (wA.drew.setRow (w.heap.size+1+1) (hostC (fourH [x,y,z,u])))):=below_row hB.out.drew (show w.heap.size≤w.heap.size+1+1 by omega) _
 have hsz:=hostC_size (fourH [x,y,z,u]) rfl
 have hon:=hostC_one (fourH [x,y,z,u])
 have HFH:Hid (hostV (fourH [x,y,z,u])=.agg (hostC (fourH [x,y,z,u]))):=rfl
 have hz:w.heap.size+1+1<wA.heap.size:=hL2.out.lt
 generalize hostC (fourH [x,y,z,u])=HC at hcp HL3 HL4 HB2 hsz hon HFH
 clear hrow hcl hcs hL0 hL1 hL2 hB hu5 hL0d hL1d hL2d
 go_region
 generalize wA.drew.setRow (w.heap.size+1+1) HC=wB at HL3 HL4 HB2 ⊢
 have hz2:=HL3.out.lt
 clear hcp
 go_wp2_with (first|(refine wpList_load_row rfl 28 _ rfl (w.heap.size+1+1) rfl HC 28 _ HL3.out Tryz.underlying28 rfl (by rw[hsz];exact infoHo) ?_)|(refine wpList_store_row rfl 28 _ _ rfl (w.heap.size+1) rfl _ HC rfl 28 HL4.out (by rw[hsz];exact infoHo) (by rw[hsz];rfl) hon rfl ?_))
 exact bodyPost_ret (results_row (p:=2) (by kernel_rfl) _ _ (w.heap.size+1) 28 _ (0,0) _ rfl (HL4.out.row _) Tryz.underlying28 rfl (by rw[hsz];exact infoHo)) rfl ⟨by rw[HFH.out],below_row HB2.out (by omega) _⟩
open Go.RowKit
theorem ret_host {P:Program} {fn:Func} {p q:Tmp} (h:fn.results=#[.cell p 28,.cell q 35]) (hu1:P.underlying 28=Tryz.prog.underlying 28) (hu2:P.underlying 35=Tryz.prog.underlying 35) (hi1:P.info? 28=Tryz.prog.info? 28) (hi2:P.info? 35=Tryz.prog.info? 35) (tmps:Array Value) (w:World) (g1 g2:Nat) (x:Ho) (hx:x.a.length=16) (e:Nat×Nat)
  (hp:tmps.getD p undef=.pointer (some ⟨g1,0,none⟩)) (hq:tmps.getD q undef=.pointer (some ⟨g2,0,none⟩)) (hg1:Lies w g1 (hostC x) 28) (hg2:Lies w g2 (spotV e) 35):
  (results fn tmps).run P w=.ok (.tuple #[hostV x,.agg (spotV e)]) w:=
 results_two h tmps w g1 g2 28 35 (hostC x) (spotV e) (0,0) (0,0) _ _ hp hq hg1 hg2 (hu1.trans Tryz.underlying28) rfl (by rw[hi1,hostC_size x hx];exact infoHo) (hu2.trans Tryz.underlying35) rfl (by rw[hi2];exact infoSp)
theorem told_len {p:Nat} {h:Ho} {e:Nat×Nat} (ha:h.a.length=16):(told p h e).1.a.length=16:=by
 unfold told
 split
 ·exact ha
 ·rfl
theorem oper_store_row {P:Program} {op:Oper} {a:Act} {w:World} {K:Act→World→Prop} {Q:Exit→Act→World→Prop} (ty:TypeId) (x y:Operand) (ho:op.op=.store ty x y)
  (g:Nat) (hx:a.eval x=.pointer (some ⟨g,0,none⟩)) (old cs:Array Value) (hy:a.eval y=.agg cs) (t:TypeId) (hc:Lies w g old t)
  (hi:(P.info? ty).map (·.size)=some cs.size) (hs:old.size=cs.size) (h1:cs.all (·.oneCell')=true) (hdst:op.dst=none) (h:K a (w.setRow g cs)):op.wp P a w K Q:=by
 unfold Oper.wp execOp
 simp only[ho,hx,hy,Instr.storeAt,Instr.sureAddr,Sem.run_bind,Sem.run_pure,Result.andThen_ok,run_storeVar_row w g t ty old cs hc hi hs h1]
 have e:a.put op.dst undef=a:=by rw[hdst];rfl
 exact(show K (a.put op.dst undef) (w.setRow g cs) from by rw[e];exact h)
set_option maxHeartbeats 4000000 in
set_option maxRecDepth 100000 in
theorem told_any (h:Ho) (ha:h.a.length=16) (e:Nat×Nat) (b p:Nat) (w:World) (hc:w.cell? ⟨b,0,none⟩=some (.int .i64 (p:Nat))) (hp:p+e.2≤1000000000000000):
  Calls Tryz.prog 104 #[hostV h,.agg (spotV e),.pointer (some ⟨b,0,none⟩)] w fun en w'=>en=.returned (.tuple #[hostV (told p h e).1,.agg (spotV (told p h e).2)])∧Below w.heap.size w w':=by
 have hb:b<w.heap.size:=World.block_lt_of_cell? w _ hc
 have hsz:=hostC_size h ha
 have hon:=hostC_one h
 obtain⟨HC,hHC⟩:∃HC,HC=hostC h:=⟨_,rfl⟩
 have e1:hostV h=.agg HC:=by rw[hHC];rfl
 have L0:Hid (Lies ((((w.alloc (.cells HC 28)).alloc (.cells #[.int .i64 (e.1:Nat),.int .i64 (e.2:Nat)] 35)).alloc (.cells #[.int .i64 0,.string ⟨#[]⟩,.int .u8 0,.int .u8 0,.int .u8 0,.int .u8 0,.int .u8 0,.int .u8 0,.int .u8 0,.int .u8 0,.int .u8 0,.int .u8 0,.int .u8 0,.int .u8 0,.int .u8 0,.int .u8 0,.int .u8 0,.int .u8 0] 28)).alloc (.cells #[.int .i64 0,.int .i64 0] 35)) w.heap.size HC 28):=(((Lies.new w _ _).alloc _).alloc _).alloc _
 have L1:Hid (Lies ((((w.alloc (.cells HC 28)).alloc (.cells #[.int .i64 (e.1:Nat),.int .i64 (e.2:Nat)] 35)).alloc (.cells #[.int .i64 0,.string ⟨#[]⟩,.int .u8 0,.int .u8 0,.int .u8 0,.int .u8 0,.int .u8 0,.int .u8 0,.int .u8 0,.int .u8 0,.int .u8 0,.int .u8 0,.int .u8 0,.int .u8 0,.int .u8 0,.int .u8 0,.int .u8 0,.int .u8 0] 28)).alloc (.cells #[.int .i64 0,.int .i64 0] 35)) (w.heap.size+1) #[.int .i64 (e.1:Nat),.int .i64 (e.2:Nat)] 35):=((new_one w _ _ _).alloc _).alloc _
 have L2:Hid (Lies ((((w.alloc (.cells HC 28)).alloc (.cells #[.int .i64 (e.1:Nat),.int .i64 (e.2:Nat)] 35)).alloc (.cells #[.int .i64 0,.string ⟨#[]⟩,.int .u8 0,.int .u8 0,.int .u8 0,.int .u8 0,.int .u8 0,.int .u8 0,.int .u8 0,.int .u8 0,.int .u8 0,.int .u8 0,.int .u8 0,.int .u8 0,.int .u8 0,.int .u8 0,.int .u8 0,.int .u8 0] 28)).alloc (.cells #[.int .i64 0,.int .i64 0] 35)) (w.heap.size+2) #[.int .i64 0,.string ⟨#[]⟩,.int .u8 0,.int .u8 0,.int .u8 0,.int .u8 0,.int .u8 0,.int .u8 0,.int .u8 0,.int .u8 0,.int .u8 0,.int .u8 0,.int .u8 0,.int .u8 0,.int .u8 0,.int .u8 0,.int .u8 0,.int .u8 0] 28):=(new_two w _ _ _ _).alloc _
 have L3x:(Lies ((((w.alloc (.cells HC 28)).alloc (.cells #[.int .i64 (e.1:Nat),.int .i64 (e.2:Nat)] 35)).alloc (.cells #[.int .i64 0,.string ⟨#[]⟩,.int .u8 0,.int .u8 0,.int .u8 0,.int .u8 0,.int .u8 0,.int .u8 0,.int .u8 0,.int .u8 0,.int .u8 0,.int .u8 0,.int .u8 0,.int .u8 0,.int .u8 0,.int .u8 0,.int .u8 0,.int .u8 0] 28)).alloc (.cells #[.int .i64 0,.int .i64 0] 35)) (w.heap.size+3) #[.int .i64 0,.int .i64 0] 35):=by
  have:=Lies.new (((w.alloc (.cells HC 28)).alloc (.cells #[.int .i64 (e.1:Nat),.int .i64 (e.2:Nat)] 35)).alloc (.cells #[.int .i64 0,.string ⟨#[]⟩,.int .u8 0,.int .u8 0,.int .u8 0,.int .u8 0,.int .u8 0,.int .u8 0,.int .u8 0,.int .u8 0,.int .u8 0,.int .u8 0,.int .u8 0,.int .u8 0,.int .u8 0,.int .u8 0,.int .u8 0,.int .u8 0] 28)) #[.int .i64 0,.int .i64 0] 35
  simpa using this
 have L3x:(Lies ((((w.alloc (.cells HC 28)).alloc (.cells #[.int .i64 (e.1:Nat),.int .i64 (e.2:Nat)] 35)).alloc (.cells #[.int .i64 0,.string ⟨#[]⟩,.int .u8 0,.int .u8 0,.int .u8 0,.int .u8 0,.int .u8 0,.int .u8 0,.int .u8 0,.int .u8 0,.int .u8 0,.int .u8 0,.int .u8 0,.int .u8 0,.int .u8 0,.int .u8 0,.int .u8 0,.int .u8 0] 28)).alloc (.cells #[.int .i64 0,.int .i64 0] 35)) (w.heap.size+3) #[.int .i64 0,.int .i64 0] 35):=L3x
 clear L3x
 have L3:Hid (Lies ((((w.alloc (.cells HC 28)).alloc (.cells #[.int .i64 (e.1:Nat),.int .i64 (e.2:Nat)] 35)).alloc (.cells #[.int .i64 0,.string ⟨#[]⟩,.int .u8 0,.int .u8 0,.int .u8 0,.int .u8 0,.int .u8 0,.int .u8 0,.int .u8 0,.int .u8 0,.int .u8 0,.int .u8 0,.int .u8 0,.int .u8 0,.int .u8 0,.int .u8 0,.int .u8 0,.int .u8 0] 28)).alloc (.cells #[.int .i64 0,.int .i64 0] 35)) (w.heap.size+3) #[.int .i64 0,.int .i64 0] 35):=L3x
 clear L3x
 have HB:Hid (Below w.heap.size w ((((w.alloc (.cells HC 28)).alloc (.cells #[.int .i64 (e.1:Nat),.int .i64 (e.2:Nat)] 35)).alloc (.cells #[.int .i64 0,.string ⟨#[]⟩,.int .u8 0,.int .u8 0,.int .u8 0,.int .u8 0,.int .u8 0,.int .u8 0,.int .u8 0,.int .u8 0,.int .u8 0,.int .u8 0,.int .u8 0,.int .u8 0,.int .u8 0,.int .u8 0,.int .u8 0,.int .u8 0] 28)).alloc (.cells #[.int .i64 0,.int .i64 0] 35))):=((((Below.refl _ _).alloc (Nat.le_refl _) _).alloc (by simp) _).alloc (by simp;omega) _).alloc (by simp;omega) _
 rw[e1]
 unfold spotV
 rw[←hHC]at hsz hon
 have HHC:Hid (HC=hostC h):=hHC
 clear hHC e1
 go_enter Tryz.func104,Tryz.ntmps104
 go_upto_region 1 with fail
 generalize (((w.alloc (.cells HC 28)).alloc (.cells #[.int .i64 (e.1:Nat),.int .i64 (e.2:Nat)] 35)).alloc (.cells #[.int .i64 0,.string ⟨#[]⟩,.int .u8 0,.int .u8 0,.int .u8 0,.int .u8 0,.int .u8 0,.int .u8 0,.int .u8 0,.int .u8 0,.int .u8 0,.int .u8 0,.int .u8 0,.int .u8 0,.int .u8 0,.int .u8 0,.int .u8 0,.int .u8 0] 28)).alloc (.cells #[.int .i64 0,.int .i64 0] 35)=wA at L0 L1 L2 L3 HB ⊢
 have hc1:=L1.out.cell 0
 have hc2:=L1.out.cell 1
 simp at hc1 hc2
 have hcb:wA.cell? ⟨b,0,none⟩=some (.int .i64 (p:Int)):=(HB.out.cell (p:=⟨b,0,none⟩) hb).trans hc
 have hz:=L3.out.lt
 clear hc
 by_cases h0:e.1=0
 ·have HV:Hid (told p h e=(h,(0,0))):=by show _=_;unfold told;rw[if_pos h0]
  have h0':((e.1:Int)==0)=true:=by rw[beq_iff_eq];omega
  go_wp2_with (first|(refine wpList_load_row rfl 28 _ rfl w.heap.size rfl HC 28 _ L0.out Tryz.underlying28 rfl (by rw[hsz];exact infoHo) ?_)|(refine wpList_store_row rfl 28 _ _ rfl (w.heap.size+2) rfl _ HC rfl 28 L2.out (by rw[hsz];exact infoHo) (by rw[hsz];rfl) hon rfl ?_)|(refine wpList_store_row rfl 35 _ _ rfl (w.heap.size+3) rfl _ #[.int .i64 0,.int .i64 0] rfl 35 (L3.out.row_other (by omega) _) infoSp rfl (by simp[Value.oneCell']) rfl ?_))
  refine bodyPost_ret (ret_host (x:=h) (e:=(0,0)) (p:=5) (q:=6) (by kernel_rfl) rfl rfl rfl rfl _ _ (w.heap.size+2) (w.heap.size+3) ha rfl rfl ?_ ?_) rfl ⟨by rw[HV.out];rfl,below_row (below_row HB.out (by omega) _) (by omega) _⟩
  ·rw[←HHC.out]
   exact(L2.out.row _).row_other (by omega) _
  ·exact(L3.out.row_other (by omega) _).row _
 ·have HV:Hid (told p h e=(ho0,(e.1,p+e.2))):=by show _=_;unfold told;rw[if_neg h0]
  have h0':((e.1:Int)==0)=false:=by rw[beq_eq_false_iff_ne];omega
  have hsum:(p:Int)+(e.2:Int)≤1000000000000000:=by omega
  clear h0
  go_wp2_with fail
  have HSV:Hid (∀wx,Below wA.heap.size wA wx∨(∃cs ds,wx=(wA.drew.setRow (w.heap.size+2) cs).setRow (w.heap.size+3) ds)∨(∃cs,wx=wA.drew.setRow (w.heap.size+2) cs)→wx.cell? ⟨w.heap.size+1,0,none⟩=some (.int .i64 (e.1:Int))∧wx.cell? ⟨w.heap.size+1,1,none⟩=some (.int .i64 (e.2:Int))∧wx.cell? ⟨b,0,none⟩=some (.int .i64 (p:Int))):=fun wx hwx=>by
   have hBx:Below (w.heap.size+2) wA wx:=by
    rcases hwx with hwx|⟨cs,ds,rfl⟩|⟨cs,rfl⟩
    ·exact hwx.mono (by omega)
    ·exact below_row (below_row ((Below.refl _ wA).drew) (Nat.le_refl _) _) (by omega) _
    ·exact below_row ((Below.refl _ wA).drew) (Nat.le_refl _) _
   exact⟨(hBx.cell (p:=⟨w.heap.size+1,0,none⟩) (by show w.heap.size+1<w.heap.size+2;omega)).trans hc1,(hBx.cell (p:=⟨w.heap.size+1,1,none⟩) (by show w.heap.size+1<w.heap.size+2;omega)).trans hc2,(hBx.cell (p:=⟨b,0,none⟩) (by show b<w.heap.size+2;omega)).trans hcb⟩
  have hwr:IntKind.i64.wrap ((p:Int)+(e.2:Int))=(p:Int)+(e.2:Int):=by
   rw[IntKind.wrap_i64]
   omega
  refine wp_region_late (fun wx=>wx.cell? ⟨w.heap.size+1,0,none⟩=some (.int .i64 (e.1:Int))∧wx.cell? ⟨w.heap.size+1,1,none⟩=some (.int .i64 (e.2:Int))∧wx.cell? ⟨b,0,none⟩=some (.int .i64 (p:Int))) 10 (by kernel_rfl) ⟨hc1,hc2,hcb⟩ (fun hHeld=>?_)
  refine wpAnyE_tk (i:=0) (d:=some 10) (v:=.agg #[.int .i64 0,.string ⟨#[]⟩,.int .u8 0,.int .u8 0,.int .u8 0,.int .u8 0,.int .u8 0,.int .u8 0,.int .u8 0,.int .u8 0,.int .u8 0,.int .u8 0,.int .u8 0,.int .u8 0,.int .u8 0,.int .u8 0,.int .u8 0,.int .u8 0]) rfl (by kernel_rfl) (by kernel_rfl) (by kernel_rfl) rfl (fun _ _ _ h=>h) rfl rfl ?hy (by first|assumption|go_simp) ?_
  case hy=>(intro w' hSw;(try dsimp only at hSw);go_simp<;>(first|with_reducible rfl|omega|skip))
  simp only[Act.put,pA,pB,pC]
  refine wpAnyE_tk (i:=1) (d:=some 11) (v:=?_) rfl (by kernel_rfl) (by kernel_rfl) (by kernel_rfl) rfl (fun _ _ _ h=>h) rfl rfl ?hy (by first|assumption|go_simp) ?_
  case hy=>(intro w' hSw;(try dsimp only at hSw);go_simp<;>(first|with_reducible rfl|omega|skip))
  simp only[Act.put,pA,pB,pC]
  refine wpAnyE_tk (i:=2) (d:=some 12) (v:=?_) rfl (by kernel_rfl) (by kernel_rfl) (by kernel_rfl) rfl (fun _ _ _ h=>h) rfl rfl ?hy (by first|assumption|go_simp) ?_
  case hy=>(intro w' hSw;(try dsimp only at hSw);go_simp<;>(first|with_reducible rfl|omega|skip))
  simp only[Act.put,pA,pB,pC]
  refine wpAnyE_tk (i:=3) (d:=some 13) (v:=?_) rfl (by kernel_rfl) (by kernel_rfl) (by kernel_rfl) rfl (fun _ _ _ h=>h) rfl rfl ?hy (by first|assumption|go_simp) ?_
  case hy=>(intro w' hSw;(try dsimp only at hSw);go_simp<;>(first|with_reducible rfl|omega|skip))
  simp only[Act.put,pA,pB,pC]
  refine wpAnyE_tk (i:=4) (d:=some 14) (v:=?_) rfl (by kernel_rfl) (by kernel_rfl) (by kernel_rfl) rfl (fun _ _ _ h=>h) rfl rfl ?hy (by first|assumption|go_simp) ?_
  case hy=>(intro w' hSw;(try dsimp only at hSw);go_simp<;>(first|with_reducible rfl|omega|skip))
  simp only[Act.put,pA,pB,pC]
  refine wpAnyE_tk (i:=5) (d:=some 15) (v:=?_) rfl (by kernel_rfl) (by kernel_rfl) (by kernel_rfl) rfl (fun _ _ _ h=>h) rfl rfl ?hy (by first|assumption|go_simp) ?_
  case hy=>(intro w' hSw;(try dsimp only at hSw);go_simp<;>(first|with_reducible rfl|omega|skip))
  simp only[Act.put,pA,pB,pC]
  refine wpAnyE_tk (i:=6) (d:=some 16) (v:=.int .i64 ((p:Int)+(e.2:Int))) rfl (by kernel_rfl) (by kernel_rfl) (by kernel_rfl) rfl (fun _ _ _ h=>h) rfl rfl ?hy (by first|assumption|go_simp) ?_
  case hy=>(intro w' hSw;(try dsimp only at hSw);go_simp<;>(first|with_reducible rfl|omega|skip))
  simp only[Act.put,pA,pB,pC]
  refine wpAnyE_tk (i:=7) (d:=some 17) (v:=?_) rfl (by kernel_rfl) (by kernel_rfl) (by kernel_rfl) rfl (fun _ _ _ h=>h) rfl rfl ?hy (by first|assumption|go_simp) ?_
  case hy=>(intro w' hSw;(try dsimp only at hSw);go_simp<;>(first|with_reducible rfl|omega|skip))
  simp only[Act.put,pA,pB,pC]
  refine on9 8 ?_
  refine oper_store_row 28 _ _ rfl (w.heap.size+2) rfl #[.int .i64 0,.string ⟨#[]⟩,.int .u8 0,.int .u8 0,.int .u8 0,.int .u8 0,.int .u8 0,.int .u8 0,.int .u8 0,.int .u8 0,.int .u8 0,.int .u8 0,.int .u8 0,.int .u8 0,.int .u8 0,.int .u8 0,.int .u8 0,.int .u8 0] #[.int .i64 0,.string ⟨#[]⟩,.int .u8 0,.int .u8 0,.int .u8 0,.int .u8 0,.int .u8 0,.int .u8 0,.int .u8 0,.int .u8 0,.int .u8 0,.int .u8 0,.int .u8 0,.int .u8 0,.int .u8 0,.int .u8 0,.int .u8 0,.int .u8 0] rfl 28 L2.out infoHo rfl (by simp[Value.oneCell']) rfl ?_
  refine⟨Or.inr (HSV.out _ (Or.inr (Or.inr ⟨_,rfl⟩))),?_⟩
  refine on9 9 ?_
  refine oper_store_row 35 _ _ rfl (w.heap.size+3) rfl #[.int .i64 0,.int .i64 0] #[.int .i64 (e.1:Int),.int .i64 ((p:Int)+(e.2:Int))] rfl 35 (L3.out.row_other (by omega) _) infoSp rfl (by simp[Value.oneCell']) rfl ?_
  refine⟨Or.inr (HSV.out _ (Or.inr (Or.inl ⟨_,_,rfl⟩))),?_⟩
  refine wpAnyE_done (by kernel_rfl) ?_ _
  clear hHeld
  go_wp2
  refine bodyPost_ret (ret_host (x:=ho0) (e:=(e.1,p+e.2)) (p:=5) (q:=6) (by kernel_rfl) rfl rfl rfl rfl _ _ (w.heap.size+2) (w.heap.size+3) rfl rfl rfl ?_ ?_) rfl ⟨by rw[HV.out];rfl,below_row (below_row HB.out.drew (by omega) _) (by omega) _⟩
  ·exact(L2.out.row _).row_other (by omega) _
  ·exact(L3.out.row_other (by omega) _).row _
end Go.Proofs.YtfjpkfhbmldmfabGreatDoor
