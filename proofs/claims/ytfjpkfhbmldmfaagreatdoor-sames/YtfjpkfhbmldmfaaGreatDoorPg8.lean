/-
  The contracts of domain.fourthHost and of literal's told.
-/
import Derived.Test.YtfjpkfhbmldmfaaGreatDoorWt8
import Derived.Test.YtfjpkfhbmldmfaaGreatDoorDmR
import Derived.Deep.DeepCutAuto
import Derived.Test.YtfjpkfhbmldmfaaGreatDoorLate5
import Derived.Test.YtfjpkfhbmldmfaaGreatDoorWd8
import Derived.Lib.Walk
import Derived.Lib.IfaceEq
namespace Go.Proofs.YtfjpkfhbmldmfaaGreatDoor
open Go.RowKit
theorem infoHo:(Tryz.prog.info? 25).map (·.size)=some 18:=by kernel_rfl
def hostC (h:Ho):Array Value:=(Value.int .i64 h.k::Value.string ⟨h.n.toArray⟩::h.a.map fun n=>Value.int .u8 (n:Nat)).toArray
def hostV (h:Ho):Value:=.agg (hostC h)
theorem hostC_size (h:Ho) (ha:h.a.length=16):(hostC h).size=18:=by simp[hostC,ha]
theorem hostC_one (h:Ho):(hostC h).all (·.oneCell')=true:=by
 rw[Array.all_eq_true_iff_forall_mem]
 intro v hv
 unfold hostC at hv
 rw[List.mem_toArray]at hv
 rcases List.mem_cons.1 hv with rfl|hv
 ·rfl
 ·rcases List.mem_cons.1 hv with rfl|hv
  ·rfl
  ·obtain⟨n,_,rfl⟩:=List.mem_map.1 hv
   rfl
set_option maxHeartbeats 4000000 in
set_option maxRecDepth 100000 in
theorem fh_any (x y z u:Nat) (w:World):Calls Tryz.prog 102 #[.agg (bytesV [x,y,z,u])] w fun e w'=>e=.returned (hostV (fourH [x,y,z,u]))∧Below w.heap.size w w':=by
 have hu5:(Tryz.prog.info? 5).map (·.size)=some 1:=by kernel_rfl
 have hL0:Hid (Lies (((w.alloc (.cells (bytesV [x,y,z,u]) 108)).alloc (.cells #[.int .i64 0,.string ⟨#[]⟩,.int .u8 0,.int .u8 0,.int .u8 0,.int .u8 0,.int .u8 0,.int .u8 0,.int .u8 0,.int .u8 0,.int .u8 0,.int .u8 0,.int .u8 0,.int .u8 0,.int .u8 0,.int .u8 0,.int .u8 0,.int .u8 0] 25)).alloc (.cells #[.int .i64 2,.string ⟨#[]⟩,.int .u8 0,.int .u8 0,.int .u8 0,.int .u8 0,.int .u8 0,.int .u8 0,.int .u8 0,.int .u8 0,.int .u8 0,.int .u8 0,.int .u8 0,.int .u8 0,.int .u8 0,.int .u8 0,.int .u8 0,.int .u8 0] 25)) w.heap.size (bytesV [x,y,z,u]) 108):=((Lies.new w _ _).alloc _).alloc _
 have hL1:Hid (Lies (((w.alloc (.cells (bytesV [x,y,z,u]) 108)).alloc (.cells #[.int .i64 0,.string ⟨#[]⟩,.int .u8 0,.int .u8 0,.int .u8 0,.int .u8 0,.int .u8 0,.int .u8 0,.int .u8 0,.int .u8 0,.int .u8 0,.int .u8 0,.int .u8 0,.int .u8 0,.int .u8 0,.int .u8 0,.int .u8 0,.int .u8 0] 25)).alloc (.cells #[.int .i64 2,.string ⟨#[]⟩,.int .u8 0,.int .u8 0,.int .u8 0,.int .u8 0,.int .u8 0,.int .u8 0,.int .u8 0,.int .u8 0,.int .u8 0,.int .u8 0,.int .u8 0,.int .u8 0,.int .u8 0,.int .u8 0,.int .u8 0,.int .u8 0] 25)) (w.heap.size+1) #[.int .i64 0,.string ⟨#[]⟩,.int .u8 0,.int .u8 0,.int .u8 0,.int .u8 0,.int .u8 0,.int .u8 0,.int .u8 0,.int .u8 0,.int .u8 0,.int .u8 0,.int .u8 0,.int .u8 0,.int .u8 0,.int .u8 0,.int .u8 0,.int .u8 0] 25):=(new_one w _ _ _).alloc _
 have hL2:Hid (Lies (((w.alloc (.cells (bytesV [x,y,z,u]) 108)).alloc (.cells #[.int .i64 0,.string ⟨#[]⟩,.int .u8 0,.int .u8 0,.int .u8 0,.int .u8 0,.int .u8 0,.int .u8 0,.int .u8 0,.int .u8 0,.int .u8 0,.int .u8 0,.int .u8 0,.int .u8 0,.int .u8 0,.int .u8 0,.int .u8 0,.int .u8 0] 25)).alloc (.cells #[.int .i64 2,.string ⟨#[]⟩,.int .u8 0,.int .u8 0,.int .u8 0,.int .u8 0,.int .u8 0,.int .u8 0,.int .u8 0,.int .u8 0,.int .u8 0,.int .u8 0,.int .u8 0,.int .u8 0,.int .u8 0,.int .u8 0,.int .u8 0,.int .u8 0] 25)) (w.heap.size+1+1) #[.int .i64 2,.string ⟨#[]⟩,.int .u8 0,.int .u8 0,.int .u8 0,.int .u8 0,.int .u8 0,.int .u8 0,.int .u8 0,.int .u8 0,.int .u8 0,.int .u8 0,.int .u8 0,.int .u8 0,.int .u8 0,.int .u8 0,.int .u8 0,.int .u8 0] 25):=new_two w _ _ _ _
 have hB:Hid (Below w.heap.size w (((w.alloc (.cells (bytesV [x,y,z,u]) 108)).alloc (.cells #[.int .i64 0,.string ⟨#[]⟩,.int .u8 0,.int .u8 0,.int .u8 0,.int .u8 0,.int .u8 0,.int .u8 0,.int .u8 0,.int .u8 0,.int .u8 0,.int .u8 0,.int .u8 0,.int .u8 0,.int .u8 0,.int .u8 0,.int .u8 0,.int .u8 0] 25)).alloc (.cells #[.int .i64 2,.string ⟨#[]⟩,.int .u8 0,.int .u8 0,.int .u8 0,.int .u8 0,.int .u8 0,.int .u8 0,.int .u8 0,.int .u8 0,.int .u8 0,.int .u8 0,.int .u8 0,.int .u8 0,.int .u8 0,.int .u8 0,.int .u8 0,.int .u8 0] 25))):=(((Below.refl _ _).alloc (Nat.le_refl _) _).alloc (by simp) _).alloc (by simp;omega) _
 go_enter Tryz.func102,Tryz.ntmps102
 go_wp2_with fail
 generalize ((w.alloc (.cells (bytesV [x,y,z,u]) 108)).alloc (.cells #[.int .i64 0,.string ⟨#[]⟩,.int .u8 0,.int .u8 0,.int .u8 0,.int .u8 0,.int .u8 0,.int .u8 0,.int .u8 0,.int .u8 0,.int .u8 0,.int .u8 0,.int .u8 0,.int .u8 0,.int .u8 0,.int .u8 0,.int .u8 0,.int .u8 0] 25)).alloc (.cells #[.int .i64 2,.string ⟨#[]⟩,.int .u8 0,.int .u8 0,.int .u8 0,.int .u8 0,.int .u8 0,.int .u8 0,.int .u8 0,.int .u8 0,.int .u8 0,.int .u8 0,.int .u8 0,.int .u8 0,.int .u8 0,.int .u8 0,.int .u8 0,.int .u8 0] 25)=wA at hL0 hL1 hL2 hB ⊢
 obtain⟨cs,hcs⟩:∃cs:List Value,cs=[.int .u8 (x:Nat),.int .u8 (y:Nat),.int .u8 (z:Nat),.int .u8 (u:Nat)]:=⟨_,rfl⟩
 have hL2d:Lies wA.drew (w.heap.size+1+1) #[.int .i64 2,.string ⟨#[]⟩,.int .u8 0,.int .u8 0,.int .u8 0,.int .u8 0,.int .u8 0,.int .u8 0,.int .u8 0,.int .u8 0,.int .u8 0,.int .u8 0,.int .u8 0,.int .u8 0,.int .u8 0,.int .u8 0,.int .u8 0,.int .u8 0] 25:=hL2.out
 have hL0d:Lies wA.drew w.heap.size (bytesV [x,y,z,u]) 108:=hL0.out
 have hL1d:Lies wA.drew (w.heap.size+1) #[.int .i64 0,.string ⟨#[]⟩,.int .u8 0,.int .u8 0,.int .u8 0,.int .u8 0,.int .u8 0,.int .u8 0,.int .u8 0,.int .u8 0,.int .u8 0,.int .u8 0,.int .u8 0,.int .u8 0,.int .u8 0,.int .u8 0,.int .u8 0,.int .u8 0] 25:=hL1.out
 have hcp:=run_copy_row (P:=Tryz.prog) wA.drew 98 98 3 5 (w.heap.size+1+1) 2 16 16 ⟨w.heap.size,0,none⟩ 4 4 #[.int .i64 2,.string ⟨#[]⟩,.int .u8 0,.int .u8 0,.int .u8 0,.int .u8 0,.int .u8 0,.int .u8 0,.int .u8 0,.int .u8 0,.int .u8 0,.int .u8 0,.int .u8 0,.int .u8 0,.int .u8 0,.int .u8 0,.int .u8 0,.int .u8 0] 25 cs Tryz.underlying98 hu5 hL2d (by rw[hcs];rfl) (fun j v hv=>by
  rw[Addr.add_lit,Nat.zero_add,hL0d.cell]
  rw[hcs]at hv
  unfold bytesV
  rw[List.getElem?_toArray]
  exact hv) (by rw[hcs];simp) (fun v hv=>by
  rw[hcs]at hv
  simp at hv
  rcases hv with rfl|rfl|rfl|rfl<;>rfl)
 have hrow:(((#[.int .i64 2,.string ⟨#[]⟩,.int .u8 0,.int .u8 0,.int .u8 0,.int .u8 0,.int .u8 0,.int .u8 0,.int .u8 0,.int .u8 0,.int .u8 0,.int .u8 0,.int .u8 0,.int .u8 0,.int .u8 0,.int .u8 0,.int .u8 0,.int .u8 0]:Array Value).toList.take 2++cs++(#[.int .i64 2,.string ⟨#[]⟩,.int .u8 0,.int .u8 0,.int .u8 0,.int .u8 0,.int .u8 0,.int .u8 0,.int .u8 0,.int .u8 0,.int .u8 0,.int .u8 0,.int .u8 0,.int .u8 0,.int .u8 0,.int .u8 0,.int .u8 0,.int .u8 0]:Array Value).toList.drop (2+cs.length)).toArray)=hostC (fourH [x,y,z,u]):=by rw[hcs];rfl
 have hcl:cs.length=4:=by rw[hcs];rfl
 rw[hrow,hcl]at hcp
 have HL3:Hid (Lies (wA.drew.setRow (w.heap.size+1+1) (hostC (fourH [x,y,z,u]))) (w.heap.size+1+1) (hostC (fourH [x,y,z,u])) 25):=hL2d.row _
 have HL4:Hid (Lies (wA.drew.setRow (w.heap.size+1+1) (hostC (fourH [x,y,z,u]))) (w.heap.size+1) #[.int .i64 0,.string ⟨#[]⟩,.int .u8 0,.int .u8 0,.int .u8 0,.int .u8 0,.int .u8 0,.int .u8 0,.int .u8 0,.int .u8 0,.int .u8 0,.int .u8 0,.int .u8 0,.int .u8 0,.int .u8 0,.int .u8 0,.int .u8 0,.int .u8 0] 25):=hL1d.row_other (show w.heap.size+1≠w.heap.size+1+1 by omega) _
 have HB2:Hid (Below w.heap.size w (wA.drew.setRow (w.heap.size+1+1) (hostC (fourH [x,y,z,u])))):=below_row hB.out.drew (show w.heap.size≤w.heap.size+1+1 by omega) _
 have hsz:=hostC_size (fourH [x,y,z,u]) rfl
 have hon:=hostC_one (fourH [x,y,z,u])
 have HFH:Hid (hostV (fourH [x,y,z,u])=.agg (hostC (fourH [x,y,z,u]))):=rfl
 have hz:w.heap.size+1+1<wA.heap.size:=hL2.out.lt
 generalize hostC (fourH [x,y,z,u])=HC at hcp HL3 HL4 HB2 hsz hon HFH
 clear hrow hcl hcs hL0 hL1 hL2 hB hu5 hL0d hL1d hL2d
 go_region
 generalize wA.drew.setRow (w.heap.size+1+1) HC=wB at HL3 HL4 HB2 ⊢
 have hz2:=HL3.out.lt
 clear hcp
 go_wp2_with (first|(refine wpList_load_row rfl 25 _ rfl (w.heap.size+1+1) rfl HC 25 _ HL3.out Tryz.underlying25 rfl (by rw[hsz];exact infoHo) ?_)|(refine wpList_store_row rfl 25 _ _ rfl (w.heap.size+1) rfl _ HC rfl 25 HL4.out (by rw[hsz];exact infoHo) (by rw[hsz];rfl) hon rfl ?_))
 exact bodyPost_ret (results_row (p:=2) (by kernel_rfl) _ _ (w.heap.size+1) 25 _ (0,0) _ rfl (HL4.out.row _) Tryz.underlying25 rfl (by rw[hsz];exact infoHo)) rfl ⟨by rw[HFH.out],below_row HB2.out (by omega) _⟩
open Go.RowKit
theorem ret_host {P:Program} {fn:Func} {p q:Tmp} (h:fn.results=#[.cell p 25,.cell q 32]) (hu1:P.underlying 25=Tryz.prog.underlying 25) (hu2:P.underlying 32=Tryz.prog.underlying 32) (hi1:P.info? 25=Tryz.prog.info? 25) (hi2:P.info? 32=Tryz.prog.info? 32) (tmps:Array Value) (w:World) (g1 g2:Nat) (x:Ho) (hx:x.a.length=16) (e:Nat×Nat)
  (hp:tmps.getD p undef=.pointer (some ⟨g1,0,none⟩)) (hq:tmps.getD q undef=.pointer (some ⟨g2,0,none⟩)) (hg1:Lies w g1 (hostC x) 25) (hg2:Lies w g2 (spotV e) 32):
  (results fn tmps).run P w=.ok (.tuple #[hostV x,.agg (spotV e)]) w:=
 results_two h tmps w g1 g2 25 32 (hostC x) (spotV e) (0,0) (0,0) _ _ hp hq hg1 hg2 (hu1.trans Tryz.underlying25) rfl (by rw[hi1,hostC_size x hx];exact infoHo) (hu2.trans Tryz.underlying32) rfl (by rw[hi2];exact infoSp)
theorem told_len {p:Nat} {h:Ho} {e:Nat×Nat} (ha:h.a.length=16):(told p h e).1.a.length=16:=by
 unfold told
 split
 ·exact ha
 ·rfl
theorem oper_store_row {P:Program} {op:Oper} {a:Act} {w:World} {K:Act→World→Prop} {Q:Exit→Act→World→Prop} (ty:TypeId) (x y:Operand) (ho:op.op=.store ty x y)
  (g:Nat) (hx:a.eval x=.pointer (some ⟨g,0,none⟩)) (old cs:Array Value) (hy:a.eval y=.agg cs) (t:TypeId) (hc:Lies w g old t)
  (hi:(P.info? ty).map (·.size)=some cs.size) (hs:old.size=cs.size) (h1:cs.all (·.oneCell')=true) (hdst:op.dst=none) (h:K a (w.setRow g cs)):op.wp P a w K Q:=by
 unfold Oper.wp execOp
 simp only[ho,hx,hy,Instr.storeAt,Instr.sureAddr,Sem.run_bind,Sem.run_pure,Result.andThen_ok,run_storeVar_row w g t ty old cs hc hi hs h1]
 have e:a.put op.dst undef=a:=by rw[hdst];rfl
 exact(show K (a.put op.dst undef) (w.setRow g cs) from by rw[e];exact h)
set_option maxHeartbeats 4000000 in
set_option maxRecDepth 100000 in
theorem told_any (h:Ho) (ha:h.a.length=16) (e:Nat×Nat) (b p:Nat) (w:World) (hc:w.cell? ⟨b,0,none⟩=some (.int .i64 (p:Nat))) (hp:p+e.2≤1000000000000000):
  Calls Tryz.prog 170 #[hostV h,.agg (spotV e),.pointer (some ⟨b,0,none⟩)] w fun en w'=>en=.returned (.tuple #[hostV (told p h e).1,.agg (spotV (told p h e).2)])∧Below w.heap.size w w':=by
 have hb:b<w.heap.size:=World.block_lt_of_cell? w _ hc
 have hsz:=hostC_size h ha
 have hon:=hostC_one h
 obtain⟨HC,hHC⟩:∃HC,HC=hostC h:=⟨_,rfl⟩
 have e1:hostV h=.agg HC:=by rw[hHC];rfl
 have L0:Hid (Lies ((((w.alloc (.cells HC 25)).alloc (.cells #[.int .i64 (e.1:Nat),.int .i64 (e.2:Nat)] 32)).alloc (.cells #[.int .i64 0,.string ⟨#[]⟩,.int .u8 0,.int .u8 0,.int .u8 0,.int .u8 0,.int .u8 0,.int .u8 0,.int .u8 0,.int .u8 0,.int .u8 0,.int .u8 0,.int .u8 0,.int .u8 0,.int .u8 0,.int .u8 0,.int .u8 0,.int .u8 0] 25)).alloc (.cells #[.int .i64 0,.int .i64 0] 32)) w.heap.size HC 25):=(((Lies.new w _ _).alloc _).alloc _).alloc _
 have L1:Hid (Lies ((((w.alloc (.cells HC 25)).alloc (.cells #[.int .i64 (e.1:Nat),.int .i64 (e.2:Nat)] 32)).alloc (.cells #[.int .i64 0,.string ⟨#[]⟩,.int .u8 0,.int .u8 0,.int .u8 0,.int .u8 0,.int .u8 0,.int .u8 0,.int .u8 0,.int .u8 0,.int .u8 0,.int .u8 0,.int .u8 0,.int .u8 0,.int .u8 0,.int .u8 0,.int .u8 0,.int .u8 0] 25)).alloc (.cells #[.int .i64 0,.int .i64 0] 32)) (w.heap.size+1) #[.int .i64 (e.1:Nat),.int .i64 (e.2:Nat)] 32):=((new_one w _ _ _).alloc _).alloc _
 have L2:Hid (Lies ((((w.alloc (.cells HC 25)).alloc (.cells #[.int .i64 (e.1:Nat),.int .i64 (e.2:Nat)] 32)).alloc (.cells #[.int .i64 0,.string ⟨#[]⟩,.int .u8 0,.int .u8 0,.int .u8 0,.int .u8 0,.int .u8 0,.int .u8 0,.int .u8 0,.int .u8 0,.int .u8 0,.int .u8 0,.int .u8 0,.int .u8 0,.int .u8 0,.int .u8 0,.int .u8 0,.int .u8 0] 25)).alloc (.cells #[.int .i64 0,.int .i64 0] 32)) (w.heap.size+2) #[.int .i64 0,.string ⟨#[]⟩,.int .u8 0,.int .u8 0,.int .u8 0,.int .u8 0,.int .u8 0,.int .u8 0,.int .u8 0,.int .u8 0,.int .u8 0,.int .u8 0,.int .u8 0,.int .u8 0,.int .u8 0,.int .u8 0,.int .u8 0,.int .u8 0] 25):=(new_two w _ _ _ _).alloc _
 have L3x:(Lies ((((w.alloc (.cells HC 25)).alloc (.cells #[.int .i64 (e.1:Nat),.int .i64 (e.2:Nat)] 32)).alloc (.cells #[.int .i64 0,.string ⟨#[]⟩,.int .u8 0,.int .u8 0,.int .u8 0,.int .u8 0,.int .u8 0,.int .u8 0,.int .u8 0,.int .u8 0,.int .u8 0,.int .u8 0,.int .u8 0,.int .u8 0,.int .u8 0,.int .u8 0,.int .u8 0,.int .u8 0] 25)).alloc (.cells #[.int .i64 0,.int .i64 0] 32)) (w.heap.size+3) #[.int .i64 0,.int .i64 0] 32):=by
  have:=Lies.new (((w.alloc (.cells HC 25)).alloc (.cells #[.int .i64 (e.1:Nat),.int .i64 (e.2:Nat)] 32)).alloc (.cells #[.int .i64 0,.string ⟨#[]⟩,.int .u8 0,.int .u8 0,.int .u8 0,.int .u8 0,.int .u8 0,.int .u8 0,.int .u8 0,.int .u8 0,.int .u8 0,.int .u8 0,.int .u8 0,.int .u8 0,.int .u8 0,.int .u8 0,.int .u8 0,.int .u8 0] 25)) #[.int .i64 0,.int .i64 0] 32
  simpa using this
 have L3x:(Lies ((((w.alloc (.cells HC 25)).alloc (.cells #[.int .i64 (e.1:Nat),.int .i64 (e.2:Nat)] 32)).alloc (.cells #[.int .i64 0,.string ⟨#[]⟩,.int .u8 0,.int .u8 0,.int .u8 0,.int .u8 0,.int .u8 0,.int .u8 0,.int .u8 0,.int .u8 0,.int .u8 0,.int .u8 0,.int .u8 0,.int .u8 0,.int .u8 0,.int .u8 0,.int .u8 0,.int .u8 0] 25)).alloc (.cells #[.int .i64 0,.int .i64 0] 32)) (w.heap.size+3) #[.int .i64 0,.int .i64 0] 32):=L3x
 clear L3x
 have L3:Hid (Lies ((((w.alloc (.cells HC 25)).alloc (.cells #[.int .i64 (e.1:Nat),.int .i64 (e.2:Nat)] 32)).alloc (.cells #[.int .i64 0,.string ⟨#[]⟩,.int .u8 0,.int .u8 0,.int .u8 0,.int .u8 0,.int .u8 0,.int .u8 0,.int .u8 0,.int .u8 0,.int .u8 0,.int .u8 0,.int .u8 0,.int .u8 0,.int .u8 0,.int .u8 0,.int .u8 0,.int .u8 0] 25)).alloc (.cells #[.int .i64 0,.int .i64 0] 32)) (w.heap.size+3) #[.int .i64 0,.int .i64 0] 32):=L3x
 clear L3x
 have HB:Hid (Below w.heap.size w ((((w.alloc (.cells HC 25)).alloc (.cells #[.int .i64 (e.1:Nat),.int .i64 (e.2:Nat)] 32)).alloc (.cells #[.int .i64 0,.string ⟨#[]⟩,.int .u8 0,.int .u8 0,.int .u8 0,.int .u8 0,.int .u8 0,.int .u8 0,.int .u8 0,.int .u8 0,.int .u8 0,.int .u8 0,.int .u8 0,.int .u8 0,.int .u8 0,.int .u8 0,.int .u8 0,.int .u8 0] 25)).alloc (.cells #[.int .i64 0,.int .i64 0] 32))):=((((Below.refl _ _).alloc (Nat.le_refl _) _).alloc (by simp) _).alloc (by simp;omega) _).alloc (by simp;omega) _
 rw[e1]
 unfold spotV
 rw[←hHC]at hsz hon
 have HHC:Hid (HC=hostC h):=hHC
 clear hHC e1
 go_enter Tryz.func170,Tryz.ntmps170
 go_upto_region 1 with fail
 generalize (((w.alloc (.cells HC 25)).alloc (.cells #[.int .i64 (e.1:Nat),.int .i64 (e.2:Nat)] 32)).alloc (.cells #[.int .i64 0,.string ⟨#[]⟩,.int .u8 0,.int .u8 0,.int .u8 0,.int .u8 0,.int .u8 0,.int .u8 0,.int .u8 0,.int .u8 0,.int .u8 0,.int .u8 0,.int .u8 0,.int .u8 0,.int .u8 0,.int .u8 0,.int .u8 0,.int .u8 0] 25)).alloc (.cells #[.int .i64 0,.int .i64 0] 32)=wA at L0 L1 L2 L3 HB ⊢
 have hc1:=L1.out.cell 0
 have hc2:=L1.out.cell 1
 simp at hc1 hc2
 have hcb:wA.cell? ⟨b,0,none⟩=some (.int .i64 (p:Int)):=(HB.out.cell (p:=⟨b,0,none⟩) hb).trans hc
 have hz:=L3.out.lt
 clear hc
 by_cases h0:e.1=0
 ·have HV:Hid (told p h e=(h,(0,0))):=by show _=_;unfold told;rw[if_pos h0]
  have h0':((e.1:Int)==0)=true:=by rw[beq_iff_eq];omega
  go_wp2_with (first|(refine wpList_load_row rfl 25 _ rfl w.heap.size rfl HC 25 _ L0.out Tryz.underlying25 rfl (by rw[hsz];exact infoHo) ?_)|(refine wpList_store_row rfl 25 _ _ rfl (w.heap.size+2) rfl _ HC rfl 25 L2.out (by rw[hsz];exact infoHo) (by rw[hsz];rfl) hon rfl ?_)|(refine wpList_store_row rfl 32 _ _ rfl (w.heap.size+3) rfl _ #[.int .i64 0,.int .i64 0] rfl 32 (L3.out.row_other (by omega) _) infoSp rfl (by simp[Value.oneCell']) rfl ?_))
  refine bodyPost_ret (ret_host (x:=h) (e:=(0,0)) (p:=5) (q:=6) (by kernel_rfl) rfl rfl rfl rfl _ _ (w.heap.size+2) (w.heap.size+3) ha rfl rfl ?_ ?_) rfl ⟨by rw[HV.out];rfl,below_row (below_row HB.out (by omega) _) (by omega) _⟩
  ·rw[←HHC.out]
   exact(L2.out.row _).row_other (by omega) _
  ·exact(L3.out.row_other (by omega) _).row _
 ·have HV:Hid (told p h e=(ho0,(e.1,p+e.2))):=by show _=_;unfold told;rw[if_neg h0]
  have h0':((e.1:Int)==0)=false:=by rw[beq_eq_false_iff_ne];omega
  have hsum:(p:Int)+(e.2:Int)≤1000000000000000:=by omega
  clear h0
  go_wp2_with fail
  have HSV:Hid (∀wx,Below wA.heap.size wA wx∨(∃cs ds,wx=(wA.drew.setRow (w.heap.size+2) cs).setRow (w.heap.size+3) ds)∨(∃cs,wx=wA.drew.setRow (w.heap.size+2) cs)→wx.cell? ⟨w.heap.size+1,0,none⟩=some (.int .i64 (e.1:Int))∧wx.cell? ⟨w.heap.size+1,1,none⟩=some (.int .i64 (e.2:Int))∧wx.cell? ⟨b,0,none⟩=some (.int .i64 (p:Int))):=fun wx hwx=>by
   have hBx:Below (w.heap.size+2) wA wx:=by
    rcases hwx with hwx|⟨cs,ds,rfl⟩|⟨cs,rfl⟩
    ·exact hwx.mono (by omega)
    ·exact below_row (below_row ((Below.refl _ wA).drew) (Nat.le_refl _) _) (by omega) _
    ·exact below_row ((Below.refl _ wA).drew) (Nat.le_refl _) _
   exact⟨(hBx.cell (p:=⟨w.heap.size+1,0,none⟩) (by show w.heap.size+1<w.heap.size+2;omega)).trans hc1,(hBx.cell (p:=⟨w.heap.size+1,1,none⟩) (by show w.heap.size+1<w.heap.size+2;omega)).trans hc2,(hBx.cell (p:=⟨b,0,none⟩) (by show b<w.heap.size+2;omega)).trans hcb⟩
  have hwr:IntKind.i64.wrap ((p:Int)+(e.2:Int))=(p:Int)+(e.2:Int):=by
   rw[IntKind.wrap_i64]
   omega
  refine wp_region_late (fun wx=>wx.cell? ⟨w.heap.size+1,0,none⟩=some (.int .i64 (e.1:Int))∧wx.cell? ⟨w.heap.size+1,1,none⟩=some (.int .i64 (e.2:Int))∧wx.cell? ⟨b,0,none⟩=some (.int .i64 (p:Int))) 10 (by kernel_rfl) ⟨hc1,hc2,hcb⟩ (fun hHeld=>?_)
  refine wpAnyE_tk (i:=0) (d:=some 10) (v:=.agg #[.int .i64 0,.string ⟨#[]⟩,.int .u8 0,.int .u8 0,.int .u8 0,.int .u8 0,.int .u8 0,.int .u8 0,.int .u8 0,.int .u8 0,.int .u8 0,.int .u8 0,.int .u8 0,.int .u8 0,.int .u8 0,.int .u8 0,.int .u8 0,.int .u8 0]) rfl (by kernel_rfl) (by kernel_rfl) (by kernel_rfl) rfl (fun _ _ _ h=>h) rfl rfl ?hy (by first|assumption|go_simp) ?_
  case hy=>(intro w' hSw;(try dsimp only at hSw);go_simp<;>(first|with_reducible rfl|omega|skip))
  simp only[Act.put,pA,pB,pC]
  refine wpAnyE_tk (i:=1) (d:=some 11) (v:=?_) rfl (by kernel_rfl) (by kernel_rfl) (by kernel_rfl) rfl (fun _ _ _ h=>h) rfl rfl ?hy (by first|assumption|go_simp) ?_
  case hy=>(intro w' hSw;(try dsimp only at hSw);go_simp<;>(first|with_reducible rfl|omega|skip))
  simp only[Act.put,pA,pB,pC]
  refine wpAnyE_tk (i:=2) (d:=some 12) (v:=?_) rfl (by kernel_rfl) (by kernel_rfl) (by kernel_rfl) rfl (fun _ _ _ h=>h) rfl rfl ?hy (by first|assumption|go_simp) ?_
  case hy=>(intro w' hSw;(try dsimp only at hSw);go_simp<;>(first|with_reducible rfl|omega|skip))
  simp only[Act.put,pA,pB,pC]
  refine wpAnyE_tk (i:=3) (d:=some 13) (v:=?_) rfl (by kernel_rfl) (by kernel_rfl) (by kernel_rfl) rfl (fun _ _ _ h=>h) rfl rfl ?hy (by first|assumption|go_simp) ?_
  case hy=>(intro w' hSw;(try dsimp only at hSw);go_simp<;>(first|with_reducible rfl|omega|skip))
  simp only[Act.put,pA,pB,pC]
  refine wpAnyE_tk (i:=4) (d:=some 14) (v:=?_) rfl (by kernel_rfl) (by kernel_rfl) (by kernel_rfl) rfl (fun _ _ _ h=>h) rfl rfl ?hy (by first|assumption|go_simp) ?_
  case hy=>(intro w' hSw;(try dsimp only at hSw);go_simp<;>(first|with_reducible rfl|omega|skip))
  simp only[Act.put,pA,pB,pC]
  refine wpAnyE_tk (i:=5) (d:=some 15) (v:=?_) rfl (by kernel_rfl) (by kernel_rfl) (by kernel_rfl) rfl (fun _ _ _ h=>h) rfl rfl ?hy (by first|assumption|go_simp) ?_
  case hy=>(intro w' hSw;(try dsimp only at hSw);go_simp<;>(first|with_reducible rfl|omega|skip))
  simp only[Act.put,pA,pB,pC]
  refine wpAnyE_tk (i:=6) (d:=some 16) (v:=.int .i64 ((p:Int)+(e.2:Int))) rfl (by kernel_rfl) (by kernel_rfl) (by kernel_rfl) rfl (fun _ _ _ h=>h) rfl rfl ?hy (by first|assumption|go_simp) ?_
  case hy=>(intro w' hSw;(try dsimp only at hSw);go_simp<;>(first|with_reducible rfl|omega|skip))
  simp only[Act.put,pA,pB,pC]
  refine wpAnyE_tk (i:=7) (d:=some 17) (v:=?_) rfl (by kernel_rfl) (by kernel_rfl) (by kernel_rfl) rfl (fun _ _ _ h=>h) rfl rfl ?hy (by first|assumption|go_simp) ?_
  case hy=>(intro w' hSw;(try dsimp only at hSw);go_simp<;>(first|with_reducible rfl|omega|skip))
  simp only[Act.put,pA,pB,pC]
  refine on9 8 ?_
  refine oper_store_row 25 _ _ rfl (w.heap.size+2) rfl #[.int .i64 0,.string ⟨#[]⟩,.int .u8 0,.int .u8 0,.int .u8 0,.int .u8 0,.int .u8 0,.int .u8 0,.int .u8 0,.int .u8 0,.int .u8 0,.int .u8 0,.int .u8 0,.int .u8 0,.int .u8 0,.int .u8 0,.int .u8 0,.int .u8 0] #[.int .i64 0,.string ⟨#[]⟩,.int .u8 0,.int .u8 0,.int .u8 0,.int .u8 0,.int .u8 0,.int .u8 0,.int .u8 0,.int .u8 0,.int .u8 0,.int .u8 0,.int .u8 0,.int .u8 0,.int .u8 0,.int .u8 0,.int .u8 0,.int .u8 0] rfl 25 L2.out infoHo rfl (by simp[Value.oneCell']) rfl ?_
  refine⟨Or.inr (HSV.out _ (Or.inr (Or.inr ⟨_,rfl⟩))),?_⟩
  refine on9 9 ?_
  refine oper_store_row 32 _ _ rfl (w.heap.size+3) rfl #[.int .i64 0,.int .i64 0] #[.int .i64 (e.1:Int),.int .i64 ((p:Int)+(e.2:Int))] rfl 32 (L3.out.row_other (by omega) _) infoSp rfl (by simp[Value.oneCell']) rfl ?_
  refine⟨Or.inr (HSV.out _ (Or.inr (Or.inl ⟨_,_,rfl⟩))),?_⟩
  refine wpAnyE_done (by kernel_rfl) ?_ _
  clear hHeld
  go_wp2
  refine bodyPost_ret (ret_host (x:=ho0) (e:=(e.1,p+e.2)) (p:=5) (q:=6) (by kernel_rfl) rfl rfl rfl rfl _ _ (w.heap.size+2) (w.heap.size+3) rfl rfl rfl ?_ ?_) rfl ⟨by rw[HV.out];rfl,below_row (below_row HB.out.drew (by omega) _) (by omega) _⟩
  ·exact(L2.out.row _).row_other (by omega) _
  ·exact(L3.out.row_other (by omega) _).row _
open Go.RowKit
theorem low_fin:∀b:Fin 256,bits BinOp.or IntKind.u8 (b.val:Int) 32=(((UInt8.ofNat b.val)|||32).toNat:Int):=by decide+kernel
set_option maxHeartbeats 1000000 in
theorem lower_any (c:UInt8) (w:World):Calls Tryz.prog 255 #[.int .u8 (c.toNat:Int)] w fun e w'=>e=.returned (.int .u8 ((c|||32).toNat:Int))∧w'=w:=by
 have h:=low_fin ⟨c.toNat,c.toNat_lt⟩
 simp only[UInt8.ofNat_toNat]at h
 go_enter Tryz.func255,Tryz.ntmps255
 go_wp2
 go_ret
 exact⟨rfl,rfl⟩
set_option maxHeartbeats 1000000 in
set_option maxRecDepth 100000 in
theorem ipuint_empty (w:World):Calls Tryz.prog 245 #[.string ⟨#[]⟩,.int .i64 16,.int .i64 16] w fun e w'=>e=.returned (.tuple #[.int .u64 0,.iface 258 (.int .i64 2)])∧w'=w:=by
 go_enter Tryz.func245,Tryz.ntmps245
 go_wp2
 exact bodyPost_ret (v:=.tuple #[.int .u64 0,.iface 258 (.int .i64 2)]) (by simp[results,Tryz.results245,go_sem]) rfl ⟨rfl,rfl⟩
set_option maxHeartbeats 1000000 in
set_option maxRecDepth 100000 in
theorem clone_empty (w:World):Calls Tryz.prog 270 #[.string ⟨#[]⟩] w fun e w'=>e=.returned (.string ⟨#[]⟩)∧w'=w:=by
 go_enter Tryz.func270,Tryz.ntmps270
 go_wp2
 go_ret
 exact⟨rfl,rfl⟩
set_option maxHeartbeats 1000000 in
set_option maxRecDepth 100000 in
theorem synerr_empty (f:ByteArray) (te:TypeId) (pe:Value) (w:World) (hv:w.cell? ⟨8,0,none⟩=some (.iface te pe)):Calls Tryz.prog 257 #[.string f,.string ⟨#[]⟩] w fun e w'=>(∃g,e=.returned (.pointer (some ⟨g,0,none⟩)))∧Below w.heap.size w w':=by
 go_enter Tryz.func257,Tryz.ntmps257
 go_wp2_with fail
 go_region_with (go_at_call 270;refine(clone_empty _).mono ?_;rintro e w' ⟨rfl,rfl⟩)
 all_goals go_wp2
 all_goals go_ret
 all_goals exact⟨⟨_,rfl⟩,((Below.refl _ _).alloc (Nat.le_refl _) _).drew⟩
set_option maxHeartbeats 1000000 in
set_option maxRecDepth 100000 in
theorem toerr_empty (f:ByteArray) (te:TypeId) (pe:Value) (w:World) (hv:w.cell? ⟨8,0,none⟩=some (.iface te pe)):Calls Tryz.prog 246 #[.string f,.string ⟨#[]⟩,.int .i64 16,.int .i64 16,.iface 258 (.int .i64 2)] w fun e w'=>(∃v,e=.returned v)∧Below w.heap.size w w':=by
 have heq:∀W,(binOp .eql 148 (.iface 258 (.int .i64 2)) (.iface 258 (.int .i64 2))).run Tryz.prog W=.ok (.bool true) W:=fun W=>Lib.run_eql_iface_int W 2 2 Tryz.underlying148 (by kernel_rfl) Tryz.underlying258
 go_enter Tryz.func246,Tryz.ntmps246
 go_wp2_with (go_at_call 257;refine(synerr_empty f te pe _ hv).mono ?_;rintro e w' ⟨⟨g,rfl⟩,hb⟩)
 go_ret
 exact⟨⟨_,rfl⟩,by assumption⟩
set_option maxHeartbeats 1000000 in
set_option maxRecDepth 100000 in
theorem puint_empty (te:TypeId) (pe:Value) (w:World) (hv:w.cell? ⟨8,0,none⟩=some (.iface te pe)):Calls Tryz.prog 228 #[.string ⟨#[]⟩,.int .i64 16,.int .i64 16] w fun e w'=>(∃v,e=.returned (.tuple #[.int .u64 0,v]))∧Below w.heap.size w w':=by
 go_enter Tryz.func228,Tryz.ntmps228
 go_wp2_with (first|(go_at_call 245;refine(ipuint_empty _).mono ?_;rintro e w' ⟨rfl,rfl⟩)|(go_at_call 246;refine(toerr_empty _ te pe _ hv).mono ?_;rintro e w' ⟨⟨v,rfl⟩,hb⟩))
 exact bodyPost_ret (v:=.tuple #[.int .u64 0,v]) (by simp[results,Tryz.results228,go_sem]) rfl ⟨⟨_,rfl⟩,by assumption⟩
theorem hexN_lt:∀(l:List UInt8) (n:Nat),(∀c∈l,hxB c=true)→hexN n l<(n+1)*16 ^ l.length
 |[],n,_=>by simp[hexN]
 |c::r,n,h=>by
  have hc:hxV c<16:=by
   have:=h c (by simp)
   simp only[hxB,dgB,Bool.or_eq_true,Bool.and_eq_true,decide_eq_true_eq]at this
   unfold hxV
   split
   ·omega
   ·split<;>omega
  have ih:=hexN_lt r (16*n+hxV c) (fun x hx=>h x (by simp[hx]))
  rw[hexN,List.length_cons,Nat.pow_succ]
  have:(16*n+hxV c+1)*16 ^ r.length≤(n+1)*16*16 ^ r.length:=Nat.mul_le_mul_right _ (by omega)
  rw[Nat.mul_comm (16 ^ r.length) 16,←Nat.mul_assoc]
  omega
structure ByRow (s:ByteArray) (B:Nat) (w wr:World):Prop where
 cell:∀j,(h:j<s.size)→wr.cell? ⟨B,j,none⟩=some (.int .u8 (s[j].toNat:Int))
 below:Below B w wr
theorem ByRow.start (s:ByteArray) (w:World) (cap:Nat) (n:Nat) (hn:n=(bytesRow s cap).size):ByRow s w.heap.size w (w.alloc (.cells (bytesRow s cap) 5 (n,n+1))).drew:=by
 refine⟨fun j hj=>?_,(UpRel.start s w cap n hn).below⟩
 have:=World.cell?_alloc_mark w (bytesRow s cap) 5 (n,n+1) j
 rw[bytesRow_at s cap j hj]at this
 exact this
theorem hxV_letter (c:UInt8) (h:hxB c=true) (h9:¬c.toNat≤57):97≤(c|||32).toNat∧(c|||32).toNat≤102∧((c|||32).toNat:Int) - 97+10=(hxV c:Int):=by
 have key:∀b:Fin 256,hxB (UInt8.ofNat b.val)=true→¬b.val≤57→97≤(UInt8.ofNat b.val|||32).toNat∧(UInt8.ofNat b.val|||32).toNat≤102∧((UInt8.ofNat b.val|||32).toNat:Int) - 97+10=(hxV (UInt8.ofNat b.val):Int):=by decide+kernel
 have:=key ⟨c.toNat,c.toNat_lt⟩
 simp only[UInt8.ofNat_toNat]at this
 exact this h h9
theorem hxV_digit (c:UInt8) (h9:c.toNat≤57):hxV c=c.toNat - 48:=by unfold hxV;rw[if_pos h9]
theorem hx_lo (c:UInt8) (h:hxB c=true):48≤c.toNat:=by
 simp only[hxB,dgB,Bool.or_eq_true,Bool.and_eq_true,decide_eq_true_eq]at h
 omega
theorem hexN_step (l:List UInt8) (k:Nat) (h:k<l.length):hexN 0 (l.take (k+1))=16*hexN 0 (l.take k)+hxV l[k]:=by
 rw[List.take_succ_eq_append_getElem h,hexN_append]
 rfl
set_option maxHeartbeats 4000000 in
set_option maxRecDepth 100000 in
theorem ipuint_hex (s:ByteArray) (w:World) (h1:1≤s.size) (h4:s.size≤4) (hx:∀c∈s.data.toList,hxB c=true):
  Calls Tryz.prog 245 #[.string s,.int .i64 16,.int .i64 16] w fun e w'=>e=.returned (.tuple #[.int .u64 (hexN 0 s.data.toList:Nat),.nilIface])∧Below w.heap.size w w':=by
 have hne:s.toList.isEmpty=false:=by
  rw[ByteArray.toList_eq]
  cases h:s.data.toList with
  |nil=>have:=congrArg List.length h;rw[len_list,List.length_nil]at this;omega
  |cons c r=>rfl
 have hconv:=run_bytes_of_string (P:=Tryz.prog) w 9 98 5 s Tryz.underlying9 Tryz.underlying98 Tryz.underlying5
 obtain⟨cap,hcap⟩:∃c,c=grownCap w s.size 0 5:=⟨_,rfl⟩
 rw[←hcap]at hconv
 obtain⟨n,hn⟩:∃n,n=(bytesRow s cap).size:=⟨_,rfl⟩
 rw[←hn]at hconv
 have HR:Hid (ByRow s w.heap.size w (w.alloc (.cells (bytesRow s cap) 5 (n,n+1))).drew):=ByRow.start s w cap n hn
 clear hcap hn
 go_enter Tryz.func245,Tryz.ntmps245
 go_wp2_with fail
 generalize (w.alloc (.cells (bytesRow s cap) 5 (n,n+1))).drew=W0 at HR ⊢
 clear hconv hne
 have HX:Hid (∀c∈s.data.toList,hxB c=true):=hx
 clear hx
 obtain⟨C,hC⟩:∃C:Int,C=1152921504606846976:=⟨_,rfl⟩
 rw[←hC]
 have hC1:(65536:Int)≤C:=by omega
 clear hC
 go_loop [12,13,101] (fun u m c=>∃k:Nat,k≤s.size∧u=.bool false∧m=.int .u64 (hexN 0 (s.data.toList.take k):Nat)∧c=.int .i64 k) (fun _ _ c=>s.size - (intOf c).toNat)
 case atStart=>exact⟨0,by omega,rfl,rfl,rfl⟩
 case round=>
  obtain⟨k,hk,rfl,rfl,rfl⟩:=hrel
  by_cases hlt:k<s.size
  ·have hc:=HR.out.cell k hlt
   have hch:hxB s[k]=true:=HX.out _ (by have:=List.getElem_mem (l:=s.data.toList) (n:=k) (by rw[len_list];exact hlt);exact this)
   have hlo:=hx_lo _ hch
   have hb:hexN 0 (s.data.toList.take k)<4096:=by
    have:=hexN_lt (s.data.toList.take k) 0 (fun c hc=>HX.out c (List.mem_of_mem_take hc))
    rw[List.length_take,len_list,Nat.min_eq_left hk]at this
    have h2:16 ^ k≤16 ^ 3:=Nat.pow_le_pow_right (by decide) (by omega)
    omega
   have hst:=hexN_step s.data.toList k (by rw[len_list];exact hlt)
   rw[at_list s k hlt]at hst
   obtain⟨x,hx⟩:∃x:UInt8,x=s[k]:=⟨_,rfl⟩
   rw[←hx]at hc hch hlo hst
   clear hx
   generalize hexN 0 (s.data.toList.take k)=m at hb hst
   have hx255:(x.toNat:Int)≤255:=by have:=x.toNat_lt;omega
   have hlo':(48:Int)≤(x.toNat:Int):=by omega
   by_cases h9:x.toNat≤57
   ·have hd:=hxV_digit x h9
    have h9':(x.toNat:Int)≤57:=by omega
    obtain⟨d,hdd⟩:∃d:Nat,d=x.toNat - 48:=⟨_,rfl⟩
    have hd1:(x.toNat:Int) - 48=(d:Int):=by omega
    have hd9:d≤9:=by omega
    rw[hd,←hdd]at hst
    have h95:((x.toNat:Int)==95)=false:=by rw[beq_eq_false_iff_ne];omega
    have h16:¬(16:Int)≤(d:Int):=by omega
    have hcut:¬C≤(m:Int):=by omega
    have hmd:¬(m:Int)*16+(d:Int)<(m:Int)*16:=by omega
    have hmx:¬(65535:Int)<(m:Int)*16+(d:Int):=by omega
    have HST:Hid (hexN 0 (s.data.toList.take (k+1))=16*m+d):=hst
    clear hst hd hdd h9 hch
    go_wp2_with fail
    go_round
    case rel=>exact⟨k+1,by omega,rfl,by rw[HST.out];congr 1;omega,by go_num⟩
    case measure=>simp[intOf];omega
   ·obtain⟨hl1,hl2,hl3⟩:=hxV_letter x hch h9
    have h9':¬(x.toNat:Int)≤57:=by omega
    obtain⟨d,hdd⟩:∃d:Nat,d=hxV x:=⟨_,rfl⟩
    rw[←hdd]at hst hl3
    have HLW:Hid (∀wx:World,Calls Tryz.prog 255 #[.int .u8 (x.toNat:Int)] wx fun e w'=>e=.returned (.int .u8 ((x|||32).toNat:Int))∧w'=wx):=fun wx=>lower_any x wx
    generalize (x|||32).toNat=y at hl1 hl2 hl3 HLW
    obtain⟨z,hz⟩:∃z:Nat,y=97+z:=⟨y - 97,by omega⟩
    have hy1:(97:Int)≤(y:Int):=by omega
    have hy2:(y:Int)≤122:=by omega
    have h95:((x.toNat:Int)==95)=false:=by
     rw[beq_eq_false_iff_ne]
     simp only[hxB,dgB,Bool.or_eq_true,Bool.and_eq_true,decide_eq_true_eq]at hch
     omega
    have HST:Hid (hexN 0 (s.data.toList.take (k+1))=16*m+d):=hst
    have HZ:Hid (y=97+z∧d=z+10∧z≤5):=⟨by omega,by omega,by omega⟩
    clear hst hdd h9 hch hl1 hl2 hl3 hz
    go_wp2_with fail
    refine(HLW.out _).mono ?_
    rintro e w1 ⟨rfl,rfl⟩
    go_wp2_with fail
    refine(HLW.out _).mono ?_
    rintro e w2 ⟨rfl,rfl⟩
    go_wp2_with fail
    refine(HLW.out _).mono ?_
    rintro e w3 ⟨rfl,rfl⟩
    obtain⟨hz0,hz1,hz5⟩:=HZ.out
    have hya:(y:Int) - 97=(z:Int):=by omega
    have hyb:(z:Int)+10=(d:Int):=by omega
    have hd15:d≤15:=by omega
    have h16:¬(16:Int)≤(d:Int):=by omega
    have hcut:¬C≤(m:Int):=by omega
    have hmd:¬(m:Int)*16+(d:Int)<(m:Int)*16:=by omega
    have hmx:¬(65535:Int)<(m:Int)*16+(d:Int):=by omega
    clear hz0 hz1 HZ hy1 hy2
    have hy1:(97:Int)≤(y:Int):=by omega
    clear HLW
    go_wp2_with fail
    go_round
    case rel=>exact⟨k+1,by omega,rfl,by rw[HST.out];congr 1;omega,by go_num⟩
    case measure=>simp[intOf];omega
  ·have hk':k=s.size:=by omega
   have HK:Hid (hexN 0 (s.data.toList.take k)=hexN 0 s.data.toList):=by
    show _=_
    rw[List.take_of_length_le (by rw[len_list];omega)]
   clear hk'
   go_wp2_with fail
   exact bodyPost_ret (v:=.tuple #[.int .u64 (hexN 0 (s.data.toList.take k):Nat),.nilIface]) (by simp[results,Tryz.results245,go_sem]) rfl ⟨by rw[HK.out],HR.out.below⟩
set_option maxHeartbeats 1000000 in
set_option maxRecDepth 100000 in
theorem puint_hex (s:ByteArray) (w:World) (h1:1≤s.size) (h4:s.size≤4) (hx:∀c∈s.data.toList,hxB c=true):
  Calls Tryz.prog 228 #[.string s,.int .i64 16,.int .i64 16] w fun e w'=>e=.returned (.tuple #[.int .u64 (hexN 0 s.data.toList:Nat),.nilIface])∧Below w.heap.size w w':=by
 have HI:Hid (Calls Tryz.prog 245 #[.string s,.int .i64 16,.int .i64 16] w fun e w'=>e=.returned (.tuple #[.int .u64 (hexN 0 s.data.toList:Nat),.nilIface])∧Below w.heap.size w w'):=ipuint_hex s w h1 h4 hx
 clear hx
 go_enter Tryz.func228,Tryz.ntmps228
 go_wp2_with (go_at_call 245;refine HI.out.mono ?_;rintro e w' ⟨rfl,hb⟩)
 exact bodyPost_ret (v:=.tuple #[.int .u64 (hexN 0 s.data.toList:Nat),.nilIface]) (by simp[results,Tryz.results228,go_sem]) rfl ⟨rfl,by assumption⟩
theorem hexSp_all:∀(l:List UInt8) (k:Nat),k≤hexSp l→∀c∈l.take k,hxB c=true
 |_,0,_,c,hc=>by simp at hc
 |[],k+1,h,c,hc=>by simp at hc
 |x::r,k+1,h,c,hc=>by
  rw[hexSp]at h
  by_cases hx:hxB x=true
  ·rw[if_pos hx]at h
   rw[List.take_succ_cons]at hc
   rcases List.mem_cons.1 hc with rfl|hc
   ·exact hx
   ·exact hexSp_all r k (by omega) c hc
  ·rw[if_neg hx]at h
   omega
theorem hexSp_le:∀l:List UInt8,hexSp l≤l.length
 |[]=>Nat.le_refl _
 |c::r=>by
  have:=hexSp_le r
  rw[hexSp]
  split<;>simp<;>omega
theorem grpN_lt (l:List UInt8):grpN l<65536:=by
 have h:=hexN_lt (l.take (grpL l)) 0 (hexSp_all l (grpL l) (Nat.min_le_left _ _))
 have h2:(l.take (grpL l)).length≤4:=by rw[List.length_take];unfold grpL;omega
 have h3:16 ^ (l.take (grpL l)).length≤16 ^ 4:=Nat.pow_le_pow_right (by decide) h2
 unfold grpN
 omega
open Go.RowKit
set_option maxHeartbeats 2000000 in
set_option maxRecDepth 100000 in
theorem group_any (s:ByteArray) (te:TypeId) (pe:Value) (w:World) (ht:Table w) (hv:w.cell? ⟨8,0,none⟩=some (.iface te pe)) (hs:s.size≤maxLen):
  Calls Tryz.prog 200 #[.string s] w fun e w'=>e=.returned (.tuple #[.int .u16 (grpN s.data.toList:Nat),.int .i64 (grpL s.data.toList:Nat)])∧Below w.heap.size w w':=by
 have HBAD:Hid (Calls Tryz.prog 80 #[.int .i64 4,.string s] w fun e w'=>e=.returned (.int .i64 (hexSp s.data.toList:Nat))∧w'=w):=by
  have h:=bad_anyT 4 s w ht hs
  rw[hexSp_bad]at h
  exact h
 have hle:=hexSp_le s.data.toList
 rw[len_list]at hle
 obtain⟨g,hg⟩:∃g,g=grpL s.data.toList:=⟨_,rfl⟩
 have hmin:min ((hexSp s.data.toList:Nat):Int) 4=(g:Int):=by
  rw[hg];unfold grpL;omega
 have hgs:g≤s.size:=by rw[hg];unfold grpL;omega
 have hg4:g≤4:=by rw[hg];unfold grpL;omega
 have he:(s.extract 0 g).data.toList=s.data.toList.take g:=by rw[ext_list,List.drop_zero]
 have hN:hexN 0 (s.data.toList.take g)=grpN s.data.toList:=by rw[hg];rfl
 have hlt:=grpN_lt s.data.toList
 rw[←hg]
 by_cases h0:g=0
 ·have HP:Hid (Calls Tryz.prog 228 #[.string (s.extract 0 g),.int .i64 16,.int .i64 16] w fun e w'=>(∃v,e=.returned (.tuple #[.int .u64 0,v]))∧Below w.heap.size w w'):=by
   have e0:s.extract 0 g=⟨#[]⟩:=by rw[h0];exact ByteArray.extract_same ..
   rw[e0]
   exact puint_empty te pe w hv
  have hN0:grpN s.data.toList=0:=by rw[←hN,h0];rfl
  rw[hN0]
  clear hN hN0 he ht hg hv h0 hlt
  generalize hexSp s.data.toList=p at hmin hle HBAD
  go_enter Tryz.func200,Tryz.ntmps200
  go_wp2_with fail
  refine HBAD.out.mono ?_
  rintro e w1 ⟨rfl,rfl⟩
  go_wp2_with fail
  refine HP.out.mono ?_
  rintro e w2 ⟨⟨v,rfl⟩,hb⟩
  have HB:Hid (Below w1.heap.size w1 w2):=hb
  clear hb
  go_wp2_with fail
  exact bodyPost_ret (v:=.tuple #[.int .u16 0,.int .i64 (g:Int)]) (by simp[results,Tryz.results200,go_sem]) rfl ⟨rfl,HB.out⟩
 ·have HP:Hid (Calls Tryz.prog 228 #[.string (s.extract 0 g),.int .i64 16,.int .i64 16] w fun e w'=>e=.returned (.tuple #[.int .u64 (grpN s.data.toList:Nat),.nilIface])∧Below w.heap.size w w'):=by
   have h:=puint_hex (s.extract 0 g) w (by rw[ByteArray.size_extract];omega) (by rw[ByteArray.size_extract];omega) (by rw[he,hg];exact hexSp_all s.data.toList _ (Nat.min_le_left _ _))
   rw[he,hN]at h
   exact h
  clear hN he ht hg hv h0
  generalize hexSp s.data.toList=p at hmin hle HBAD
  generalize grpN s.data.toList=q at HP hlt ⊢
  go_enter Tryz.func200,Tryz.ntmps200
  go_wp2_with fail
  refine HBAD.out.mono ?_
  rintro e w1 ⟨rfl,rfl⟩
  go_wp2_with fail
  refine HP.out.mono ?_
  rintro e w2 ⟨rfl,hb⟩
  have HB:Hid (Below w1.heap.size w1 w2):=hb
  clear hb
  go_wp2_with fail
  exact bodyPost_ret (v:=.tuple #[.int .u16 (q:Int),.int .i64 (g:Int)]) (by simp[results,Tryz.results200,go_sem]) rfl ⟨rfl,HB.out⟩
end Go.Proofs.YtfjpkfhbmldmfaaGreatDoor
