/-
  Mailboxes compared; the contract of head.
-/
import Derived.Test.YtfjpkfhbmldmfabGreatDoorXt9
import Derived.Test.YtfjpkfhbmldmfabGreatDoorUtfE
import Derived.Test.YtfjpkfhbmldmfabGreatDoorXr9
import Derived.Test.YtfjpkfhbmldmfabGreatDoorCk8
import Derived.Test.YtfjpkfhbmldmfabGreatDoorLate5
namespace Go.Proofs.YtfjpkfhbmldmfabGreatDoor
open Go.RowKit
theorem infoHE:∃i,Tryz.prog.info? 28=some i∧i.size=18:=by
 have h5:(Tryz.prog.info? 28).map (·.size)=some 18:=by kernel_rfl
 cases hq:Tryz.prog.info? 28 with
 |none=>simp[hq]at h5
 |some i=>exact⟨i,rfl,by simpa [hq] using h5⟩
theorem part_loc (l:List UInt8) (h:Ho) (w:World):(part 9 (boxC l h) 0).run Tryz.prog w=.ok (.string (txt l)) w:=by
 simp[part,isAgg,run_underlying Tryz.underlying9,boxC_0]
theorem part_hst (l:List UInt8) (h:Ho) (ha:h.a.length=16) (w:World):(part 28 (boxC l h) 1).run Tryz.prog w=.ok (hostV h) w:=by
 obtain⟨i,hi,hs⟩:=infoHE
 have hz:=hostC_size h ha
 have e:(boxC l h).extract 1 19=hostC h:=by
  apply Array.ext'
  unfold boxC
  rw[Array.toList_extract]
  simp
  rw[List.take_of_length_le (by simp[hz])]
 have hz':(boxC l h).size=19:=by unfold boxC;rw[Array.size_append,hz];rfl
 simp[part,isAgg,run_underlying Tryz.underlying28,sizeOf,typeInfo,hi,hs,e,hz',hostV]
set_option maxRecDepth 100000 in
theorem eqBox (d:Nat) (l m:List UInt8) (x y:Ho) (hx:x.a.length=16) (hy:y.a.length=16) (w:World):(Op.equalIn (d+4) 30 (.agg (boxC l x)) (.agg (boxC m y))).run Tryz.prog w=.ok (decide (l=m)&&decide (x=y)) w:=by
 have hf:Tryz.prog.underlying 30=some (.struct (Tryz.prog.fieldsOf 30)):=by simp[Program.fieldsOf,Tryz.underlying30]
 rw[run_equalIn_struct w (d+3) 30 _ _ hf (by kernel_rfl)]
 simp only[Program.fieldsOf,Tryz.underlying30]
 simp only[Op.eqFields,Sem.run_bind,Sem.run_ite,part_loc,part_hst l x hx,part_hst m y hy,Result.andThen_ok,run_equalIn_string (P:=Tryz.prog) w (d+2) 9 _ _ Tryz.underlying9,eqHost d x y hx hy,txt,list_beq]
 by_cases h1:l=m<;>by_cases h2:x=y<;>simp[h1,h2]
theorem exec_eql_box {op:Oper} {a:Act} {w:World} (p q:Operand) (r:TypeId) (ho:op.op=.binOp .eql 30 p q r) (l m:List UInt8) (x y:Ho) (hp:a.eval p=.agg (boxC l x)) (hq:a.eval q=.agg (boxC m y)) (hx:x.a.length=16) (hy:y.a.length=16):(execOp a.eval op).run Tryz.prog w=.ok (.value (.bool (decide (l=m)&&decide (x=y)))) w:=by
 have hgu:Tryz.prog.eqGuardType Tryz.prog.depth 30=false:=by kernel_rfl
 have h:=eqBox 9996 l m x y hx hy w
 have hg:=run_eqGuard_agg (P:=Tryz.prog) w .eql 30 p q (boxC l x) (boxC m y) hgu
 unfold execOp
 simp only[ho,hp,hq,Sem.run_bind,hg,Result.andThen_ok,run_eql_struct,h,Sem.run_pure]
theorem pthC_one9 (k:Int) (sl:Value) (l:List UInt8) (h:Ho) (hs:sl.oneCell'=true):(pthC k sl l h).all (·.oneCell')=true:=by
 rw[pth_box,Array.all_append,boxC_one]
 simp[Value.oneCell']
 exact hs
theorem pthC_024 (k:Int) (sl:Value) (l:List UInt8) (h:Ho):(pthC k sl l h)[0]?=some (.int .i64 k)∧(pthC k sl l h)[1]?=some sl∧(pthC k sl l h)[2]?=some (.string (txt l))∧(pthC k sl l h)[3]?=some (.int .i64 h.k)∧(pthC k sl l h)[4]?=some (.string (txt h.n)):=by
 unfold pthC hostC txt
 simp
def annH:Ho:=⟨1,[97,46,101,120,97,109,112,108,101],z16⟩
theorem head_pth:pth false true [60,97,110,110,64,97,46,101,120,97,109,112,108,101,62,32,83,73,90,69,61,51]=.ok (⟨3,[],[97,110,110],annH⟩,15):=by kernel_rfl
set_option maxHeartbeats 4000000 in
set_option maxRecDepth 100000 in
theorem head_any (w:World) (hT:Td w) (h10:10≤w.heap.size):Calls Tryz.prog 7 #[] w fun e w'=>e=.returned (.bool true)∧Below w.heap.size w w':=by
 have HR:Hid (∀wx,Below w.heap.size w wx→Calls Tryz.prog 10 #[.string ⟨#[60,97,110,110,64,97,46,101,120,97,109,112,108,101,62,32,83,73,90,69,61,51]⟩,.bool false] wx fun e w'=>∃sl,sl.oneCell'=true∧e=.returned (.tuple #[.agg (pthC 3 sl [97,110,110] annH),.int .i64 15,.agg #[.int .i64 0,.int .i64 0]])∧Below wx.heap.size wx w'):=fun wx hx=>by
  refine Calls.mono (rev_any ⟨#[60,97,110,110,64,97,46,101,120,97,109,112,108,101,62,32,83,73,90,69,61,51]⟩ (by decide) false wx (hT.below hx) (Nat.le_trans h10 hx.size)) ?_
  rintro e w' ⟨v,rfl,hv,hb⟩
  have e1:pth false true (⟨#[60,97,110,110,64,97,46,101,120,97,109,112,108,101,62,32,83,73,90,69,61,51]⟩:ByteArray).data.toList=.ok (⟨3,[],[97,110,110],annH⟩,15):=head_pth
  rw[e1]at hv
  obtain⟨sl,rfl,ho⟩:=hv
  obtain⟨sa,sc,hsl⟩:=ownH_len ho
  exact⟨sl,by rw[hsl];rfl,rfl,hb⟩
 go_enter Tryz.func7,Tryz.ntmps7
 go_upto_region 1 with fail
 go_wp2_with fail
 refine Calls.mono (HR.out _ (Below.refl _ _)) ?_
 rintro e y ⟨sl,hs1,rfl,hc⟩
 obtain⟨VP,hVP⟩:∃VP,VP=pthC 3 sl [97,110,110] annH:=⟨_,rfl⟩
 rw[←hVP]
 have zp:Hid (VP.size=21):=by rw[hVP];exact pthC_size _ _ _ _ rfl
 have op:Hid (VP.all (·.oneCell')=true):=by rw[hVP];exact pthC_one9 _ _ _ _ hs1
 have p0:Hid (VP[0]?=some (.int .i64 3)):=by rw[hVP];exact(pthC_024 _ _ _ _).1
 have p2:Hid (VP[2]?=some (.string ⟨#[97,110,110]⟩)):=by rw[hVP];exact(pthC_024 _ _ _ _).2.2.1
 have p4:Hid (VP[4]?=some (.string ⟨#[97,46,101,120,97,109,112,108,101]⟩)):=by rw[hVP];exact(pthC_024 _ _ _ _).2.2.2.2
 clear hVP hs1
 have KB:Hid (Below w.heap.size w y):=hc
 clear hc HR hT h10
 have A:Hid (Lies ((y.alloc (.cells #[.int .i64 0,.slice none 0 0,.string ⟨#[]⟩,.int .i64 0,.string ⟨#[]⟩,.int .u8 0,.int .u8 0,.int .u8 0,.int .u8 0,.int .u8 0,.int .u8 0,.int .u8 0,.int .u8 0,.int .u8 0,.int .u8 0,.int .u8 0,.int .u8 0,.int .u8 0,.int .u8 0,.int .u8 0,.int .u8 0] 32)).alloc (.cells #[.int .i64 0,.int .i64 0] 35)) y.heap.size #[.int .i64 0,.slice none 0 0,.string ⟨#[]⟩,.int .i64 0,.string ⟨#[]⟩,.int .u8 0,.int .u8 0,.int .u8 0,.int .u8 0,.int .u8 0,.int .u8 0,.int .u8 0,.int .u8 0,.int .u8 0,.int .u8 0,.int .u8 0,.int .u8 0,.int .u8 0,.int .u8 0,.int .u8 0,.int .u8 0] 32):=(Lies.new y _ _).alloc _
 have B:Hid (Lies ((y.alloc (.cells #[.int .i64 0,.slice none 0 0,.string ⟨#[]⟩,.int .i64 0,.string ⟨#[]⟩,.int .u8 0,.int .u8 0,.int .u8 0,.int .u8 0,.int .u8 0,.int .u8 0,.int .u8 0,.int .u8 0,.int .u8 0,.int .u8 0,.int .u8 0,.int .u8 0,.int .u8 0,.int .u8 0,.int .u8 0,.int .u8 0] 32)).alloc (.cells #[.int .i64 0,.int .i64 0] 35)) (y.heap.size+1) #[.int .i64 0,.int .i64 0] 35):=new_one y _ _ _
 have M:Hid (Lies ((((y.alloc (.cells #[.int .i64 0,.slice none 0 0,.string ⟨#[]⟩,.int .i64 0,.string ⟨#[]⟩,.int .u8 0,.int .u8 0,.int .u8 0,.int .u8 0,.int .u8 0,.int .u8 0,.int .u8 0,.int .u8 0,.int .u8 0,.int .u8 0,.int .u8 0,.int .u8 0,.int .u8 0,.int .u8 0,.int .u8 0,.int .u8 0] 32)).alloc (.cells #[.int .i64 0,.int .i64 0] 35)).setRow y.heap.size VP).setRow (y.heap.size+1) #[.int .i64 0,.int .i64 0]) y.heap.size VP 32):=(A.out.row _).row_other (by omega) _
 have N:Hid (Lies ((((y.alloc (.cells #[.int .i64 0,.slice none 0 0,.string ⟨#[]⟩,.int .i64 0,.string ⟨#[]⟩,.int .u8 0,.int .u8 0,.int .u8 0,.int .u8 0,.int .u8 0,.int .u8 0,.int .u8 0,.int .u8 0,.int .u8 0,.int .u8 0,.int .u8 0,.int .u8 0,.int .u8 0,.int .u8 0,.int .u8 0,.int .u8 0] 32)).alloc (.cells #[.int .i64 0,.int .i64 0] 35)).setRow y.heap.size VP).setRow (y.heap.size+1) #[.int .i64 0,.int .i64 0]) (y.heap.size+1) #[.int .i64 0,.int .i64 0] 35):=(B.out.row_other (by omega) _).row _
 have BB:Hid (Below w.heap.size w ((((y.alloc (.cells #[.int .i64 0,.slice none 0 0,.string ⟨#[]⟩,.int .i64 0,.string ⟨#[]⟩,.int .u8 0,.int .u8 0,.int .u8 0,.int .u8 0,.int .u8 0,.int .u8 0,.int .u8 0,.int .u8 0,.int .u8 0,.int .u8 0,.int .u8 0,.int .u8 0,.int .u8 0,.int .u8 0,.int .u8 0,.int .u8 0] 32)).alloc (.cells #[.int .i64 0,.int .i64 0] 35)).setRow y.heap.size VP).setRow (y.heap.size+1) #[.int .i64 0,.int .i64 0])):=KB.out.trans ((below_row (below_row (((Below.refl _ _).alloc (Nat.le_refl _) _).alloc (by simp) _) (Nat.le_refl _) _) (by omega) _:Below y.heap.size y _).mono KB.out.size)
 clear KB
 go_upto_region 2 with(first|(refine wpList_store_row rfl 32 _ _ rfl y.heap.size rfl #[.int .i64 0,.slice none 0 0,.string ⟨#[]⟩,.int .i64 0,.string ⟨#[]⟩,.int .u8 0,.int .u8 0,.int .u8 0,.int .u8 0,.int .u8 0,.int .u8 0,.int .u8 0,.int .u8 0,.int .u8 0,.int .u8 0,.int .u8 0,.int .u8 0,.int .u8 0,.int .u8 0,.int .u8 0,.int .u8 0] VP rfl 32 A.out (by rw[zp.out];exact infoPt) (by rw[zp.out];rfl) op.out rfl ?_)|(refine wpList_store_row rfl 35 _ _ rfl (y.heap.size+1) rfl #[.int .i64 0,.int .i64 0] #[.int .i64 0,.int .i64 0] rfl 35 (B.out.row_other (by omega) _) infoSp rfl (by simp[Value.oneCell']) rfl ?_))
 generalize hv:(((y.alloc (.cells #[.int .i64 0,.slice none 0 0,.string ⟨#[]⟩,.int .i64 0,.string ⟨#[]⟩,.int .u8 0,.int .u8 0,.int .u8 0,.int .u8 0,.int .u8 0,.int .u8 0,.int .u8 0,.int .u8 0,.int .u8 0,.int .u8 0,.int .u8 0,.int .u8 0,.int .u8 0,.int .u8 0,.int .u8 0,.int .u8 0] 32)).alloc (.cells #[.int .i64 0,.int .i64 0] 35)).setRow y.heap.size VP).setRow (y.heap.size+1) #[.int .i64 0,.int .i64 0]=v at M N BB ⊢
 clear hv A B
 have c0:v.cell? ⟨y.heap.size,0,none⟩=some (.int .i64 3):=(M.out.cell 0).trans p0.out
 have c2:v.cell? ⟨y.heap.size,2,none⟩=some (.string ⟨#[97,110,110]⟩):=(M.out.cell 2).trans p2.out
 have c4:v.cell? ⟨y.heap.size,4,none⟩=some (.string ⟨#[97,46,101,120,97,109,112,108,101]⟩):=(M.out.cell 4).trans p4.out
 go_wp2_with (refine wpList_load_row9 (by rfl) 35 _ rfl (y.heap.size+1) rfl #[.int .i64 0,.int .i64 0] 35 _ N.out Tryz.underlying35 rfl infoSp ?_)
 go_ret
 exact⟨rfl,BB.out⟩
open Go.RowKit
def ckM (l:List UInt8) (h:Ho) (wide:Bool):Nat:=if ckL l wide≠0 then ckL l wide else check h wide
end Go.Proofs.YtfjpkfhbmldmfabGreatDoor
