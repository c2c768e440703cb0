/-
  For every front the statement PathFront returns true.
-/
import Derived.Test.YtfjpkfhbmldmfabGreatDoorUtfE
import Derived.Test.YtfjpkfhbmldmfabGreatDoorXx9
import Derived.Test.YtfjpkfhbmldmfabGreatDoorCardF
import Derived.ProofKit
import Derived.ChangeMaps5
import Derived.OpenShut
import Derived.ShutString
import Derived.ChangeOld
import Derived.SizedLaws
namespace Go.Proofs.YtfjpkfhbmldmfabGreatDoor.pathFront
open Go.ChangeShapes Go.WideShapes Go.ChangeAt Go.RowKit
theorem infoFr:(Tryz.prog.info? 23).map (·.size)=some 4:=by kernel_rfl
theorem wrap_add' (x y:Int) (h: -9223372036854775808≤x+y∧x+y≤9223372036854775807):IntKind.i64.wrap (x+y)=x+y:=by rw[IntKind.wrap_i64];omega
structure Fine (w:World) (S T:ByteArray) (wide:Bool) (p:Pt) (n:Nat):Prop where
 lo:1≤n
 hi:n≤S.size
 fw:n≤256
 an:∀wx,Below w.heap.size w wx→Calls Tryz.prog 8 #[.string (S.extract 0 n++T),.bool wide] wx fun e w'=>∃V,e=.returned (.tuple #[.agg V,.int .i64 (n:Int),.agg #[.int .i64 0,.int .i64 0]])∧PA p V w'∧Below wx.heap.size wx w'
 sm:∀wx V V1,PA p V wx→PA p V1 wx→Calls Tryz.prog 9 #[.agg V,.agg V1] wx fun e w'=>e=.returned (.bool true)∧Below wx.heap.size wx w'
 cu:∀kk,kk<n→∃e3 q3:Nat,e3≠0∧q3≤kk∧(∀wx,Below w.heap.size w wx→Calls Tryz.prog 8 #[.string (S.extract 0 kk),.bool wide] wx fun e w'=>∃V,e=.returned (.tuple #[.agg V,.int .i64 (0:Int),.agg #[.int .i64 (e3:Int),.int .i64 (q3:Int)]])∧PA ⟨0,[],[],ho0⟩ V w'∧Below wx.heap.size wx w')
set_option maxHeartbeats 16000000 in
set_option maxRecDepth 100000 in
theorem walkW (S T:ByteArray) (hT:T.size≤140737488351232) (_hS:S.size≤140737488351232) (wide:Bool) (cut:Int) (p:Pt) (hp:p.In) (n er at':Nat) (w:World)
  (HH:Hid (∀wx,Below w.heap.size w wx→Calls Tryz.prog 7 #[] wx fun e w'=>e=.returned (.bool true)∧Below wx.heap.size wx w'))
  (HF:Hid (∀wx,Below w.heap.size w wx→Calls Tryz.prog 8 #[.string S,.bool wide] wx fun e w'=>∃V,e=.returned (.tuple #[.agg V,.int .i64 (n:Int),.agg #[.int .i64 (er:Int),.int .i64 (at':Int)]])∧PA p V w'∧Below wx.heap.size wx w'))
  (HZ:Hid (∀wx V,PA ⟨0,[],[],ho0⟩ V wx→Calls Tryz.prog 9 #[.agg V,.agg #[.int .i64 0,.slice none 0 0,.string ⟨#[]⟩,.int .i64 0,.string ⟨#[]⟩,.int .u8 0,.int .u8 0,.int .u8 0,.int .u8 0,.int .u8 0,.int .u8 0,.int .u8 0,.int .u8 0,.int .u8 0,.int .u8 0,.int .u8 0,.int .u8 0,.int .u8 0,.int .u8 0,.int .u8 0,.int .u8 0]] wx fun e w'=>e=.returned (.bool true)∧Below wx.heap.size wx w'))
  (HE:Hid (er≠0→n=0∧p=⟨0,[],[],ho0⟩)) (HOK:Hid (er=0→Fine w S T wide p n)):
  Calls Tryz.prog 3 #[.agg #[.string S,.string T,.bool wide,.int .i64 cut]] w fun e w'=>e=.returned (.bool true)∧Below w.heap.size w w':=by
 have LF:Hid (Lies (w.alloc (.cells #[.string S,.string T,.bool wide,.int .i64 cut] 23)) w.heap.size #[.string S,.string T,.bool wide,.int .i64 cut] 23):=Lies.new w _ _
 have KB:Hid (Below w.heap.size w (w.alloc (.cells #[.string S,.string T,.bool wide,.int .i64 cut] 23))):=(Below.refl _ _).alloc (Nat.le_refl _) _
 go_enter Tryz.func3,Tryz.ntmps3
 go_upto_region 1 with fail
 generalize w.alloc (.cells #[.string S,.string T,.bool wide,.int .i64 cut] 23)=v0 at LF KB ⊢
 go_wp2_with (first|(refine wpList_load_row9 (by rfl) 23 _ rfl (w.heap.size) rfl #[.string S,.string T,.bool wide,.int .i64 cut] 23 _ LF.out Tryz.underlying23 rfl infoFr ?_))
 refine Calls.mono (HH.out _ KB.out) ?_
 rintro e y0 ⟨rfl,hc⟩
 have KB1:Hid (Below w.heap.size w y0):=KB.out.trans ((hc).mono KB.out.size)
 have LFn:Hid (Lies y0 (w.heap.size) #[.string S,.string T,.bool wide,.int .i64 cut] 23):=LF.out.below (hc) LF.out.lt
 clear LF
 have LF:=LFn
 clear LFn
 clear KB
 clear hc
 have q0:y0.cell? ⟨w.heap.size,0,none⟩=some (.string S):=LF.out.cell 0
 have q1:y0.cell? ⟨w.heap.size,1,none⟩=some (.string T):=LF.out.cell 1
 have q2:y0.cell? ⟨w.heap.size,2,none⟩=some (.bool wide):=LF.out.cell 2
 have q3:y0.cell? ⟨w.heap.size,3,none⟩=some (.int .i64 cut):=LF.out.cell 3
 go_upto_region 3 with fail
 refine wp_region_late (fun wx=>wx.cell? ⟨w.heap.size,0,none⟩=some (.string S)∧wx.cell? ⟨w.heap.size,1,none⟩=some (.string T)∧wx.cell? ⟨w.heap.size,2,none⟩=some (.bool wide)∧wx.cell? ⟨w.heap.size,3,none⟩=some (.int .i64 cut)) 12 (by kernel_rfl) ⟨q0,q1,q2,q3⟩ (fun hHeld=>?_)
 refine tk9 0 (some 19) (.pointer (some ⟨w.heap.size,0,none⟩)) ?_
 simp only[Act.put,pA,pB,pC]
 refine tk9 1 (some 20) (.string S) ?_
 simp only[Act.put,pA,pB,pC]
 refine tk9 2 (some 21) (.pointer (some ⟨w.heap.size,1,none⟩)) ?_
 simp only[Act.put,pA,pB,pC]
 refine tk9 3 (some 22) (.string T) ?_
 simp only[Act.put,pA,pB,pC]
 refine tk9 4 (some 23) (.pointer (some ⟨w.heap.size,2,none⟩)) ?_
 simp only[Act.put,pA,pB,pC]
 refine tk9 5 (some 24) (.bool wide) ?_
 simp only[Act.put,pA,pB,pC]
 refine tk9 6 (some 25) (.pointer (some ⟨w.heap.size,3,none⟩)) ?_
 simp only[Act.put,pA,pB,pC]
 refine tk9 7 (some 26) (.int .i64 cut) ?_
 simp only[Act.put,pA,pB,pC]
 refine tk9 8 (some 3) (.string S) ?_
 simp only[Act.put,pA,pB,pC]
 refine tk9 9 (some 4) (.string T) ?_
 simp only[Act.put,pA,pB,pC]
 refine tk9 10 (some 5) (.bool wide) ?_
 simp only[Act.put,pA,pB,pC]
 refine tk9 11 (some 6) (.int .i64 cut) ?_
 simp only[Act.put,pA,pB,pC]
 refine wpAnyE_done (by kernel_rfl) ?_ _
 clear hHeld
 clear q0 q1 q2 q3
 clear LF
 have KB2:Hid (Below w.heap.size w y0.drew):=KB1.out.trans (((Below.refl _ y0).drew).mono KB1.out.size)
 clear KB1
 generalize y0.drew=y00 at KB2 ⊢
 go_wp2_with fail
 refine Calls.mono (HF.out _ KB2.out) ?_
 rintro e y1 ⟨V1,rfl,hA,hc⟩
 have KB3:Hid (Below w.heap.size w y1):=KB2.out.trans ((hc).mono KB2.out.size)
 clear KB2
 have P1:Hid (PA p V1 y1):=hA
 have z1:Hid (V1.size=21):=hA.size hp.ok.2.len
 have o1:Hid (V1.all (·.oneCell')=true):=hA.one
 clear hA hc
 have A:Hid (Lies ((y1.alloc (.cells #[.int .i64 0,.slice none 0 0,.string ⟨#[]⟩,.int .i64 0,.string ⟨#[]⟩,.int .u8 0,.int .u8 0,.int .u8 0,.int .u8 0,.int .u8 0,.int .u8 0,.int .u8 0,.int .u8 0,.int .u8 0,.int .u8 0,.int .u8 0,.int .u8 0,.int .u8 0,.int .u8 0,.int .u8 0,.int .u8 0] 32)).alloc (.cells #[.int .i64 0,.int .i64 0] 35)) y1.heap.size #[.int .i64 0,.slice none 0 0,.string ⟨#[]⟩,.int .i64 0,.string ⟨#[]⟩,.int .u8 0,.int .u8 0,.int .u8 0,.int .u8 0,.int .u8 0,.int .u8 0,.int .u8 0,.int .u8 0,.int .u8 0,.int .u8 0,.int .u8 0,.int .u8 0,.int .u8 0,.int .u8 0,.int .u8 0,.int .u8 0] 32):=(Lies.new y1 _ _).alloc _
 have B:Hid (Lies ((y1.alloc (.cells #[.int .i64 0,.slice none 0 0,.string ⟨#[]⟩,.int .i64 0,.string ⟨#[]⟩,.int .u8 0,.int .u8 0,.int .u8 0,.int .u8 0,.int .u8 0,.int .u8 0,.int .u8 0,.int .u8 0,.int .u8 0,.int .u8 0,.int .u8 0,.int .u8 0,.int .u8 0,.int .u8 0,.int .u8 0,.int .u8 0] 32)).alloc (.cells #[.int .i64 0,.int .i64 0] 35)) (y1.heap.size+1) #[.int .i64 0,.int .i64 0] 35):=new_one y1 _ _ _
 have M1:Hid (Lies ((((y1.alloc (.cells #[.int .i64 0,.slice none 0 0,.string ⟨#[]⟩,.int .i64 0,.string ⟨#[]⟩,.int .u8 0,.int .u8 0,.int .u8 0,.int .u8 0,.int .u8 0,.int .u8 0,.int .u8 0,.int .u8 0,.int .u8 0,.int .u8 0,.int .u8 0,.int .u8 0,.int .u8 0,.int .u8 0,.int .u8 0,.int .u8 0] 32)).alloc (.cells #[.int .i64 0,.int .i64 0] 35)).setRow y1.heap.size V1).setRow (y1.heap.size+1) #[.int .i64 (er:Int),.int .i64 (at':Int)]) y1.heap.size V1 32):=(A.out.row _).row_other (by omega) _
 have N1:Hid (Lies ((((y1.alloc (.cells #[.int .i64 0,.slice none 0 0,.string ⟨#[]⟩,.int .i64 0,.string ⟨#[]⟩,.int .u8 0,.int .u8 0,.int .u8 0,.int .u8 0,.int .u8 0,.int .u8 0,.int .u8 0,.int .u8 0,.int .u8 0,.int .u8 0,.int .u8 0,.int .u8 0,.int .u8 0,.int .u8 0,.int .u8 0,.int .u8 0] 32)).alloc (.cells #[.int .i64 0,.int .i64 0] 35)).setRow y1.heap.size V1).setRow (y1.heap.size+1) #[.int .i64 (er:Int),.int .i64 (at':Int)]) (y1.heap.size+1) #[.int .i64 (er:Int),.int .i64 (at':Int)] 35):=(B.out.row_other (by omega) _).row _
 have BB:Hid (Below y1.heap.size y1 ((((y1.alloc (.cells #[.int .i64 0,.slice none 0 0,.string ⟨#[]⟩,.int .i64 0,.string ⟨#[]⟩,.int .u8 0,.int .u8 0,.int .u8 0,.int .u8 0,.int .u8 0,.int .u8 0,.int .u8 0,.int .u8 0,.int .u8 0,.int .u8 0,.int .u8 0,.int .u8 0,.int .u8 0,.int .u8 0,.int .u8 0,.int .u8 0] 32)).alloc (.cells #[.int .i64 0,.int .i64 0] 35)).setRow y1.heap.size V1).setRow (y1.heap.size+1) #[.int .i64 (er:Int),.int .i64 (at':Int)])):=below_row (below_row (((Below.refl _ _).alloc (Nat.le_refl _) _).alloc (by simp) _) (Nat.le_refl _) _) (by omega) _
 have KB4:Hid (Below w.heap.size w ((((y1.alloc (.cells #[.int .i64 0,.slice none 0 0,.string ⟨#[]⟩,.int .i64 0,.string ⟨#[]⟩,.int .u8 0,.int .u8 0,.int .u8 0,.int .u8 0,.int .u8 0,.int .u8 0,.int .u8 0,.int .u8 0,.int .u8 0,.int .u8 0,.int .u8 0,.int .u8 0,.int .u8 0,.int .u8 0,.int .u8 0,.int .u8 0] 32)).alloc (.cells #[.int .i64 0,.int .i64 0] 35)).setRow y1.heap.size V1).setRow (y1.heap.size+1) #[.int .i64 (er:Int),.int .i64 (at':Int)])):=KB3.out.trans ((BB.out).mono KB3.out.size)
 have P1n:Hid (PA p V1 ((((y1.alloc (.cells #[.int .i64 0,.slice none 0 0,.string ⟨#[]⟩,.int .i64 0,.string ⟨#[]⟩,.int .u8 0,.int .u8 0,.int .u8 0,.int .u8 0,.int .u8 0,.int .u8 0,.int .u8 0,.int .u8 0,.int .u8 0,.int .u8 0,.int .u8 0,.int .u8 0,.int .u8 0,.int .u8 0,.int .u8 0,.int .u8 0] 32)).alloc (.cells #[.int .i64 0,.int .i64 0] 35)).setRow y1.heap.size V1).setRow (y1.heap.size+1) #[.int .i64 (er:Int),.int .i64 (at':Int)])):=P1.out.below (BB.out)
 clear P1
 have P1:=P1n
 clear P1n
 clear KB3
 go_upto_region 5 with(first|(refine wpList_store_row rfl 32 _ _ rfl y1.heap.size rfl #[.int .i64 0,.slice none 0 0,.string ⟨#[]⟩,.int .i64 0,.string ⟨#[]⟩,.int .u8 0,.int .u8 0,.int .u8 0,.int .u8 0,.int .u8 0,.int .u8 0,.int .u8 0,.int .u8 0,.int .u8 0,.int .u8 0,.int .u8 0,.int .u8 0,.int .u8 0,.int .u8 0,.int .u8 0,.int .u8 0] V1 rfl 32 A.out (by rw[z1.out];exact infoPt) (by rw[z1.out];rfl) o1.out rfl ?_)|(refine wpList_store_row rfl 35 _ _ rfl (y1.heap.size+1) rfl #[.int .i64 0,.int .i64 0] #[.int .i64 (er:Int),.int .i64 (at':Int)] rfl 35 (B.out.row_other (by omega) _) infoSp rfl (by simp[Value.oneCell']) rfl ?_))
 generalize hv1:(((y1.alloc (.cells #[.int .i64 0,.slice none 0 0,.string ⟨#[]⟩,.int .i64 0,.string ⟨#[]⟩,.int .u8 0,.int .u8 0,.int .u8 0,.int .u8 0,.int .u8 0,.int .u8 0,.int .u8 0,.int .u8 0,.int .u8 0,.int .u8 0,.int .u8 0,.int .u8 0,.int .u8 0,.int .u8 0,.int .u8 0,.int .u8 0] 32)).alloc (.cells #[.int .i64 0,.int .i64 0] 35)).setRow y1.heap.size V1).setRow (y1.heap.size+1) #[.int .i64 (er:Int),.int .i64 (at':Int)]=v1 at M1 N1 KB4 P1 ⊢
 clear hv1 A B BB
 clear HH HF
 have f1:v1.cell? ⟨y1.heap.size+1,0,none⟩=some (.int .i64 (er:Int)):=N1.out.cell 0
 by_cases her:er=0
 ·have HO:=HOK.out her
  have her':((er:Int) != 0)=false:=by rw[her];rfl
  have l1:=HO.lo
  have l2:=HO.hi
  have l3:=HO.fw
  have n1:¬(n:Int)<1:=by omega
  have n2:¬(S.size:Int)<(n:Int):=by omega
  have n3:¬(256:Int)<(n:Int):=by omega
  clear HE HOK
  have ad1:∀W,(Op.stringOp .add (S.extract 0 n) T).run Tryz.prog W=.ok (.string (S.extract 0 n++T)) W:=fun W=>run_string_add_sum _ _ _ (by rw[ByteArray.size_extract];omega)
  go_upto_region 9 with(first|(refine wpList_load_row9 (by rfl) 32 _ rfl (y1.heap.size) rfl V1 32 _ M1.out Tryz.underlying32 rfl (by rw[z1.out];exact infoPt) ?_)|(refine wpList_load_row9 (by rfl) 35 _ rfl (y1.heap.size+1) rfl #[.int .i64 (er:Int),.int .i64 (at':Int)] 35 _ N1.out Tryz.underlying35 rfl infoSp ?_))
  go_wp2_with (first|(refine wpList_load_row9 (by rfl) 32 _ rfl (y1.heap.size) rfl V1 32 _ M1.out Tryz.underlying32 rfl (by rw[z1.out];exact infoPt) ?_)|(refine wpList_load_row9 (by rfl) 35 _ rfl (y1.heap.size+1) rfl #[.int .i64 (er:Int),.int .i64 (at':Int)] 35 _ N1.out Tryz.underlying35 rfl infoSp ?_))
  refine Calls.mono (HO.an _ KB4.out) ?_
  rintro e y2 ⟨V2,rfl,hA,hc⟩
  have KB5:Hid (Below w.heap.size w y2):=KB4.out.trans ((hc).mono KB4.out.size)
  have M1n:Hid (Lies y2 (y1.heap.size) V1 32):=M1.out.below (hc) M1.out.lt
  clear M1
  have M1:=M1n
  clear M1n
  have N1n:Hid (Lies y2 (y1.heap.size+1) #[.int .i64 (er:Int),.int .i64 (at':Int)] 35):=N1.out.below (hc) N1.out.lt
  clear N1
  have N1:=N1n
  clear N1n
  have P1n:Hid (PA p V1 y2):=P1.out.below (hc)
  clear P1
  have P1:=P1n
  clear P1n
  clear KB4
  have P2:Hid (PA p V2 y2):=hA
  have z2:Hid (V2.size=21):=hA.size hp.ok.2.len
  have o2:Hid (V2.all (·.oneCell')=true):=hA.one
  clear hA hc
  have A:Hid (Lies ((y2.alloc (.cells #[.int .i64 0,.slice none 0 0,.string ⟨#[]⟩,.int .i64 0,.string ⟨#[]⟩,.int .u8 0,.int .u8 0,.int .u8 0,.int .u8 0,.int .u8 0,.int .u8 0,.int .u8 0,.int .u8 0,.int .u8 0,.int .u8 0,.int .u8 0,.int .u8 0,.int .u8 0,.int .u8 0,.int .u8 0,.int .u8 0] 32)).alloc (.cells #[.int .i64 0,.int .i64 0] 35)) y2.heap.size #[.int .i64 0,.slice none 0 0,.string ⟨#[]⟩,.int .i64 0,.string ⟨#[]⟩,.int .u8 0,.int .u8 0,.int .u8 0,.int .u8 0,.int .u8 0,.int .u8 0,.int .u8 0,.int .u8 0,.int .u8 0,.int .u8 0,.int .u8 0,.int .u8 0,.int .u8 0,.int .u8 0,.int .u8 0,.int .u8 0] 32):=(Lies.new y2 _ _).alloc _
  have B:Hid (Lies ((y2.alloc (.cells #[.int .i64 0,.slice none 0 0,.string ⟨#[]⟩,.int .i64 0,.string ⟨#[]⟩,.int .u8 0,.int .u8 0,.int .u8 0,.int .u8 0,.int .u8 0,.int .u8 0,.int .u8 0,.int .u8 0,.int .u8 0,.int .u8 0,.int .u8 0,.int .u8 0,.int .u8 0,.int .u8 0,.int .u8 0,.int .u8 0] 32)).alloc (.cells #[.int .i64 0,.int .i64 0] 35)) (y2.heap.size+1) #[.int .i64 0,.int .i64 0] 35):=new_one y2 _ _ _
  have M2:Hid (Lies ((((y2.alloc (.cells #[.int .i64 0,.slice none 0 0,.string ⟨#[]⟩,.int .i64 0,.string ⟨#[]⟩,.int .u8 0,.int .u8 0,.int .u8 0,.int .u8 0,.int .u8 0,.int .u8 0,.int .u8 0,.int .u8 0,.int .u8 0,.int .u8 0,.int .u8 0,.int .u8 0,.int .u8 0,.int .u8 0,.int .u8 0,.int .u8 0] 32)).alloc (.cells #[.int .i64 0,.int .i64 0] 35)).setRow y2.heap.size V2).setRow (y2.heap.size+1) #[.int .i64 0,.int .i64 0]) y2.heap.size V2 32):=(A.out.row _).row_other (by omega) _
  have N2:Hid (Lies ((((y2.alloc (.cells #[.int .i64 0,.slice none 0 0,.string ⟨#[]⟩,.int .i64 0,.string ⟨#[]⟩,.int .u8 0,.int .u8 0,.int .u8 0,.int .u8 0,.int .u8 0,.int .u8 0,.int .u8 0,.int .u8 0,.int .u8 0,.int .u8 0,.int .u8 0,.int .u8 0,.int .u8 0,.int .u8 0,.int .u8 0,.int .u8 0] 32)).alloc (.cells #[.int .i64 0,.int .i64 0] 35)).setRow y2.heap.size V2).setRow (y2.heap.size+1) #[.int .i64 0,.int .i64 0]) (y2.heap.size+1) #[.int .i64 0,.int .i64 0] 35):=(B.out.row_other (by omega) _).row _
  have BB:Hid (Below y2.heap.size y2 ((((y2.alloc (.cells #[.int .i64 0,.slice none 0 0,.string ⟨#[]⟩,.int .i64 0,.string ⟨#[]⟩,.int .u8 0,.int .u8 0,.int .u8 0,.int .u8 0,.int .u8 0,.int .u8 0,.int .u8 0,.int .u8 0,.int .u8 0,.int .u8 0,.int .u8 0,.int .u8 0,.int .u8 0,.int .u8 0,.int .u8 0,.int .u8 0] 32)).alloc (.cells #[.int .i64 0,.int .i64 0] 35)).setRow y2.heap.size V2).setRow (y2.heap.size+1) #[.int .i64 0,.int .i64 0])):=below_row (below_row (((Below.refl _ _).alloc (Nat.le_refl _) _).alloc (by simp) _) (Nat.le_refl _) _) (by omega) _
  have KB6:Hid (Below w.heap.size w ((((y2.alloc (.cells #[.int .i64 0,.slice none 0 0,.string ⟨#[]⟩,.int .i64 0,.string ⟨#[]⟩,.int .u8 0,.int .u8 0,.int .u8 0,.int .u8 0,.int .u8 0,.int .u8 0,.int .u8 0,.int .u8 0,.int .u8 0,.int .u8 0,.int .u8 0,.int .u8 0,.int .u8 0,.int .u8 0,.int .u8 0,.int .u8 0] 32)).alloc (.cells #[.int .i64 0,.int .i64 0] 35)).setRow y2.heap.size V2).setRow (y2.heap.size+1) #[.int .i64 0,.int .i64 0])):=KB5.out.trans ((BB.out).mono KB5.out.size)
  have M1n:Hid (Lies ((((y2.alloc (.cells #[.int .i64 0,.slice none 0 0,.string ⟨#[]⟩,.int .i64 0,.string ⟨#[]⟩,.int .u8 0,.int .u8 0,.int .u8 0,.int .u8 0,.int .u8 0,.int .u8 0,.int .u8 0,.int .u8 0,.int .u8 0,.int .u8 0,.int .u8 0,.int .u8 0,.int .u8 0,.int .u8 0,.int .u8 0,.int .u8 0] 32)).alloc (.cells #[.int .i64 0,.int .i64 0] 35)).setRow y2.heap.size V2).setRow (y2.heap.size+1) #[.int .i64 0,.int .i64 0]) (y1.heap.size) V1 32):=M1.out.below (BB.out) M1.out.lt
  clear M1
  have M1:=M1n
  clear M1n
  have N1n:Hid (Lies ((((y2.alloc (.cells #[.int .i64 0,.slice none 0 0,.string ⟨#[]⟩,.int .i64 0,.string ⟨#[]⟩,.int .u8 0,.int .u8 0,.int .u8 0,.int .u8 0,.int .u8 0,.int .u8 0,.int .u8 0,.int .u8 0,.int .u8 0,.int .u8 0,.int .u8 0,.int .u8 0,.int .u8 0,.int .u8 0,.int .u8 0,.int .u8 0] 32)).alloc (.cells #[.int .i64 0,.int .i64 0] 35)).setRow y2.heap.size V2).setRow (y2.heap.size+1) #[.int .i64 0,.int .i64 0]) (y1.heap.size+1) #[.int .i64 (er:Int),.int .i64 (at':Int)] 35):=N1.out.below (BB.out) N1.out.lt
  clear N1
  have N1:=N1n
  clear N1n
  have P1n:Hid (PA p V1 ((((y2.alloc (.cells #[.int .i64 0,.slice none 0 0,.string ⟨#[]⟩,.int .i64 0,.string ⟨#[]⟩,.int .u8 0,.int .u8 0,.int .u8 0,.int .u8 0,.int .u8 0,.int .u8 0,.int .u8 0,.int .u8 0,.int .u8 0,.int .u8 0,.int .u8 0,.int .u8 0,.int .u8 0,.int .u8 0,.int .u8 0,.int .u8 0] 32)).alloc (.cells #[.int .i64 0,.int .i64 0] 35)).setRow y2.heap.size V2).setRow (y2.heap.size+1) #[.int .i64 0,.int .i64 0])):=P1.out.below (BB.out)
  clear P1
  have P1:=P1n
  clear P1n
  have P2n:Hid (PA p V2 ((((y2.alloc (.cells #[.int .i64 0,.slice none 0 0,.string ⟨#[]⟩,.int .i64 0,.string ⟨#[]⟩,.int .u8 0,.int .u8 0,.int .u8 0,.int .u8 0,.int .u8 0,.int .u8 0,.int .u8 0,.int .u8 0,.int .u8 0,.int .u8 0,.int .u8 0,.int .u8 0,.int .u8 0,.int .u8 0,.int .u8 0,.int .u8 0] 32)).alloc (.cells #[.int .i64 0,.int .i64 0] 35)).setRow y2.heap.size V2).setRow (y2.heap.size+1) #[.int .i64 0,.int .i64 0])):=P2.out.below (BB.out)
  clear P2
  have P2:=P2n
  clear P2n
  clear KB5
  go_upto_region 10 with(first|(refine wpList_store_row rfl 32 _ _ rfl y2.heap.size rfl #[.int .i64 0,.slice none 0 0,.string ⟨#[]⟩,.int .i64 0,.string ⟨#[]⟩,.int .u8 0,.int .u8 0,.int .u8 0,.int .u8 0,.int .u8 0,.int .u8 0,.int .u8 0,.int .u8 0,.int .u8 0,.int .u8 0,.int .u8 0,.int .u8 0,.int .u8 0,.int .u8 0,.int .u8 0,.int .u8 0] V2 rfl 32 A.out (by rw[z2.out];exact infoPt) (by rw[z2.out];rfl) o2.out rfl ?_)|(refine wpList_store_row rfl 35 _ _ rfl (y2.heap.size+1) rfl #[.int .i64 0,.int .i64 0] #[.int .i64 0,.int .i64 0] rfl 35 (B.out.row_other (by omega) _) infoSp rfl (by simp[Value.oneCell']) rfl ?_))
  generalize hv2:(((y2.alloc (.cells #[.int .i64 0,.slice none 0 0,.string ⟨#[]⟩,.int .i64 0,.string ⟨#[]⟩,.int .u8 0,.int .u8 0,.int .u8 0,.int .u8 0,.int .u8 0,.int .u8 0,.int .u8 0,.int .u8 0,.int .u8 0,.int .u8 0,.int .u8 0,.int .u8 0,.int .u8 0,.int .u8 0,.int .u8 0,.int .u8 0] 32)).alloc (.cells #[.int .i64 0,.int .i64 0] 35)).setRow y2.heap.size V2).setRow (y2.heap.size+1) #[.int .i64 0,.int .i64 0]=v2 at M2 N2 KB6 M1 N1 P1 P2 ⊢
  clear hv2 A B BB
  refine wp_region_lit ?_
  refine wpList_load_row9 (by rfl) 32 _ rfl (y2.heap.size) rfl V2 32 _ M2.out Tryz.underlying32 rfl (by rw[z2.out];exact infoPt) ?_
  simp only[Act.put,pA,pB,pC]
  refine wpList_load_row9 (by rfl) 32 _ rfl (y1.heap.size) rfl V1 32 _ M1.out Tryz.underlying32 rfl (by rw[z1.out];exact infoPt) ?_
  simp only[Act.put,pA,pB,pC]
  refine wpList_onG (by rfl) ?_
  go_simp
  refine Calls.mono (HO.sm _ _ _ P2.out P1.out) ?_
  rintro e c10 ⟨rfl,hc⟩
  have KB7:Hid (Below w.heap.size w c10):=KB6.out.trans ((hc).mono KB6.out.size)
  have M1n:Hid (Lies c10 (y1.heap.size) V1 32):=M1.out.below (hc) M1.out.lt
  clear M1
  have M1:=M1n
  clear M1n
  have N1n:Hid (Lies c10 (y1.heap.size+1) #[.int .i64 (er:Int),.int .i64 (at':Int)] 35):=N1.out.below (hc) N1.out.lt
  clear N1
  have N1:=N1n
  clear N1n
  have M2n:Hid (Lies c10 (y2.heap.size) V2 32):=M2.out.below (hc) M2.out.lt
  clear M2
  have M2:=M2n
  clear M2n
  have N2n:Hid (Lies c10 (y2.heap.size+1) #[.int .i64 0,.int .i64 0] 35):=N2.out.below (hc) N2.out.lt
  clear N2
  have N2:=N2n
  clear N2n
  have P1n:Hid (PA p V1 c10):=P1.out.below (hc)
  clear P1
  have P1:=P1n
  clear P1n
  have P2n:Hid (PA p V2 c10):=P2.out.below (hc)
  clear P2
  have P2:=P2n
  clear P2n
  clear KB6
  clear hc
  refine wpList_yieldG (.bool false) (by rfl) ?hy ?_
  case hy=>(go_simp<;>(first|with_reducible rfl|omega|skip))
  simp only[Act.put,pA,pB,pC]
  refine wpList_yieldG (.bool false) (by rfl) ?hy ?_
  case hy=>(go_simp<;>(first|with_reducible rfl|omega|skip))
  simp only[Act.put,pA,pB,pC]
  refine wpList_yieldG (.int .i64 (n:Int)) (by rfl) ?hy ?_
  case hy=>(go_simp<;>(first|with_reducible rfl|omega|skip))
  simp only[Act.put,pA,pB,pC]
  refine wpList_yieldG (.int .i64 (n:Int)) (by rfl) ?hy ?_
  case hy=>(go_simp<;>(first|with_reducible rfl|omega|skip))
  simp only[Act.put,pA,pB,pC]
  refine wpList_yieldG (.bool false) (by rfl) ?hy ?_
  case hy=>(go_simp<;>(first|with_reducible rfl|omega|skip))
  simp only[Act.put,pA,pB,pC]
  refine wpList_yieldG (.bool false) (by rfl) ?hy ?_
  case hy=>(go_simp<;>(first|with_reducible rfl|omega|skip))
  simp only[Act.put,pA,pB,pC]
  refine wpList_yieldG (.bool false) (by rfl) ?hy ?_
  case hy=>(go_simp<;>(first|with_reducible rfl|omega|skip))
  simp only[Act.put,pA,pB,pC]
  refine wpList_load_row9 (by rfl) 35 _ rfl (y2.heap.size+1) rfl #[.int .i64 0,.int .i64 0] 35 _ N2.out Tryz.underlying35 rfl infoSp ?_
  simp only[Act.put,pA,pB,pC]
  refine wpList_yieldG (.agg #[.int .i64 0,.int .i64 0]) (by rfl) ?hy ?_
  case hy=>(go_simp<;>(first|with_reducible rfl|omega|skip))
  simp only[Act.put,pA,pB,pC]
  refine wpList_yieldG (.bool false) (by rfl) ?hy ?_
  case hy=>(go_simp<;>(first|with_reducible rfl|omega|skip))
  simp only[Act.put,pA,pB,pC]
  refine wpList_yieldG (.bool false) (by rfl) ?hy ?_
  case hy=>(go_simp<;>(first|with_reducible rfl|omega|skip))
  simp only[Act.put,pA,pB,pC]
  refine wpList_nil ?_
  have hrm:=Int.tmod_lt_of_pos cut (show(0:Int)<(n:Int) by omega)
  have hrn: -(n:Int)<Int.tmod cut n:=by
   have:=Int.lt_tmod_of_pos cut (show(0:Int)<(n:Int) by omega)
   exact this
  have hn0:¬(n:Int)=0:=by omega
  go_upto_region 13 with(first|(refine wpList_load_row9 (by rfl) 32 _ rfl (y1.heap.size) rfl V1 32 _ M1.out Tryz.underlying32 rfl (by rw[z1.out];exact infoPt) ?_)|(refine wpList_load_row9 (by rfl) 35 _ rfl (y1.heap.size+1) rfl #[.int .i64 (er:Int),.int .i64 (at':Int)] 35 _ N1.out Tryz.underlying35 rfl infoSp ?_)|(refine wpList_load_row9 (by rfl) 32 _ rfl (y2.heap.size) rfl V2 32 _ M2.out Tryz.underlying32 rfl (by rw[z2.out];exact infoPt) ?_)|(refine wpList_load_row9 (by rfl) 35 _ rfl (y2.heap.size+1) rfl #[.int .i64 0,.int .i64 0] 35 _ N2.out Tryz.underlying35 rfl infoSp ?_))
  generalize Int.tmod cut n=m at hrm hrn ⊢
  by_cases hm0:m<0
  ·obtain⟨kk,hkk⟩:∃kk:Nat,(kk:Int)=m+n:=⟨(m+n).toNat,by omega⟩
   have hkn:kk<n:=by omega
   have hwr:IntKind.i64.wrap (m+(n:Int))=(kk:Int):=by rw[hkk];exact wrap_add' m n (by omega)
   clear hkk
   have hks:(kk:Int)≤(S.size:Int):=by omega
   have hks0:kk≤S.size:=by omega
   go_upto_region 15 with(first|(refine wpList_load_row9 (by rfl) 32 _ rfl (y1.heap.size) rfl V1 32 _ M1.out Tryz.underlying32 rfl (by rw[z1.out];exact infoPt) ?_)|(refine wpList_load_row9 (by rfl) 35 _ rfl (y1.heap.size+1) rfl #[.int .i64 (er:Int),.int .i64 (at':Int)] 35 _ N1.out Tryz.underlying35 rfl infoSp ?_)|(refine wpList_load_row9 (by rfl) 32 _ rfl (y2.heap.size) rfl V2 32 _ M2.out Tryz.underlying32 rfl (by rw[z2.out];exact infoPt) ?_)|(refine wpList_load_row9 (by rfl) 35 _ rfl (y2.heap.size+1) rfl #[.int .i64 0,.int .i64 0] 35 _ N2.out Tryz.underlying35 rfl infoSp ?_))
   obtain⟨e3,q3,he3,hq3,HK⟩:=HO.cu kk hkn
   have he3':((e3:Int) != 0)=true:=by rw[bne_iff_ne];omega
   have hq3':(q3:Int)≤(kk:Int):=by omega
   go_wp2_with (first|(refine wpList_load_row9 (by rfl) 32 _ rfl (y1.heap.size) rfl V1 32 _ M1.out Tryz.underlying32 rfl (by rw[z1.out];exact infoPt) ?_)|(refine wpList_load_row9 (by rfl) 35 _ rfl (y1.heap.size+1) rfl #[.int .i64 (er:Int),.int .i64 (at':Int)] 35 _ N1.out Tryz.underlying35 rfl infoSp ?_)|(refine wpList_load_row9 (by rfl) 32 _ rfl (y2.heap.size) rfl V2 32 _ M2.out Tryz.underlying32 rfl (by rw[z2.out];exact infoPt) ?_)|(refine wpList_load_row9 (by rfl) 35 _ rfl (y2.heap.size+1) rfl #[.int .i64 0,.int .i64 0] 35 _ N2.out Tryz.underlying35 rfl infoSp ?_))
   refine Calls.mono (HK _ KB7.out) ?_
   rintro e y3 ⟨V3,rfl,hA,hc⟩
   have KB8:Hid (Below w.heap.size w y3):=KB7.out.trans ((hc).mono KB7.out.size)
   have M1n:Hid (Lies y3 (y1.heap.size) V1 32):=M1.out.below (hc) M1.out.lt
   clear M1
   have M1:=M1n
   clear M1n
   have N1n:Hid (Lies y3 (y1.heap.size+1) #[.int .i64 (er:Int),.int .i64 (at':Int)] 35):=N1.out.below (hc) N1.out.lt
   clear N1
   have N1:=N1n
   clear N1n
   have M2n:Hid (Lies y3 (y2.heap.size) V2 32):=M2.out.below (hc) M2.out.lt
   clear M2
   have M2:=M2n
   clear M2n
   have N2n:Hid (Lies y3 (y2.heap.size+1) #[.int .i64 0,.int .i64 0] 35):=N2.out.below (hc) N2.out.lt
   clear N2
   have N2:=N2n
   clear N2n
   have P1n:Hid (PA p V1 y3):=P1.out.below (hc)
   clear P1
   have P1:=P1n
   clear P1n
   have P2n:Hid (PA p V2 y3):=P2.out.below (hc)
   clear P2
   have P2:=P2n
   clear P2n
   clear KB7
   have P3:Hid (PA ⟨0,[],[],ho0⟩ V3 y3):=hA
   have z3:Hid (V3.size=21):=hA.size (ho0_in 0).ok.2.len
   have o3:Hid (V3.all (·.oneCell')=true):=hA.one
   clear hA hc
   have A:Hid (Lies ((y3.alloc (.cells #[.int .i64 0,.slice none 0 0,.string ⟨#[]⟩,.int .i64 0,.string ⟨#[]⟩,.int .u8 0,.int .u8 0,.int .u8 0,.int .u8 0,.int .u8 0,.int .u8 0,.int .u8 0,.int .u8 0,.int .u8 0,.int .u8 0,.int .u8 0,.int .u8 0,.int .u8 0,.int .u8 0,.int .u8 0,.int .u8 0] 32)).alloc (.cells #[.int .i64 0,.int .i64 0] 35)) y3.heap.size #[.int .i64 0,.slice none 0 0,.string ⟨#[]⟩,.int .i64 0,.string ⟨#[]⟩,.int .u8 0,.int .u8 0,.int .u8 0,.int .u8 0,.int .u8 0,.int .u8 0,.int .u8 0,.int .u8 0,.int .u8 0,.int .u8 0,.int .u8 0,.int .u8 0,.int .u8 0,.int .u8 0,.int .u8 0,.int .u8 0] 32):=(Lies.new y3 _ _).alloc _
   have B:Hid (Lies ((y3.alloc (.cells #[.int .i64 0,.slice none 0 0,.string ⟨#[]⟩,.int .i64 0,.string ⟨#[]⟩,.int .u8 0,.int .u8 0,.int .u8 0,.int .u8 0,.int .u8 0,.int .u8 0,.int .u8 0,.int .u8 0,.int .u8 0,.int .u8 0,.int .u8 0,.int .u8 0,.int .u8 0,.int .u8 0,.int .u8 0,.int .u8 0] 32)).alloc (.cells #[.int .i64 0,.int .i64 0] 35)) (y3.heap.size+1) #[.int .i64 0,.int .i64 0] 35):=new_one y3 _ _ _
   have M3:Hid (Lies ((((y3.alloc (.cells #[.int .i64 0,.slice none 0 0,.string ⟨#[]⟩,.int .i64 0,.string ⟨#[]⟩,.int .u8 0,.int .u8 0,.int .u8 0,.int .u8 0,.int .u8 0,.int .u8 0,.int .u8 0,.int .u8 0,.int .u8 0,.int .u8 0,.int .u8 0,.int .u8 0,.int .u8 0,.int .u8 0,.int .u8 0,.int .u8 0] 32)).alloc (.cells #[.int .i64 0,.int .i64 0] 35)).setRow y3.heap.size V3).setRow (y3.heap.size+1) #[.int .i64 (e3:Int),.int .i64 (q3:Int)]) y3.heap.size V3 32):=(A.out.row _).row_other (by omega) _
   have N3:Hid (Lies ((((y3.alloc (.cells #[.int .i64 0,.slice none 0 0,.string ⟨#[]⟩,.int .i64 0,.string ⟨#[]⟩,.int .u8 0,.int .u8 0,.int .u8 0,.int .u8 0,.int .u8 0,.int .u8 0,.int .u8 0,.int .u8 0,.int .u8 0,.int .u8 0,.int .u8 0,.int .u8 0,.int .u8 0,.int .u8 0,.int .u8 0,.int .u8 0] 32)).alloc (.cells #[.int .i64 0,.int .i64 0] 35)).setRow y3.heap.size V3).setRow (y3.heap.size+1) #[.int .i64 (e3:Int),.int .i64 (q3:Int)]) (y3.heap.size+1) #[.int .i64 (e3:Int),.int .i64 (q3:Int)] 35):=(B.out.row_other (by omega) _).row _
   have BB:Hid (Below y3.heap.size y3 ((((y3.alloc (.cells #[.int .i64 0,.slice none 0 0,.string ⟨#[]⟩,.int .i64 0,.string ⟨#[]⟩,.int .u8 0,.int .u8 0,.int .u8 0,.int .u8 0,.int .u8 0,.int .u8 0,.int .u8 0,.int .u8 0,.int .u8 0,.int .u8 0,.int .u8 0,.int .u8 0,.int .u8 0,.int .u8 0,.int .u8 0,.int .u8 0] 32)).alloc (.cells #[.int .i64 0,.int .i64 0] 35)).setRow y3.heap.size V3).setRow (y3.heap.size+1) #[.int .i64 (e3:Int),.int .i64 (q3:Int)])):=below_row (below_row (((Below.refl _ _).alloc (Nat.le_refl _) _).alloc (by simp) _) (Nat.le_refl _) _) (by omega) _
   have KB9:Hid (Below w.heap.size w ((((y3.alloc (.cells #[.int .i64 0,.slice none 0 0,.string ⟨#[]⟩,.int .i64 0,.string ⟨#[]⟩,.int .u8 0,.int .u8 0,.int .u8 0,.int .u8 0,.int .u8 0,.int .u8 0,.int .u8 0,.int .u8 0,.int .u8 0,.int .u8 0,.int .u8 0,.int .u8 0,.int .u8 0,.int .u8 0,.int .u8 0,.int .u8 0] 32)).alloc (.cells #[.int .i64 0,.int .i64 0] 35)).setRow y3.heap.size V3).setRow (y3.heap.size+1) #[.int .i64 (e3:Int),.int .i64 (q3:Int)])):=KB8.out.trans ((BB.out).mono KB8.out.size)
   have M1n:Hid (Lies ((((y3.alloc (.cells #[.int .i64 0,.slice none 0 0,.string ⟨#[]⟩,.int .i64 0,.string ⟨#[]⟩,.int .u8 0,.int .u8 0,.int .u8 0,.int .u8 0,.int .u8 0,.int .u8 0,.int .u8 0,.int .u8 0,.int .u8 0,.int .u8 0,.int .u8 0,.int .u8 0,.int .u8 0,.int .u8 0,.int .u8 0,.int .u8 0] 32)).alloc (.cells #[.int .i64 0,.int .i64 0] 35)).setRow y3.heap.size V3).setRow (y3.heap.size+1) #[.int .i64 (e3:Int),.int .i64 (q3:Int)]) (y1.heap.size) V1 32):=M1.out.below (BB.out) M1.out.lt
   clear M1
   have M1:=M1n
   clear M1n
   have N1n:Hid (Lies ((((y3.alloc (.cells #[.int .i64 0,.slice none 0 0,.string ⟨#[]⟩,.int .i64 0,.string ⟨#[]⟩,.int .u8 0,.int .u8 0,.int .u8 0,.int .u8 0,.int .u8 0,.int .u8 0,.int .u8 0,.int .u8 0,.int .u8 0,.int .u8 0,.int .u8 0,.int .u8 0,.int .u8 0,.int .u8 0,.int .u8 0,.int .u8 0] 32)).alloc (.cells #[.int .i64 0,.int .i64 0] 35)).setRow y3.heap.size V3).setRow (y3.heap.size+1) #[.int .i64 (e3:Int),.int .i64 (q3:Int)]) (y1.heap.size+1) #[.int .i64 (er:Int),.int .i64 (at':Int)] 35):=N1.out.below (BB.out) N1.out.lt
   clear N1
   have N1:=N1n
   clear N1n
   have M2n:Hid (Lies ((((y3.alloc (.cells #[.int .i64 0,.slice none 0 0,.string ⟨#[]⟩,.int .i64 0,.string ⟨#[]⟩,.int .u8 0,.int .u8 0,.int .u8 0,.int .u8 0,.int .u8 0,.int .u8 0,.int .u8 0,.int .u8 0,.int .u8 0,.int .u8 0,.int .u8 0,.int .u8 0,.int .u8 0,.int .u8 0,.int .u8 0,.int .u8 0] 32)).alloc (.cells #[.int .i64 0,.int .i64 0] 35)).setRow y3.heap.size V3).setRow (y3.heap.size+1) #[.int .i64 (e3:Int),.int .i64 (q3:Int)]) (y2.heap.size) V2 32):=M2.out.below (BB.out) M2.out.lt
   clear M2
   have M2:=M2n
   clear M2n
   have N2n:Hid (Lies ((((y3.alloc (.cells #[.int .i64 0,.slice none 0 0,.string ⟨#[]⟩,.int .i64 0,.string ⟨#[]⟩,.int .u8 0,.int .u8 0,.int .u8 0,.int .u8 0,.int .u8 0,.int .u8 0,.int .u8 0,.int .u8 0,.int .u8 0,.int .u8 0,.int .u8 0,.int .u8 0,.int .u8 0,.int .u8 0,.int .u8 0,.int .u8 0] 32)).alloc (.cells #[.int .i64 0,.int .i64 0] 35)).setRow y3.heap.size V3).setRow (y3.heap.size+1) #[.int .i64 (e3:Int),.int .i64 (q3:Int)]) (y2.heap.size+1) #[.int .i64 0,.int .i64 0] 35):=N2.out.below (BB.out) N2.out.lt
   clear N2
   have N2:=N2n
   clear N2n
   have P1n:Hid (PA p V1 ((((y3.alloc (.cells #[.int .i64 0,.slice none 0 0,.string ⟨#[]⟩,.int .i64 0,.string ⟨#[]⟩,.int .u8 0,.int .u8 0,.int .u8 0,.int .u8 0,.int .u8 0,.int .u8 0,.int .u8 0,.int .u8 0,.int .u8 0,.int .u8 0,.int .u8 0,.int .u8 0,.int .u8 0,.int .u8 0,.int .u8 0,.int .u8 0] 32)).alloc (.cells #[.int .i64 0,.int .i64 0] 35)).setRow y3.heap.size V3).setRow (y3.heap.size+1) #[.int .i64 (e3:Int),.int .i64 (q3:Int)])):=P1.out.below (BB.out)
   clear P1
   have P1:=P1n
   clear P1n
   have P2n:Hid (PA p V2 ((((y3.alloc (.cells #[.int .i64 0,.slice none 0 0,.string ⟨#[]⟩,.int .i64 0,.string ⟨#[]⟩,.int .u8 0,.int .u8 0,.int .u8 0,.int .u8 0,.int .u8 0,.int .u8 0,.int .u8 0,.int .u8 0,.int .u8 0,.int .u8 0,.int .u8 0,.int .u8 0,.int .u8 0,.int .u8 0,.int .u8 0,.int .u8 0] 32)).alloc (.cells #[.int .i64 0,.int .i64 0] 35)).setRow y3.heap.size V3).setRow (y3.heap.size+1) #[.int .i64 (e3:Int),.int .i64 (q3:Int)])):=P2.out.below (BB.out)
   clear P2
   have P2:=P2n
   clear P2n
   have P3n:Hid (PA ⟨0,[],[],ho0⟩ V3 ((((y3.alloc (.cells #[.int .i64 0,.slice none 0 0,.string ⟨#[]⟩,.int .i64 0,.string ⟨#[]⟩,.int .u8 0,.int .u8 0,.int .u8 0,.int .u8 0,.int .u8 0,.int .u8 0,.int .u8 0,.int .u8 0,.int .u8 0,.int .u8 0,.int .u8 0,.int .u8 0,.int .u8 0,.int .u8 0,.int .u8 0,.int .u8 0] 32)).alloc (.cells #[.int .i64 0,.int .i64 0] 35)).setRow y3.heap.size V3).setRow (y3.heap.size+1) #[.int .i64 (e3:Int),.int .i64 (q3:Int)])):=P3.out.below (BB.out)
   clear P3
   have P3:=P3n
   clear P3n
   clear KB8
   go_upto_region 16 with(first|(refine wpList_store_row rfl 32 _ _ rfl y3.heap.size rfl #[.int .i64 0,.slice none 0 0,.string ⟨#[]⟩,.int .i64 0,.string ⟨#[]⟩,.int .u8 0,.int .u8 0,.int .u8 0,.int .u8 0,.int .u8 0,.int .u8 0,.int .u8 0,.int .u8 0,.int .u8 0,.int .u8 0,.int .u8 0,.int .u8 0,.int .u8 0,.int .u8 0,.int .u8 0,.int .u8 0] V3 rfl 32 A.out (by rw[z3.out];exact infoPt) (by rw[z3.out];rfl) o3.out rfl ?_)|(refine wpList_store_row rfl 35 _ _ rfl (y3.heap.size+1) rfl #[.int .i64 0,.int .i64 0] #[.int .i64 (e3:Int),.int .i64 (q3:Int)] rfl 35 (B.out.row_other (by omega) _) infoSp rfl (by simp[Value.oneCell']) rfl ?_))
   generalize hv3:(((y3.alloc (.cells #[.int .i64 0,.slice none 0 0,.string ⟨#[]⟩,.int .i64 0,.string ⟨#[]⟩,.int .u8 0,.int .u8 0,.int .u8 0,.int .u8 0,.int .u8 0,.int .u8 0,.int .u8 0,.int .u8 0,.int .u8 0,.int .u8 0,.int .u8 0,.int .u8 0,.int .u8 0,.int .u8 0,.int .u8 0,.int .u8 0] 32)).alloc (.cells #[.int .i64 0,.int .i64 0] 35)).setRow y3.heap.size V3).setRow (y3.heap.size+1) #[.int .i64 (e3:Int),.int .i64 (q3:Int)]=v3 at M3 N3 KB9 M1 N1 M2 N2 P1 P2 P3 ⊢
   clear hv3 A B BB
   have f30:v3.cell? ⟨y3.heap.size+1,0,none⟩=some (.int .i64 (e3:Int)):=N3.out.cell 0
   have f31:v3.cell? ⟨y3.heap.size+1,1,none⟩=some (.int .i64 (q3:Int)):=N3.out.cell 1
   refine wp_region_lit ?_
   refine wpList_load_row9 (by rfl) 32 _ rfl (y3.heap.size) rfl V3 32 _ M3.out Tryz.underlying32 rfl (by rw[z3.out];exact infoPt) ?_
   simp only[Act.put,pA,pB,pC]
   refine wpList_yieldG (.agg #[.int .i64 0,.slice none 0 0,.string ⟨#[]⟩,.int .i64 0,.string ⟨#[]⟩,.int .u8 0,.int .u8 0,.int .u8 0,.int .u8 0,.int .u8 0,.int .u8 0,.int .u8 0,.int .u8 0,.int .u8 0,.int .u8 0,.int .u8 0,.int .u8 0,.int .u8 0,.int .u8 0,.int .u8 0,.int .u8 0]) (by rfl) ?hy ?_
   case hy=>(go_simp<;>(first|with_reducible rfl|omega|skip))
   simp only[Act.put,pA,pB,pC]
   refine wpList_onG (by rfl) ?_
   go_simp
   refine Calls.mono (HZ.out _ _ P3.out) ?_
   rintro e c16 ⟨rfl,hc⟩
   have g30:c16.cell? ⟨y3.heap.size+1,0,none⟩=some (.int .i64 (e3:Int)):=((N3.out.below hc N3.out.lt).cell 0)
   have g31:c16.cell? ⟨y3.heap.size+1,1,none⟩=some (.int .i64 (q3:Int)):=((N3.out.below hc N3.out.lt).cell 1)
   have KB10:Hid (Below w.heap.size w c16):=KB9.out.trans ((hc).mono KB9.out.size)
   have M1n:Hid (Lies c16 (y1.heap.size) V1 32):=M1.out.below (hc) M1.out.lt
   clear M1
   have M1:=M1n
   clear M1n
   have N1n:Hid (Lies c16 (y1.heap.size+1) #[.int .i64 (er:Int),.int .i64 (at':Int)] 35):=N1.out.below (hc) N1.out.lt
   clear N1
   have N1:=N1n
   clear N1n
   have M2n:Hid (Lies c16 (y2.heap.size) V2 32):=M2.out.below (hc) M2.out.lt
   clear M2
   have M2:=M2n
   clear M2n
   have N2n:Hid (Lies c16 (y2.heap.size+1) #[.int .i64 0,.int .i64 0] 35):=N2.out.below (hc) N2.out.lt
   clear N2
   have N2:=N2n
   clear N2n
   have M3n:Hid (Lies c16 (y3.heap.size) V3 32):=M3.out.below (hc) M3.out.lt
   clear M3
   have M3:=M3n
   clear M3n
   have N3n:Hid (Lies c16 (y3.heap.size+1) #[.int .i64 (e3:Int),.int .i64 (q3:Int)] 35):=N3.out.below (hc) N3.out.lt
   clear N3
   have N3:=N3n
   clear N3n
   have P1n:Hid (PA p V1 c16):=P1.out.below (hc)
   clear P1
   have P1:=P1n
   clear P1n
   have P2n:Hid (PA p V2 c16):=P2.out.below (hc)
   clear P2
   have P2:=P2n
   clear P2n
   have P3n:Hid (PA ⟨0,[],[],ho0⟩ V3 c16):=P3.out.below (hc)
   clear P3
   have P3:=P3n
   clear P3n
   clear KB9
   clear hc
   refine wpList_yieldG (.bool true) (by rfl) ?hy ?_
   case hy=>(go_simp<;>(first|with_reducible rfl|omega|skip))
   simp only[Act.put,pA,pB,pC]
   refine wpList_yieldG (.int .i64 0) (by rfl) ?hy ?_
   case hy=>(go_simp<;>(first|with_reducible rfl|omega|skip))
   simp only[Act.put,pA,pB,pC]
   refine wpList_yieldG (.bool true) (by rfl) ?hy ?_
   case hy=>(go_simp<;>(first|with_reducible rfl|omega|skip))
   simp only[Act.put,pA,pB,pC]
   refine wpList_yieldG (.bool true) (by rfl) ?hy ?_
   case hy=>(go_simp<;>(first|with_reducible rfl|omega|skip))
   simp only[Act.put,pA,pB,pC]
   refine wpList_yieldG (.bool true) (by rfl) ?hy ?_
   case hy=>(go_simp<;>(first|with_reducible rfl|omega|skip))
   simp only[Act.put,pA,pB,pC]
   refine wpList_yieldG (.pointer (some ⟨y3.heap.size+1,0,none⟩)) (by rfl) ?hy ?_
   case hy=>(go_simp<;>(first|with_reducible rfl|omega|skip))
   simp only[Act.put,pA,pB,pC]
   refine wpList_yieldG (.int .i64 (e3:Int)) (by rfl) ?hy ?_
   case hy=>(go_simp<;>(first|with_reducible rfl|omega|skip))
   simp only[Act.put,pA,pB,pC]
   refine wpList_yieldG (.bool true) (by rfl) ?hy ?_
   case hy=>(go_simp<;>(first|with_reducible rfl|omega|skip))
   simp only[Act.put,pA,pB,pC]
   refine wpList_yieldG (.bool true) (by rfl) ?hy ?_
   case hy=>(go_simp<;>(first|with_reducible rfl|omega|skip))
   simp only[Act.put,pA,pB,pC]
   refine wpList_yieldG (.bool true) (by rfl) ?hy ?_
   case hy=>(go_simp<;>(first|with_reducible rfl|omega|skip))
   simp only[Act.put,pA,pB,pC]
   refine wpList_yieldG (.pointer (some ⟨y3.heap.size+1,1,none⟩)) (by rfl) ?hy ?_
   case hy=>(go_simp<;>(first|with_reducible rfl|omega|skip))
   simp only[Act.put,pA,pB,pC]
   refine wpList_yieldG (.int .i64 (q3:Int)) (by rfl) ?hy ?_
   case hy=>(go_simp<;>(first|with_reducible rfl|omega|skip))
   simp only[Act.put,pA,pB,pC]
   refine wpList_yieldG (.int .i64 (kk:Int)) (by rfl) ?hy ?_
   case hy=>(go_simp<;>(first|with_reducible rfl|omega|skip))
   simp only[Act.put,pA,pB,pC]
   refine wpList_yieldG (.bool true) (by rfl) ?hy ?_
   case hy=>(go_simp<;>(first|with_reducible rfl|omega|skip))
   simp only[Act.put,pA,pB,pC]
   refine wpList_yieldG (.bool true) (by rfl) ?hy ?_
   case hy=>(go_simp<;>(first|with_reducible rfl|omega|skip))
   simp only[Act.put,pA,pB,pC]
   refine wpList_yieldG (.bool true) (by rfl) ?hy ?_
   case hy=>(go_simp<;>(first|with_reducible rfl|omega|skip))
   simp only[Act.put,pA,pB,pC]
   refine wpList_nil ?_
   go_wp2
   go_ret
   exact⟨rfl,KB10.out⟩
  ·obtain⟨kk,hkk⟩:∃kk:Nat,m=(kk:Int):=⟨m.toNat,by omega⟩
   subst hkk
   have hkn:kk<n:=by omega
   have hks:(kk:Int)≤(S.size:Int):=by omega
   have hks0:kk≤S.size:=by omega
   go_upto_region 15 with(first|(refine wpList_load_row9 (by rfl) 32 _ rfl (y1.heap.size) rfl V1 32 _ M1.out Tryz.underlying32 rfl (by rw[z1.out];exact infoPt) ?_)|(refine wpList_load_row9 (by rfl) 35 _ rfl (y1.heap.size+1) rfl #[.int .i64 (er:Int),.int .i64 (at':Int)] 35 _ N1.out Tryz.underlying35 rfl infoSp ?_)|(refine wpList_load_row9 (by rfl) 32 _ rfl (y2.heap.size) rfl V2 32 _ M2.out Tryz.underlying32 rfl (by rw[z2.out];exact infoPt) ?_)|(refine wpList_load_row9 (by rfl) 35 _ rfl (y2.heap.size+1) rfl #[.int .i64 0,.int .i64 0] 35 _ N2.out Tryz.underlying35 rfl infoSp ?_))
   obtain⟨e3,q3,he3,hq3,HK⟩:=HO.cu kk hkn
   have he3':((e3:Int) != 0)=true:=by rw[bne_iff_ne];omega
   have hq3':(q3:Int)≤(kk:Int):=by omega
   go_wp2_with (first|(refine wpList_load_row9 (by rfl) 32 _ rfl (y1.heap.size) rfl V1 32 _ M1.out Tryz.underlying32 rfl (by rw[z1.out];exact infoPt) ?_)|(refine wpList_load_row9 (by rfl) 35 _ rfl (y1.heap.size+1) rfl #[.int .i64 (er:Int),.int .i64 (at':Int)] 35 _ N1.out Tryz.underlying35 rfl infoSp ?_)|(refine wpList_load_row9 (by rfl) 32 _ rfl (y2.heap.size) rfl V2 32 _ M2.out Tryz.underlying32 rfl (by rw[z2.out];exact infoPt) ?_)|(refine wpList_load_row9 (by rfl) 35 _ rfl (y2.heap.size+1) rfl #[.int .i64 0,.int .i64 0] 35 _ N2.out Tryz.underlying35 rfl infoSp ?_))
   refine Calls.mono (HK _ KB7.out) ?_
   rintro e y3 ⟨V3,rfl,hA,hc⟩
   have KB8:Hid (Below w.heap.size w y3):=KB7.out.trans ((hc).mono KB7.out.size)
   have M1n:Hid (Lies y3 (y1.heap.size) V1 32):=M1.out.below (hc) M1.out.lt
   clear M1
   have M1:=M1n
   clear M1n
   have N1n:Hid (Lies y3 (y1.heap.size+1) #[.int .i64 (er:Int),.int .i64 (at':Int)] 35):=N1.out.below (hc) N1.out.lt
   clear N1
   have N1:=N1n
   clear N1n
   have M2n:Hid (Lies y3 (y2.heap.size) V2 32):=M2.out.below (hc) M2.out.lt
   clear M2
   have M2:=M2n
   clear M2n
   have N2n:Hid (Lies y3 (y2.heap.size+1) #[.int .i64 0,.int .i64 0] 35):=N2.out.below (hc) N2.out.lt
   clear N2
   have N2:=N2n
   clear N2n
   have P1n:Hid (PA p V1 y3):=P1.out.below (hc)
   clear P1
   have P1:=P1n
   clear P1n
   have P2n:Hid (PA p V2 y3):=P2.out.below (hc)
   clear P2
   have P2:=P2n
   clear P2n
   clear KB7
   have P3:Hid (PA ⟨0,[],[],ho0⟩ V3 y3):=hA
   have z3:Hid (V3.size=21):=hA.size (ho0_in 0).ok.2.len
   have o3:Hid (V3.all (·.oneCell')=true):=hA.one
   clear hA hc
   have A:Hid (Lies ((y3.alloc (.cells #[.int .i64 0,.slice none 0 0,.string ⟨#[]⟩,.int .i64 0,.string ⟨#[]⟩,.int .u8 0,.int .u8 0,.int .u8 0,.int .u8 0,.int .u8 0,.int .u8 0,.int .u8 0,.int .u8 0,.int .u8 0,.int .u8 0,.int .u8 0,.int .u8 0,.int .u8 0,.int .u8 0,.int .u8 0,.int .u8 0] 32)).alloc (.cells #[.int .i64 0,.int .i64 0] 35)) y3.heap.size #[.int .i64 0,.slice none 0 0,.string ⟨#[]⟩,.int .i64 0,.string ⟨#[]⟩,.int .u8 0,.int .u8 0,.int .u8 0,.int .u8 0,.int .u8 0,.int .u8 0,.int .u8 0,.int .u8 0,.int .u8 0,.int .u8 0,.int .u8 0,.int .u8 0,.int .u8 0,.int .u8 0,.int .u8 0,.int .u8 0] 32):=(Lies.new y3 _ _).alloc _
   have B:Hid (Lies ((y3.alloc (.cells #[.int .i64 0,.slice none 0 0,.string ⟨#[]⟩,.int .i64 0,.string ⟨#[]⟩,.int .u8 0,.int .u8 0,.int .u8 0,.int .u8 0,.int .u8 0,.int .u8 0,.int .u8 0,.int .u8 0,.int .u8 0,.int .u8 0,.int .u8 0,.int .u8 0,.int .u8 0,.int .u8 0,.int .u8 0,.int .u8 0] 32)).alloc (.cells #[.int .i64 0,.int .i64 0] 35)) (y3.heap.size+1) #[.int .i64 0,.int .i64 0] 35):=new_one y3 _ _ _
   have M3:Hid (Lies ((((y3.alloc (.cells #[.int .i64 0,.slice none 0 0,.string ⟨#[]⟩,.int .i64 0,.string ⟨#[]⟩,.int .u8 0,.int .u8 0,.int .u8 0,.int .u8 0,.int .u8 0,.int .u8 0,.int .u8 0,.int .u8 0,.int .u8 0,.int .u8 0,.int .u8 0,.int .u8 0,.int .u8 0,.int .u8 0,.int .u8 0,.int .u8 0] 32)).alloc (.cells #[.int .i64 0,.int .i64 0] 35)).setRow y3.heap.size V3).setRow (y3.heap.size+1) #[.int .i64 (e3:Int),.int .i64 (q3:Int)]) y3.heap.size V3 32):=(A.out.row _).row_other (by omega) _
   have N3:Hid (Lies ((((y3.alloc (.cells #[.int .i64 0,.slice none 0 0,.string ⟨#[]⟩,.int .i64 0,.string ⟨#[]⟩,.int .u8 0,.int .u8 0,.int .u8 0,.int .u8 0,.int .u8 0,.int .u8 0,.int .u8 0,.int .u8 0,.int .u8 0,.int .u8 0,.int .u8 0,.int .u8 0,.int .u8 0,.int .u8 0,.int .u8 0,.int .u8 0] 32)).alloc (.cells #[.int .i64 0,.int .i64 0] 35)).setRow y3.heap.size V3).setRow (y3.heap.size+1) #[.int .i64 (e3:Int),.int .i64 (q3:Int)]) (y3.heap.size+1) #[.int .i64 (e3:Int),.int .i64 (q3:Int)] 35):=(B.out.row_other (by omega) _).row _
   have BB:Hid (Below y3.heap.size y3 ((((y3.alloc (.cells #[.int .i64 0,.slice none 0 0,.string ⟨#[]⟩,.int .i64 0,.string ⟨#[]⟩,.int .u8 0,.int .u8 0,.int .u8 0,.int .u8 0,.int .u8 0,.int .u8 0,.int .u8 0,.int .u8 0,.int .u8 0,.int .u8 0,.int .u8 0,.int .u8 0,.int .u8 0,.int .u8 0,.int .u8 0,.int .u8 0] 32)).alloc (.cells #[.int .i64 0,.int .i64 0] 35)).setRow y3.heap.size V3).setRow (y3.heap.size+1) #[.int .i64 (e3:Int),.int .i64 (q3:Int)])):=below_row (below_row (((Below.refl _ _).alloc (Nat.le_refl _) _).alloc (by simp) _) (Nat.le_refl _) _) (by omega) _
   have KB9:Hid (Below w.heap.size w ((((y3.alloc (.cells #[.int .i64 0,.slice none 0 0,.string ⟨#[]⟩,.int .i64 0,.string ⟨#[]⟩,.int .u8 0,.int .u8 0,.int .u8 0,.int .u8 0,.int .u8 0,.int .u8 0,.int .u8 0,.int .u8 0,.int .u8 0,.int .u8 0,.int .u8 0,.int .u8 0,.int .u8 0,.int .u8 0,.int .u8 0,.int .u8 0] 32)).alloc (.cells #[.int .i64 0,.int .i64 0] 35)).setRow y3.heap.size V3).setRow (y3.heap.size+1) #[.int .i64 (e3:Int),.int .i64 (q3:Int)])):=KB8.out.trans ((BB.out).mono KB8.out.size)
   have M1n:Hid (Lies ((((y3.alloc (.cells #[.int .i64 0,.slice none 0 0,.string ⟨#[]⟩,.int .i64 0,.string ⟨#[]⟩,.int .u8 0,.int .u8 0,.int .u8 0,.int .u8 0,.int .u8 0,.int .u8 0,.int .u8 0,.int .u8 0,.int .u8 0,.int .u8 0,.int .u8 0,.int .u8 0,.int .u8 0,.int .u8 0,.int .u8 0,.int .u8 0] 32)).alloc (.cells #[.int .i64 0,.int .i64 0] 35)).setRow y3.heap.size V3).setRow (y3.heap.size+1) #[.int .i64 (e3:Int),.int .i64 (q3:Int)]) (y1.heap.size) V1 32):=M1.out.below (BB.out) M1.out.lt
   clear M1
   have M1:=M1n
   clear M1n
   have N1n:Hid (Lies ((((y3.alloc (.cells #[.int .i64 0,.slice none 0 0,.string ⟨#[]⟩,.int .i64 0,.string ⟨#[]⟩,.int .u8 0,.int .u8 0,.int .u8 0,.int .u8 0,.int .u8 0,.int .u8 0,.int .u8 0,.int .u8 0,.int .u8 0,.int .u8 0,.int .u8 0,.int .u8 0,.int .u8 0,.int .u8 0,.int .u8 0,.int .u8 0] 32)).alloc (.cells #[.int .i64 0,.int .i64 0] 35)).setRow y3.heap.size V3).setRow (y3.heap.size+1) #[.int .i64 (e3:Int),.int .i64 (q3:Int)]) (y1.heap.size+1) #[.int .i64 (er:Int),.int .i64 (at':Int)] 35):=N1.out.below (BB.out) N1.out.lt
   clear N1
   have N1:=N1n
   clear N1n
   have M2n:Hid (Lies ((((y3.alloc (.cells #[.int .i64 0,.slice none 0 0,.string ⟨#[]⟩,.int .i64 0,.string ⟨#[]⟩,.int .u8 0,.int .u8 0,.int .u8 0,.int .u8 0,.int .u8 0,.int .u8 0,.int .u8 0,.int .u8 0,.int .u8 0,.int .u8 0,.int .u8 0,.int .u8 0,.int .u8 0,.int .u8 0,.int .u8 0,.int .u8 0] 32)).alloc (.cells #[.int .i64 0,.int .i64 0] 35)).setRow y3.heap.size V3).setRow (y3.heap.size+1) #[.int .i64 (e3:Int),.int .i64 (q3:Int)]) (y2.heap.size) V2 32):=M2.out.below (BB.out) M2.out.lt
   clear M2
   have M2:=M2n
   clear M2n
   have N2n:Hid (Lies ((((y3.alloc (.cells #[.int .i64 0,.slice none 0 0,.string ⟨#[]⟩,.int .i64 0,.string ⟨#[]⟩,.int .u8 0,.int .u8 0,.int .u8 0,.int .u8 0,.int .u8 0,.int .u8 0,.int .u8 0,.int .u8 0,.int .u8 0,.int .u8 0,.int .u8 0,.int .u8 0,.int .u8 0,.int .u8 0,.int .u8 0,.int .u8 0] 32)).alloc (.cells #[.int .i64 0,.int .i64 0] 35)).setRow y3.heap.size V3).setRow (y3.heap.size+1) #[.int .i64 (e3:Int),.int .i64 (q3:Int)]) (y2.heap.size+1) #[.int .i64 0,.int .i64 0] 35):=N2.out.below (BB.out) N2.out.lt
   clear N2
   have N2:=N2n
   clear N2n
   have P1n:Hid (PA p V1 ((((y3.alloc (.cells #[.int .i64 0,.slice none 0 0,.string ⟨#[]⟩,.int .i64 0,.string ⟨#[]⟩,.int .u8 0,.int .u8 0,.int .u8 0,.int .u8 0,.int .u8 0,.int .u8 0,.int .u8 0,.int .u8 0,.int .u8 0,.int .u8 0,.int .u8 0,.int .u8 0,.int .u8 0,.int .u8 0,.int .u8 0,.int .u8 0] 32)).alloc (.cells #[.int .i64 0,.int .i64 0] 35)).setRow y3.heap.size V3).setRow (y3.heap.size+1) #[.int .i64 (e3:Int),.int .i64 (q3:Int)])):=P1.out.below (BB.out)
   clear P1
   have P1:=P1n
   clear P1n
   have P2n:Hid (PA p V2 ((((y3.alloc (.cells #[.int .i64 0,.slice none 0 0,.string ⟨#[]⟩,.int .i64 0,.string ⟨#[]⟩,.int .u8 0,.int .u8 0,.int .u8 0,.int .u8 0,.int .u8 0,.int .u8 0,.int .u8 0,.int .u8 0,.int .u8 0,.int .u8 0,.int .u8 0,.int .u8 0,.int .u8 0,.int .u8 0,.int .u8 0,.int .u8 0] 32)).alloc (.cells #[.int .i64 0,.int .i64 0] 35)).setRow y3.heap.size V3).setRow (y3.heap.size+1) #[.int .i64 (e3:Int),.int .i64 (q3:Int)])):=P2.out.below (BB.out)
   clear P2
   have P2:=P2n
   clear P2n
   have P3n:Hid (PA ⟨0,[],[],ho0⟩ V3 ((((y3.alloc (.cells #[.int .i64 0,.slice none 0 0,.string ⟨#[]⟩,.int .i64 0,.string ⟨#[]⟩,.int .u8 0,.int .u8 0,.int .u8 0,.int .u8 0,.int .u8 0,.int .u8 0,.int .u8 0,.int .u8 0,.int .u8 0,.int .u8 0,.int .u8 0,.int .u8 0,.int .u8 0,.int .u8 0,.int .u8 0,.int .u8 0] 32)).alloc (.cells #[.int .i64 0,.int .i64 0] 35)).setRow y3.heap.size V3).setRow (y3.heap.size+1) #[.int .i64 (e3:Int),.int .i64 (q3:Int)])):=P3.out.below (BB.out)
   clear P3
   have P3:=P3n
   clear P3n
   clear KB8
   go_upto_region 16 with(first|(refine wpList_store_row rfl 32 _ _ rfl y3.heap.size rfl #[.int .i64 0,.slice none 0 0,.string ⟨#[]⟩,.int .i64 0,.string ⟨#[]⟩,.int .u8 0,.int .u8 0,.int .u8 0,.int .u8 0,.int .u8 0,.int .u8 0,.int .u8 0,.int .u8 0,.int .u8 0,.int .u8 0,.int .u8 0,.int .u8 0,.int .u8 0,.int .u8 0,.int .u8 0,.int .u8 0] V3 rfl 32 A.out (by rw[z3.out];exact infoPt) (by rw[z3.out];rfl) o3.out rfl ?_)|(refine wpList_store_row rfl 35 _ _ rfl (y3.heap.size+1) rfl #[.int .i64 0,.int .i64 0] #[.int .i64 (e3:Int),.int .i64 (q3:Int)] rfl 35 (B.out.row_other (by omega) _) infoSp rfl (by simp[Value.oneCell']) rfl ?_))
   generalize hv3:(((y3.alloc (.cells #[.int .i64 0,.slice none 0 0,.string ⟨#[]⟩,.int .i64 0,.string ⟨#[]⟩,.int .u8 0,.int .u8 0,.int .u8 0,.int .u8 0,.int .u8 0,.int .u8 0,.int .u8 0,.int .u8 0,.int .u8 0,.int .u8 0,.int .u8 0,.int .u8 0,.int .u8 0,.int .u8 0,.int .u8 0,.int .u8 0] 32)).alloc (.cells #[.int .i64 0,.int .i64 0] 35)).setRow y3.heap.size V3).setRow (y3.heap.size+1) #[.int .i64 (e3:Int),.int .i64 (q3:Int)]=v3 at M3 N3 KB9 M1 N1 M2 N2 P1 P2 P3 ⊢
   clear hv3 A B BB
   have f30:v3.cell? ⟨y3.heap.size+1,0,none⟩=some (.int .i64 (e3:Int)):=N3.out.cell 0
   have f31:v3.cell? ⟨y3.heap.size+1,1,none⟩=some (.int .i64 (q3:Int)):=N3.out.cell 1
   refine wp_region_lit ?_
   refine wpList_load_row9 (by rfl) 32 _ rfl (y3.heap.size) rfl V3 32 _ M3.out Tryz.underlying32 rfl (by rw[z3.out];exact infoPt) ?_
   simp only[Act.put,pA,pB,pC]
   refine wpList_yieldG (.agg #[.int .i64 0,.slice none 0 0,.string ⟨#[]⟩,.int .i64 0,.string ⟨#[]⟩,.int .u8 0,.int .u8 0,.int .u8 0,.int .u8 0,.int .u8 0,.int .u8 0,.int .u8 0,.int .u8 0,.int .u8 0,.int .u8 0,.int .u8 0,.int .u8 0,.int .u8 0,.int .u8 0,.int .u8 0,.int .u8 0]) (by rfl) ?hy ?_
   case hy=>(go_simp<;>(first|with_reducible rfl|omega|skip))
   simp only[Act.put,pA,pB,pC]
   refine wpList_onG (by rfl) ?_
   go_simp
   refine Calls.mono (HZ.out _ _ P3.out) ?_
   rintro e c16 ⟨rfl,hc⟩
   have g30:c16.cell? ⟨y3.heap.size+1,0,none⟩=some (.int .i64 (e3:Int)):=((N3.out.below hc N3.out.lt).cell 0)
   have g31:c16.cell? ⟨y3.heap.size+1,1,none⟩=some (.int .i64 (q3:Int)):=((N3.out.below hc N3.out.lt).cell 1)
   have KB10:Hid (Below w.heap.size w c16):=KB9.out.trans ((hc).mono KB9.out.size)
   have M1n:Hid (Lies c16 (y1.heap.size) V1 32):=M1.out.below (hc) M1.out.lt
   clear M1
   have M1:=M1n
   clear M1n
   have N1n:Hid (Lies c16 (y1.heap.size+1) #[.int .i64 (er:Int),.int .i64 (at':Int)] 35):=N1.out.below (hc) N1.out.lt
   clear N1
   have N1:=N1n
   clear N1n
   have M2n:Hid (Lies c16 (y2.heap.size) V2 32):=M2.out.below (hc) M2.out.lt
   clear M2
   have M2:=M2n
   clear M2n
   have N2n:Hid (Lies c16 (y2.heap.size+1) #[.int .i64 0,.int .i64 0] 35):=N2.out.below (hc) N2.out.lt
   clear N2
   have N2:=N2n
   clear N2n
   have M3n:Hid (Lies c16 (y3.heap.size) V3 32):=M3.out.below (hc) M3.out.lt
   clear M3
   have M3:=M3n
   clear M3n
   have N3n:Hid (Lies c16 (y3.heap.size+1) #[.int .i64 (e3:Int),.int .i64 (q3:Int)] 35):=N3.out.below (hc) N3.out.lt
   clear N3
   have N3:=N3n
   clear N3n
   have P1n:Hid (PA p V1 c16):=P1.out.below (hc)
   clear P1
   have P1:=P1n
   clear P1n
   have P2n:Hid (PA p V2 c16):=P2.out.below (hc)
   clear P2
   have P2:=P2n
   clear P2n
   have P3n:Hid (PA ⟨0,[],[],ho0⟩ V3 c16):=P3.out.below (hc)
   clear P3
   have P3:=P3n
   clear P3n
   clear KB9
   clear hc
   refine wpList_yieldG (.bool true) (by rfl) ?hy ?_
   case hy=>(go_simp<;>(first|with_reducible rfl|omega|skip))
   simp only[Act.put,pA,pB,pC]
   refine wpList_yieldG (.int .i64 0) (by rfl) ?hy ?_
   case hy=>(go_simp<;>(first|with_reducible rfl|omega|skip))
   simp only[Act.put,pA,pB,pC]
   refine wpList_yieldG (.bool true) (by rfl) ?hy ?_
   case hy=>(go_simp<;>(first|with_reducible rfl|omega|skip))
   simp only[Act.put,pA,pB,pC]
   refine wpList_yieldG (.bool true) (by rfl) ?hy ?_
   case hy=>(go_simp<;>(first|with_reducible rfl|omega|skip))
   simp only[Act.put,pA,pB,pC]
   refine wpList_yieldG (.bool true) (by rfl) ?hy ?_
   case hy=>(go_simp<;>(first|with_reducible rfl|omega|skip))
   simp only[Act.put,pA,pB,pC]
   refine wpList_yieldG (.pointer (some ⟨y3.heap.size+1,0,none⟩)) (by rfl) ?hy ?_
   case hy=>(go_simp<;>(first|with_reducible rfl|omega|skip))
   simp only[Act.put,pA,pB,pC]
   refine wpList_yieldG (.int .i64 (e3:Int)) (by rfl) ?hy ?_
   case hy=>(go_simp<;>(first|with_reducible rfl|omega|skip))
   simp only[Act.put,pA,pB,pC]
   refine wpList_yieldG (.bool true) (by rfl) ?hy ?_
   case hy=>(go_simp<;>(first|with_reducible rfl|omega|skip))
   simp only[Act.put,pA,pB,pC]
   refine wpList_yieldG (.bool true) (by rfl) ?hy ?_
   case hy=>(go_simp<;>(first|with_reducible rfl|omega|skip))
   simp only[Act.put,pA,pB,pC]
   refine wpList_yieldG (.bool true) (by rfl) ?hy ?_
   case hy=>(go_simp<;>(first|with_reducible rfl|omega|skip))
   simp only[Act.put,pA,pB,pC]
   refine wpList_yieldG (.pointer (some ⟨y3.heap.size+1,1,none⟩)) (by rfl) ?hy ?_
   case hy=>(go_simp<;>(first|with_reducible rfl|omega|skip))
   simp only[Act.put,pA,pB,pC]
   refine wpList_yieldG (.int .i64 (q3:Int)) (by rfl) ?hy ?_
   case hy=>(go_simp<;>(first|with_reducible rfl|omega|skip))
   simp only[Act.put,pA,pB,pC]
   refine wpList_yieldG (.int .i64 (kk:Int)) (by rfl) ?hy ?_
   case hy=>(go_simp<;>(first|with_reducible rfl|omega|skip))
   simp only[Act.put,pA,pB,pC]
   refine wpList_yieldG (.bool true) (by rfl) ?hy ?_
   case hy=>(go_simp<;>(first|with_reducible rfl|omega|skip))
   simp only[Act.put,pA,pB,pC]
   refine wpList_yieldG (.bool true) (by rfl) ?hy ?_
   case hy=>(go_simp<;>(first|with_reducible rfl|omega|skip))
   simp only[Act.put,pA,pB,pC]
   refine wpList_yieldG (.bool true) (by rfl) ?hy ?_
   case hy=>(go_simp<;>(first|with_reducible rfl|omega|skip))
   simp only[Act.put,pA,pB,pC]
   refine wpList_nil ?_
   go_wp2
   go_ret
   exact⟨rfl,KB10.out⟩
 ·obtain⟨hn0,hpz⟩:=HE.out her
  have her':((er:Int) != 0)=true:=by rw[bne_iff_ne];omega
  subst hn0 hpz
  clear HE HOK
  go_upto_region 6 with(first|(refine wpList_load_row9 (by rfl) 32 _ rfl (y1.heap.size) rfl V1 32 _ M1.out Tryz.underlying32 rfl (by rw[z1.out];exact infoPt) ?_)|(refine wpList_load_row9 (by rfl) 35 _ rfl (y1.heap.size+1) rfl #[.int .i64 (er:Int),.int .i64 (at':Int)] 35 _ N1.out Tryz.underlying35 rfl infoSp ?_))
  refine wp_region_lit ?_
  refine wpList_load_row9 (by rfl) 32 _ rfl (y1.heap.size) rfl V1 32 _ M1.out Tryz.underlying32 rfl (by rw[z1.out];exact infoPt) ?_
  simp only[Act.put,pA,pB,pC]
  refine wpList_yieldG (.agg #[.int .i64 0,.slice none 0 0,.string ⟨#[]⟩,.int .i64 0,.string ⟨#[]⟩,.int .u8 0,.int .u8 0,.int .u8 0,.int .u8 0,.int .u8 0,.int .u8 0,.int .u8 0,.int .u8 0,.int .u8 0,.int .u8 0,.int .u8 0,.int .u8 0,.int .u8 0,.int .u8 0,.int .u8 0,.int .u8 0]) (by rfl) ?hy ?_
  case hy=>(go_simp<;>(first|with_reducible rfl|omega|skip))
  simp only[Act.put,pA,pB,pC]
  refine wpList_onG (by rfl) ?_
  go_simp
  refine Calls.mono (HZ.out _ _ P1.out) ?_
  rintro e c6 ⟨rfl,hc⟩
  have KB5:Hid (Below w.heap.size w c6):=KB4.out.trans ((hc).mono KB4.out.size)
  have M1n:Hid (Lies c6 (y1.heap.size) V1 32):=M1.out.below (hc) M1.out.lt
  clear M1
  have M1:=M1n
  clear M1n
  have N1n:Hid (Lies c6 (y1.heap.size+1) #[.int .i64 (er:Int),.int .i64 (at':Int)] 35):=N1.out.below (hc) N1.out.lt
  clear N1
  have N1:=N1n
  clear N1n
  have P1n:Hid (PA ⟨0,[],[],ho0⟩ V1 c6):=P1.out.below (hc)
  clear P1
  have P1:=P1n
  clear P1n
  clear KB4
  clear hc
  refine wpList_yieldG (.bool true) (by rfl) ?hy ?_
  case hy=>(go_simp<;>(first|with_reducible rfl|omega|skip))
  simp only[Act.put,pA,pB,pC]
  refine wpList_yieldG (.int .i64 0) (by rfl) ?hy ?_
  case hy=>(go_simp<;>(first|with_reducible rfl|omega|skip))
  simp only[Act.put,pA,pB,pC]
  refine wpList_yieldG (.bool true) (by rfl) ?hy ?_
  case hy=>(go_simp<;>(first|with_reducible rfl|omega|skip))
  simp only[Act.put,pA,pB,pC]
  refine wpList_yieldG (.bool true) (by rfl) ?hy ?_
  case hy=>(go_simp<;>(first|with_reducible rfl|omega|skip))
  simp only[Act.put,pA,pB,pC]
  refine wpList_yieldG (.bool true) (by rfl) ?hy ?_
  case hy=>(go_simp<;>(first|with_reducible rfl|omega|skip))
  simp only[Act.put,pA,pB,pC]
  refine wpList_nil ?_
  go_wp2
  go_ret
  exact⟨rfl,KB5.out⟩
theorem ext_list (S:ByteArray) (n:Nat):(S.extract 0 n).data.toList=S.data.toList.take n:=by
 have:=ext_txt S 0 n
 rw[Nat.zero_add]at this
 rw[this,txt_list,List.drop_zero]
theorem walk (S T:ByteArray) (wide:Bool) (cut:Int) (hS:S.data.toList.length≤140737488351232) (hT:T.data.toList.length≤140737488351232) (w:World) (ht:Td w∧10≤w.heap.size):
  Calls Tryz.prog 3 #[.agg #[.string S,.string T,.bool wide,.int .i64 cut]] w fun e w'=>e=.returned (.bool true)∧Below w.heap.size w w':=by
 rw[Array.length_toList]at hS hT
 have hS:S.size≤140737488351232:=hS
 have hT:T.size≤140737488351232:=hT
 have HT:∀wx,Below w.heap.size w wx→Td wx∧10≤wx.heap.size:=fun wx hb=>⟨ht.1.below hb,Nat.le_trans ht.2 hb.size⟩
 have hF:∀(t:ByteArray) (wx:World),t.size≤140737488355328→Below w.heap.size w wx→Calls Tryz.prog 8 #[.string t,.bool wide] wx (PvV wx (pv (pth wide false t.data.toList))):=fun t wx hz hb=>fwd_pv t hz wide wx (HT wx hb).1 (HT wx hb).2
 refine walkW S T hT hS wide cut _ (pv_in wide false S.data.toList) _ _ _ w (fun wx hx=>head_any wx (HT wx hx).1 (HT wx hx).2) (fun wx hx=>hF S wx (by omega) hx) (fun wx V hV=>same_pa (ho0_in 0) hV (PA_zero wx)) (fun h=>?_) (fun h=>?_)
 ·obtain⟨e,a,_,h2,_⟩:=pv_fault h
  rw[h2]
  exact⟨rfl,rfl⟩
 ·obtain⟨p,n,h1,h2⟩:=pv_zero h
  obtain⟨l1,l2,l3⟩:=pth_len h1
  rw[Array.length_toList]at l2
  have l2:n≤S.size:=l2
  have hin:=ckP_in (pth_ck h1).1 (pth_ck h1).2
  rw[h2]
  refine⟨l1,l2,l3,fun wx hb=>?_,fun wx V V1 hV hV1=>same_pa hin hV hV1,fun kk hk=>?_⟩
  ·have:=hF (S.extract 0 n++T) wx (by rw[ByteArray.size_append,ByteArray.size_extract];omega) hb
   rw[ByteArray.data_append,Array.toList_append,ext_list,pth_front h1 T.data.toList]at this
   exact this
  ·obtain⟨e,q,h3,h4,h5⟩:=pth_cut h1 hk
   refine⟨e,q,h4,h5,fun wx hb=>?_⟩
   have:=hF (S.extract 0 kk) wx (by rw[ByteArray.size_extract];omega) hb
   rw[ext_list,h3]at this
   exact this
set_option maxRecDepth 100000 in
theorem contract (H:Type) (enc:TypeId×Value→H) (W:World) (base:Nat) (args:Array Value) (ds gs:List (DataW H)) (before:List MemPlace)
  (hval:∀(j:Nat) t v,Tryz.f3.params[j]?=some t→args[j]?=some v→Value.okWide Tryz.prog W .any base t v)
  (hW:DataW.Whole enc Tryz.prog Tryz.f3.params.toList Rows.pathFrontSpec.vars false W args.toList ds gs before)
  (hsz:(DataW.weightsEach Tryz.prog (Tryz.f3.params.toList++(OpenSpec.ofChange Rows.pathFrontSpec).bare.plain.varTypes Tryz.prog) (ds++gs)).all (· ≤reachBytes)=true)
  (hL:laidMetH Tryz.prog Rows.pathFrontRow.laid W) (hsh:W.ShapedOpen Tryz.prog):
  Calls Tryz.prog 3 args W fun e W'=>∃v,e=.returned v∧Rows.pathFrontSpec.post enc Tryz.prog Tryz.f3 false true false false W args v W':=by
 have hW':=hW
 obtain⟨p,q,hA0,hV,rfl,hfz,hnd⟩:=hW
 have hA:DataW.TrodAll enc Tryz.prog W 0 (fun _=>true) true Tryz.f3.params.toList args.toList ds p:=hA0
 rw[Tryz.params3]at hA hval hsz
 obtain⟨v0,vs0,d0,ds0,p0,q0,hargs,rfl,rfl,h0,r0⟩:=trodAll_cons hA
 obtain⟨rfl,rfl,rfl⟩:=trodAll_nil r0
 obtain rfl:args=#[v0]:=by cases args;simp_all
 obtain⟨rfl,rfl⟩:=trodVars_none hV
 have k0:=h0
 have lt0:∀x∈p0,x.block<W.heap.size:=by obtain⟨m,hm⟩:=k0;exact DataW.trod_lt m _ _ _ hm
 obtain⟨S0,T0,x0,c0,rfl,b0,e0⟩:=open_front (hval 0 23 v0 rfl rfl) h0
 clear hA0
 have s0:=front_size (j:=0) hsz rfl rfl e0
 refine(walk S0 T0 x0 c0 s0.1 s0.2 W (tabs9_of hL hsh)).mono fun e W' ⟨he,bel⟩=>?_
 subst he
 exact⟨_,rfl,_,_,_,[],_,[],hW',trodAll_mk1 (shut_bool Tryz.underlying4 _),trodAll_cons_mk (Below.trod laidOut (by kernel_rfl) (of_decide_eq_true (by kernel_rfl)) k0 bel lt0) trodAll_mk0,rfl,bel.frame _,fun h=>by cases h⟩
set_option maxRecDepth 100000 in
theorem laid_met (os:Os):laidMet Tryz.prog Rows.pathFrontRow.laid ((laidWorld9 os).forCall (fun _ _=>0) ⟨#[],#[.agg #[.string ByteArray.empty,.string ByteArray.empty,.bool false,.int .i64 0]],[]⟩).memory:=
 laidMet_of_run' 8 (by kernel_rfl) (by kernel_rfl)
set_option maxRecDepth 100000 in
theorem reads (os:Os) {H:Type} (enc:TypeId×Value→H):∃places,DataW.whole enc Tryz.prog ((laidWorld9 os).forCall (fun _ _=>0) ⟨#[],#[.agg #[.string ByteArray.empty,.string ByteArray.empty,.bool false,.int .i64 0]],[]⟩).memory Tryz.f3.params.toList Rows.pathFrontSpec.vars false #[Value.agg #[.string ByteArray.empty,.string ByteArray.empty,.bool false,.int .i64 0]].toList 8=some ([.agg [.lit (.string []),.lit (.string []),.lit (.bool false),.lit (.int .i64 0)]],[],places):=
 ⟨[],by kernel_rfl⟩
set_option maxRecDepth 100000 in
theorem lifted (os:Os) (started:os.Started) (H:Type) (enc:TypeId×Value→H) (F:Stop.Interp):
  ReturnsInHanded {} Tryz.checked os 3 .any ((OpenSpec.ofChange Rows.pathFrontSpec).preRow enc Tryz.prog Tryz.f3 Rows.pathFrontRow.domain false Rows.pathFrontRow.laid) (((OpenSpec.ofChange Rows.pathFrontSpec).at F).post enc Tryz.prog Tryz.f3 false true false false):=by
 obtain⟨places,hx⟩:=reads os enc
 refine returnsInHanded_of_row (C:=Tryz.checked) (s:=OpenSpec.ofChange Rows.pathFrontSpec) own started (by kernel_rfl) Tryz.func3
  (witness_row_at (enc:=enc) (C:=Tryz.checked) false (laidWorld9 os) #[.agg #[.string ByteArray.empty,.string ByteArray.empty,.bool false,.int .i64 0]] rfl (by kernel_rfl) (by kernel_rfl) (by kernel_rfl)
   (OpenSpec.preRow_of_cond 8 hx (by kernel_rfl) (fun k hk=>by cases hk) (by kernel_rfl) (laid_met os))) ?_
 intro W base args ds gs before hval hW _ _ hsz hL hsh _
 exact contract H enc W base args ds gs before hval hW hsz hL hsh
theorem said:Rows.PathFrontSaid:=
 OpenClaim.holds_of_cond 3 Tryz.f3 rfl rfl rfl rfl rfl rfl rfl ⟨rfl,rfl,rfl,rfl,rfl⟩ rfl rfl rfl rfl rfl (by kernel_rfl) Tryz.func3 (by kernel_rfl)
  (of_decide_eq_true (by kernel_rfl)) (by unfold Func.isWrapper;first|(rw[if_pos (by decide+kernel)];kernel_rfl)|(rw[if_neg (by decide+kernel)];exact⟨rfl,rfl⟩))
  (fun os started H enc _ F=>by rw[OpenClaim.pre_eq_preRow];exact lifted os started H enc F)
theorem plain (f:FuncId) (fn:Func) (hf:Tryz.pinned.checked.prog.funcNamed "posthorn/posthornlaw09.PathFront"=some f) (hfn:Tryz.pinned.checked.prog.funcs[f]?=some fn):
  true=Tryz.pinned.checked.prog.looks []∧∀(j:Nat) t,fn.params[j]?=some t→Tryz.pinned.checked.prog.wantsStandIn t=false:=by
 obtain rfl:f=3:=Option.some.inj ((show Tryz.prog.funcNamed "posthorn/posthornlaw09.PathFront"=some 3 by kernel_rfl).symm.trans hf) |>.symm
 obtain rfl:fn=Tryz.f3:=(Option.some.inj (Tryz.func3.symm.trans hfn)).symm
 refine⟨by kernel_rfl,fun j t ht=>?_⟩
 rw[Tryz.params3]at ht
 have hm:t∈[23]:=by simpa using Array.mem_of_getElem? ht
 have hall:([23].all fun u=>!Tryz.prog.wantsStandIn u)=true:=by kernel_rfl
 exact(show Tryz.prog.wantsStandIn t=false by simpa using List.all_eq_true.1 hall t hm)
theorem card:Rows.PathFrontCardSaid:=
 Claim7.holds_tied_plain_at .later [] _ _ _ _ said (fun _ h=>by cases h) (by kernel_rfl) (fun _ h=>by cases h) pathFront_row_tie rfl ⟨rfl,rfl⟩ (by kernel_rfl) rfl plain (by kernel_rfl)
end Go.Proofs.YtfjpkfhbmldmfabGreatDoor.pathFront
namespace Go.Proofs.YtfjpkfhbmldmfabGreatDoor
theorem pathFront_card:Rows.PathFrontCardSaid:=pathFront.card
#print axioms pathFront_card
end Go.Proofs.YtfjpkfhbmldmfabGreatDoor
