/-
  The program's atom, atoms, escapable, mayStand, firstWide.
-/
import Derived.Test.YtfjpkfhbmldmfaaGreatDoorQa9
import Derived.Test.YtfjpkfhbmldmfaaGreatDoorWt8
import Derived.Test.YtfjpkfhbmldmfaaGreatDoorLate5
import Derived.Test.YtfjpkfhbmldmfaaGreatDoorRl8
import Derived.Test.YtfjpkfhbmldmfaaGreatDoorWd8
import Derived.WalkSmall
import Derived.Deep.DeepCutAuto
namespace Go.Proofs.YtfjpkfhbmldmfaaGreatDoor
open Go.RowKit
theorem cl_fin:∀b:Fin 256,isB 5 (b.val:Int)=at5 (UInt8.ofNat b.val)∧isB 14 (b.val:Int)=decide (128≤b.val):=by decide+kernel
theorem cl_is (c:UInt8):isB 5 (c.toNat:Int)=at5 c∧isB 14 (c.toNat:Int)=decide (128≤c.toNat):=by
 have:=cl_fin ⟨c.toNat,c.toNat_lt⟩
 simpa using this
theorem atom_is (c:UInt8):atB c=(isB 5 (c.toNat:Int)||isB 14 (c.toNat:Int)):=by
 rw[(cl_is c).1,(cl_is c).2]
 exact atB_is c
theorem esc_fin:∀b:Fin 256,shB (UInt8.ofNat b.val)=(isB 6 (b.val:Int)||((b.val:Int)==34||(b.val:Int)==92))∧(decide (32≤b.val)&&!decide (b.val=127))=(shB (UInt8.ofNat b.val)||isB 14 (b.val:Int))∧qtB (UInt8.ofNat b.val)=(isB 6 (b.val:Int)||isB 14 (b.val:Int)):=by decide+kernel
theorem esc_is (c:UInt8):shB c=(isB 6 (c.toNat:Int)||((c.toNat:Int)==34||(c.toNat:Int)==92))∧(decide (32≤c.toNat)&&!decide (c.toNat=127))=(shB c||isB 14 (c.toNat:Int))∧qtB c=(isB 6 (c.toNat:Int)||isB 14 (c.toNat:Int)):=by
 have:=esc_fin ⟨c.toNat,c.toNat_lt⟩
 simpa using this
def mayB (c:UInt8):Bool:=decide (32≤c.toNat)&&!decide (c.toNat=127)
set_option maxHeartbeats 2000000 in
theorem esc_any (c:UInt8) (w:World) (ht:Table w):Calls Tryz.prog 104 #[.int .u8 (c.toNat:Int)] w fun e w'=>e=.returned (.bool (shB c))∧w'=w:=by
 rw[(esc_is c).1]
 have HI:Hid (Calls Tryz.prog 105 #[.int .i64 6,.int .u8 (c.toNat:Int)] w fun e w'=>e=.returned (.bool (isB 6 (c.toNat:Int)))∧w'=w):=is_any 6 _ w ht
 clear ht
 generalize isB 6 (c.toNat:Int)=x at HI ⊢
 generalize (c.toNat:Int)=y at HI ⊢
 cases x
 ·cases h1:(y==34)
  ·go_enter Tryz.func104,Tryz.ntmps104
   go_wp2_with fail
   refine HI.out.mono ?_
   rintro e w1 ⟨rfl,rfl⟩
   go_wp2_with fail
   go_ret
   exact⟨rfl,rfl⟩
  ·go_enter Tryz.func104,Tryz.ntmps104
   go_wp2_with fail
   refine HI.out.mono ?_
   rintro e w1 ⟨rfl,rfl⟩
   go_wp2_with fail
   go_ret
   exact⟨rfl,rfl⟩
 ·go_enter Tryz.func104,Tryz.ntmps104
  go_wp2_with fail
  refine HI.out.mono ?_
  rintro e w1 ⟨rfl,rfl⟩
  go_wp2_with fail
  go_ret
  exact⟨rfl,rfl⟩
set_option maxHeartbeats 2000000 in
theorem may_any (c:UInt8) (w:World) (ht:Table w):Calls Tryz.prog 75 #[.int .u8 (c.toNat:Int)] w fun e w'=>e=.returned (.bool (mayB c))∧w'=w:=by
 unfold mayB
 rw[(esc_is c).2.1]
 have HE:Hid (Calls Tryz.prog 104 #[.int .u8 (c.toNat:Int)] w fun e w'=>e=.returned (.bool (shB c))∧w'=w):=esc_any c w ht
 have HI:Hid (Calls Tryz.prog 105 #[.int .i64 14,.int .u8 (c.toNat:Int)] w fun e w'=>e=.returned (.bool (isB 14 (c.toNat:Int)))∧w'=w):=is_any 14 _ w ht
 clear ht
 generalize isB 14 (c.toNat:Int)=x at HI ⊢
 generalize shB c=z at HE ⊢
 generalize (c.toNat:Int)=y at HI HE ⊢
 cases z
 ·go_enter Tryz.func75,Tryz.ntmps75
  go_wp2_with fail
  refine HE.out.mono ?_
  rintro e w1 ⟨rfl,rfl⟩
  go_wp2_with fail
  refine HI.out.mono ?_
  rintro e w1 ⟨rfl,rfl⟩
  go_wp2_with fail
  go_ret
  exact⟨rfl,rfl⟩
 ·go_enter Tryz.func75,Tryz.ntmps75
  go_wp2_with fail
  refine HE.out.mono ?_
  rintro e w1 ⟨rfl,rfl⟩
  go_wp2_with fail
  go_ret
  exact⟨rfl,rfl⟩
theorem spB_drop (f:UInt8→Bool) (s:ByteArray) (k:Nat) (h:k<s.size):spB f (s.data.toList.drop k)=if f s[k]=true then spB f (s.data.toList.drop (k+1))+1 else 0:=by
 rw[drop_at s k h,spB]
set_option maxHeartbeats 4000000 in
set_option maxRecDepth 20000 in
theorem atom_any (s:ByteArray) (a:Nat) (ha:a≤s.size) (hs:s.size≤maxLen) (w:World) (ht:Table w):Calls Tryz.prog 141 #[.string s,.int .i64 (a:Nat)] w fun e w'=>e=.returned (.int .i64 (a+spB atB (s.data.toList.drop a):Nat))∧w'=w:=by
 unfold maxLen at hs
 have HI:Hid (∀c b:Int,Calls Tryz.prog 105 #[.int .i64 c,.int .u8 b] w fun e w'=>e=.returned (.bool (isB c b))∧w'=w):=fun c b=>is_any c b w ht
 clear ht
 obtain⟨R,hR⟩:∃R,R=a+spB atB (s.data.toList.drop a):=⟨_,rfl⟩
 rw[←hR]
 have HR:Hid (R=a+spB atB (s.data.toList.drop a)):=hR
 clear hR
 go_enter Tryz.func141,Tryz.ntmps141
 go_wp2_with fail
 go_loop [1] (fun i=>∃k:Nat,a≤k∧k≤s.size∧i=.int .i64 k∧Hid (R=k+spB atB (s.data.toList.drop k))) (fun i=>s.size - (intOf i).toNat)
 case atStart=>exact⟨a,Nat.le_refl _,ha,rfl,HR.out⟩
 case round=>
  obtain⟨k,hak,hk,rfl,HH⟩:=hrel
  clear HR
  by_cases hlt:k<s.size
  ·have hlt':(k:Int)<(s.size:Int):=by omega
   have HX:=HI.out 5 (s[k].toNat:Int)
   have HY:=HI.out 14 (s[k].toNat:Int)
   have hB:=atom_is s[k]
   have hD:=spB_drop atB s k hlt
   rw[hB]at hD
   generalize isB 5 (s[k].toNat:Int)=x at HX hD
   generalize isB 14 (s[k].toNat:Int)=y at HY hD
   have HX1:Hid (Calls Tryz.prog 105 #[.int .i64 5,.int .u8 (s[k].toNat:Int)] w fun e w'=>e=.returned (.bool x)∧w'=w):=HX
   have HY1:Hid (Calls Tryz.prog 105 #[.int .i64 14,.int .u8 (s[k].toNat:Int)] w fun e w'=>e=.returned (.bool y)∧w'=w):=HY
   clear HX HY hB HI
   cases x
   ·cases y
    ·have HD:Hid (R=k):=by
      show R=k
      rw[HH.out,hD]
      rfl
     clear hD HH
     go_wp2_with fail
     refine HX1.out.mono ?_
     rintro e w1 ⟨rfl,rfl⟩
     go_wp2_with fail
     refine HY1.out.mono ?_
     rintro e w1 ⟨rfl,rfl⟩
     go_wp2_with fail
     go_ret
     exact⟨by rw[HD.out];rfl,rfl⟩
    ·have HD:Hid (R=(k+1)+spB atB (s.data.toList.drop (k+1))):=by
      show R=_
      rw[HH.out,hD]
      simp only[Bool.or_true,if_true]
      omega
     clear hD HH
     go_wp2_with fail
     refine HX1.out.mono ?_
     rintro e w1 ⟨rfl,rfl⟩
     go_wp2_with fail
     refine HY1.out.mono ?_
     rintro e w1 ⟨rfl,rfl⟩
     go_wp2_with fail
     go_round
     case rel=>exact⟨k+1,by omega,by omega,by go_num,HD⟩
     case measure=>simp[intOf];omega
   ·have HD:Hid (R=(k+1)+spB atB (s.data.toList.drop (k+1))):=by
     show R=_
     rw[HH.out,hD]
     simp only[Bool.true_or,if_true]
     omega
    clear hD HH
    go_wp2_with fail
    refine HX1.out.mono ?_
    rintro e w1 ⟨rfl,rfl⟩
    go_wp2_with fail
    go_round
    case rel=>exact⟨k+1,by omega,by omega,by go_num,HD⟩
    case measure=>simp[intOf];omega
  ·have hlt':¬(k:Int)<(s.size:Int):=by omega
   have HD:Hid (R=k):=by
    show R=k
    rw[HH.out,drop_past s k (by omega)]
    rfl
   clear HH
   go_wp2_with fail
   go_ret
   exact⟨by rw[HD.out];rfl,rfl⟩
theorem RwK.run {s:ByteArray} {R e f:Nat} (h:RwK s R e f f):∀n,n≤spB atB (s.data.toList.drop f)→RwK s R e f (f+n)
 |0,_=>h
 |n+1,hn=>by
  have hl:=spB_le atB (s.data.toList.drop f)
  rw[List.length_drop,len_list]at hl
  have hp:=spB_pre atB (s.data.toList.drop f) n (by rw[List.length_drop,len_list];omega) (by omega)
  rw[List.getElem_drop,get_list]at hp
  exact(RwK.run h n (by omega)).step (by omega) hp
theorem atom_no (s:ByteArray) (f:Nat):∀h:f+spB atB (s.data.toList.drop f)<s.size,atB (s[f+spB atB (s.data.toList.drop f)])=false:=by
 intro h
 have:=spB_stop atB (s.data.toList.drop f) (by rw[List.length_drop,len_list];omega)
 rw[List.getElem_drop,get_list]at this
 exact this
set_option maxHeartbeats 4000000 in
set_option maxRecDepth 20000 in
theorem atoms_any (s:ByteArray) (hs:s.size≤maxLen) (w:World) (ht:Table w):Calls Tryz.prog 106 #[.string s] w fun e w'=>e=.returned (.int .i64 (rowL s.data.toList:Nat))∧w'=w:=by
 have HA:Hid (∀a,a≤s.size→Calls Tryz.prog 141 #[.string s,.int .i64 (a:Nat)] w fun e w'=>e=.returned (.int .i64 (a+spB atB (s.data.toList.drop a):Nat))∧w'=w):=fun a ha=>atom_any s a ha hs w ht
 unfold maxLen at hs
 clear ht
 have HS0:=RwE.start s 0 (Nat.zero_le _)
 have hR:0+rowL (s.data.toList.drop 0)=rowL s.data.toList:=by rw[Nat.zero_add,List.drop_zero]
 rw[hR]at HS0
 generalize rowL s.data.toList=R at HS0
 clear hR
 have HSt:Hid (∀e,e=spB atB s.data.toList→e≤s.size∧(e=0→R=0)∧(0<e→RwE s R 0 e)):=by
  rintro e rfl
  have hl:=spB_le atB s.data.toList
  rw[len_list]at hl
  have hn:=atom_no s 0
  rw[List.drop_zero,Nat.zero_add]at hn
  refine⟨hl,fun h0=>?_,fun h0=>?_⟩
  ·rw[h0]at hn
   exact HS0.first.none hn
  ·have:=HS0.first.run (spB atB s.data.toList) (by rw[List.drop_zero];exact Nat.le_refl _)
   rw[Nat.zero_add]at this
   exact this.out (Nat.le_refl _) (Nat.le_refl _) h0 hn
 have HA0:Hid (Calls Tryz.prog 141 #[.string s,.int .i64 0] w fun e w'=>e=.returned (.int .i64 (spB atB s.data.toList:Nat))∧w'=w):=by
  have:=HA.out 0 (Nat.zero_le _)
  rw[Nat.zero_add,List.drop_zero]at this
  exact this
 obtain⟨e0,he0⟩:∃e0,e0=spB atB s.data.toList:=⟨_,rfl⟩
 rw[←he0]at HA0
 have HS1:Hid (e0≤s.size∧(e0=0→R=0)∧(0<e0→RwE s R 0 e0)):=HSt.out e0 he0
 clear HSt he0 HS0
 go_enter Tryz.func106,Tryz.ntmps106
 go_wp2_with fail
 refine HA0.out.mono ?_
 rintro e w1 ⟨rfl,rfl⟩
 clear HA0
 go_wp2_with fail
 go_loop [3] (fun i=>∃e:Nat,e≤s.size∧i=.int .i64 e∧Hid (e=0→R=0)∧Hid (0<e→RwE s R 0 e)) (fun i=>s.size - (intOf i).toNat)
 case atStart=>exact⟨e0,HS1.out.1,rfl,HS1.out.2.1,HS1.out.2.2⟩
 case round=>
  obtain⟨e,hes,rfl,HZ,HE⟩:=hrel
  clear HS1
  by_cases h1:0<e
  ·have h1':(0:Int)<(e:Int):=by omega
   by_cases h2:∃h:e<s.size,s[e]=46
   ·obtain⟨hl,hc⟩:=h2
    obtain⟨n46,_⟩:=b_eq s[e] 46 46 rfl
    rw[decide_eq_true hc]at n46
    have hl':(e:Int)<(s.size:Int):=by omega
    obtain⟨n,hn⟩:∃n,n=e+1+spB atB (s.data.toList.drop (e+1)):=⟨_,rfl⟩
    have HK0:=(HE.out h1).dot h1 hl hc
    have hle:=spB_le atB (s.data.toList.drop (e+1))
    rw[List.length_drop,len_list]at hle
    have HA1:Hid (Calls Tryz.prog 141 #[.string s,.int .i64 ((e:Int)+1)] w1 fun e w'=>e=.returned (.int .i64 (n:Nat))∧w'=w1):=by
     have:=HA.out (e+1) (by omega)
     rw[←hn]at this
     exact this
    have hno:=atom_no s (e+1)
    have hn1:e+1≤n:=by omega
    have hn2:n≤s.size:=by omega
    by_cases hne:n=e+1
    ·have hkb:((n:Int)==(e:Int)+1)=true:=by rw[beq_iff_eq];omega
     have HR:Hid (R=e):=by
      have h0:spB atB (s.data.toList.drop (e+1))=0:=by omega
      rw[h0]at hno
      exact HK0.none hno
     clear hno hle HK0 hc hne hn HA HE HZ
     go_wp2_with fail
     refine HA1.out.mono ?_
     rintro e' w2 ⟨rfl,rfl⟩
     go_wp2_with fail
     go_ret
     exact⟨by rw[HR.out];rfl,rfl⟩
    ·have hkb:((n:Int)==(e:Int)+1)=false:=by rw[beq_eq_false_iff_ne];omega
     have HR:Hid (RwE s R 0 n):=by
      have:=HK0.run _ (Nat.le_refl _)
      rw[hn]
      exact this.out (Nat.zero_le _) (by omega) (by omega) hno
     clear hno hle HK0 hc hne hn HA HE HZ
     go_wp2_with fail
     refine HA1.out.mono ?_
     rintro e' w2 ⟨rfl,rfl⟩
     go_wp2_with fail
     go_round
     case rel=>exact⟨n,hn2,rfl,fun h=>absurd h (by omega),fun _=>HR.out⟩
     case measure=>simp[intOf];omega
   ·have HR:Hid (R=e):=(HE.out h1).stop h1 (fun h hc=>h2 ⟨h,hc⟩)
    clear HE HZ HA
    by_cases hl:e<s.size
    ·have hl':(e:Int)<(s.size:Int):=by omega
     obtain⟨n46,_⟩:=b_eq s[e] 46 46 rfl
     rw[decide_eq_false (fun hc=>h2 ⟨hl,hc⟩)]at n46
     clear h2
     go_wp2_with fail
     go_ret
     exact⟨by rw[HR.out];rfl,rfl⟩
    ·have hl':¬(e:Int)<(s.size:Int):=by omega
     clear h2
     go_wp2_with fail
     go_ret
     exact⟨by rw[HR.out];rfl,rfl⟩
  ·have h0:e=0:=by omega
   have HR:Hid (R=e):=by
    show R=e
    rw[HZ.out h0,h0]
   have h1':¬(0:Int)<(e:Int):=by omega
   clear HE HZ HA h0
   go_wp2_with fail
   go_ret
   exact⟨by rw[HR.out];rfl,rfl⟩
def fwN (wide:Bool) (l:List UInt8):Nat:=if wide=true then badU l else spB loB l
set_option maxHeartbeats 2000000 in
theorem fw_any (s:ByteArray) (wide:Bool) (hs:s.size≤140737488355328) (w:World) (ht:Table w) (hf:Fst w):Calls Tryz.prog 77 #[.string s,.bool wide] w fun e w'=>e=.returned (.int .i64 (fwN wide s.data.toList:Nat))∧Below w.heap.size w w':=by
 have HU:Hid (Calls Tryz.prog 108 #[.string s] w fun e w'=>e=.returned (.int .i64 (badU s.data.toList))∧Below w.heap.size w w'):=ubs_any s w hf (by omega)
 have HB:Hid (Calls Tryz.prog 80 #[.int .i64 13,.string s] w fun e w'=>e=.returned (.int .i64 (spB loB s.data.toList:Nat))∧w'=w):=by
  have:=bad_anyT 13 s w ht (by unfold maxLen;omega)
  rw[badN_spB 13 loB (fun b=>(ld_is b).2.2.2.2)]at this
  exact this
 clear ht hf
 cases wide
 ·go_enter Tryz.func77,Tryz.ntmps77
  go_wp2_with fail
  refine HB.out.mono ?_
  rintro e w1 ⟨rfl,rfl⟩
  go_wp2_with fail
  go_ret
  exact⟨rfl,Below.refl _ _⟩
 ·go_enter Tryz.func77,Tryz.ntmps77
  go_wp2_with fail
  refine HU.out.mono ?_
  rintro e w1 ⟨rfl,hb⟩
  go_wp2_with fail
  go_ret
  exact⟨rfl,hb⟩
open Go.RowKit
def rdC (s:ByteArray) (a:Nat) (wide:Bool) (er p:Nat):Array Value:=#[.string s,.int .i64 (a:Int),.bool wide,.int .i64 (er:Int),.int .i64 (p:Int)]
structure RdAt (w:World) (b:Nat) (s:ByteArray) (a:Nat) (wide:Bool) (er p:Nat):Prop where
 lies:Lies w b (rdC s a wide er p) 59
theorem RdAt.lt {w:World} {b:Nat} {s:ByteArray} {a:Nat} {wide:Bool} {er p:Nat} (h:RdAt w b s a wide er p):b<w.heap.size:=h.lies.lt
theorem RdAt.cells {w:World} {b:Nat} {s:ByteArray} {a:Nat} {wide:Bool} {er p:Nat} (h:RdAt w b s a wide er p):w.cell? ⟨b,0,none⟩=some (.string s)∧w.cell? ⟨b,1,none⟩=some (.int .i64 (a:Int))∧w.cell? ⟨b,2,none⟩=some (.bool wide)∧w.cell? ⟨b,3,none⟩=some (.int .i64 (er:Int))∧w.cell? ⟨b,4,none⟩=some (.int .i64 (p:Int)):=
 ⟨h.lies.cell 0,h.lies.cell 1,h.lies.cell 2,h.lies.cell 3,h.lies.cell 4⟩
theorem RdAt.below {w w':World} {b:Nat} {s:ByteArray} {a:Nat} {wide:Bool} {er p:Nat} (h:RdAt w b s a wide er p) (hb:Below w.heap.size w w'):RdAt w' b s a wide er p:=⟨h.lies.below hb h.lies.lt⟩
theorem RdAt.go {w:World} {b:Nat} {s:ByteArray} {a:Nat} {wide:Bool} {er p:Nat} (h:RdAt w b s a wide er p) (n:Nat):RdAt (w.setCell ⟨b,1,none⟩ (.int .i64 (n:Int))) b s n wide er p:=⟨h.lies.set 1 (.int .i64 (n:Int))⟩
theorem RdAt.fault {w:World} {b:Nat} {s:ByteArray} {a:Nat} {wide:Bool} {er p:Nat} (h:RdAt w b s a wide er p) (e q:Nat):RdAt ((w.setCell ⟨b,3,none⟩ (.int .i64 (e:Int))).setCell ⟨b,4,none⟩ (.int .i64 (q:Int))) b s a wide e q:=⟨(h.lies.set 3 (.int .i64 (e:Int))).set 4 (.int .i64 (q:Int))⟩
theorem RdAt.drew {w:World} {b:Nat} {s:ByteArray} {a:Nat} {wide:Bool} {er p:Nat} (h:RdAt w b s a wide er p):RdAt w.drew b s a wide er p:=⟨h.lies.drew⟩
theorem But.thenBelow {g:Nat} {a b c:World} (h:But g a b) (k:Below b.heap.size b c):But g a c:=
 ⟨k.os.trans h.os,k.tape.trans h.tape,k.output.trans h.output,Nat.le_trans h.size k.size,fun j hj hne=>(k.block j (Nat.lt_of_lt_of_le hj h.size)).trans (h.block j hj hne)⟩
theorem But.drew {g:Nat} {a b:World} (h:But g a b):But g a b.drew:=⟨h.os,h.tape,h.output,h.size,h.block⟩
def gaveUp (er:Nat):Ending:=.panicked [{v:=.iface 30 (.int .i64 (er:Int)),recovered:=false}]
def Come (b:Nat) (s:ByteArray) (wide:Bool) (w:World) (X:Except (Nat×Nat) (Value×Nat)) (e:Ending) (w':World):Prop:=
 But b w w'∧match X with
  | .ok (v,n)=>e=.returned v∧RdAt w' b s n wide 0 0
  | .error (er,p)=>e=gaveUp er∧∃a,RdAt w' b s a wide er p
set_option maxHeartbeats 2000000 in
theorem fail_any (b:Nat) (s:ByteArray) (a:Nat) (wide:Bool) (er p:Nat) (w:World) (h:RdAt w b s a wide 0 0):Calls Tryz.prog 42 #[.pointer (some ⟨b,0,none⟩),.int .i64 (er:Nat),.int .i64 (p:Nat)] w fun e w'=>e=gaveUp er∧RdAt w' b s a wide er p∧But b w w':=by
 obtain⟨c0,c1,c2,c3,c4⟩:=h.cells
 have f3:=h.lies.frozen 3
 have f4:=h.lies.frozen 4
 have HL:Hid (RdAt ((w.setCell ⟨b,3,none⟩ (.int .i64 (er:Int))).setCell ⟨b,4,none⟩ (.int .i64 (p:Int))) b s a wide er p):=h.fault er p
 have HB:Hid (But b w ((w.setCell ⟨b,3,none⟩ (.int .i64 (er:Int))).setCell ⟨b,4,none⟩ (.int .i64 (p:Int)))):=((But.refl b w).set _ _).set _ _
 clear h
 go_enter Tryz.func42,Tryz.ntmps42
 go_wp2
 exact⟨rfl,rfl,HL.out,HB.out⟩
def nxB (s:ByteArray) (a:Nat) (c:UInt8):Bool:=decide ((s.data.toList.drop a).head?=some c)
theorem nx_at (s:ByteArray) (a:Nat) (c:UInt8) (h:a<s.size):nxB s a c=decide (s[a]=c):=by
 unfold nxB
 rw[drop_at s a h,List.head?_cons]
 simp
theorem nx_past (s:ByteArray) (a:Nat) (c:UInt8) (h:s.size≤a):nxB s a c=false:=by
 unfold nxB
 rw[drop_past s a h]
 rfl
set_option maxHeartbeats 4000000 in
set_option maxRecDepth 20000 in
theorem next_any (b:Nat) (s:ByteArray) (a:Nat) (ha:a≤s.size) (_hs:s.size≤140737488355328) (wide:Bool) (er p:Nat) (c:UInt8) (w:World) (h:RdAt w b s a wide er p):Calls Tryz.prog 64 #[.pointer (some ⟨b,0,none⟩),.int .u8 (c.toNat:Int)] w fun e w'=>e=.returned (.bool (nxB s a c))∧w'=w.drew:=by
 obtain⟨c0,c1,c2,c3,c4⟩:=h.cells
 clear h
 by_cases hl:a<s.size
 ·have hl':(a:Int)<(s.size:Int):=by omega
  have hb:=(b_eq s[a] c (c.toNat:Int) rfl).1
  rw[nx_at s a c hl,←hb]
  clear hb
  go_enter Tryz.func64,Tryz.ntmps64
  go_upto_region 1 with fail
  refine wp_region_late (fun wx=>wx.cell? ⟨b,0,none⟩=some (.string s)∧wx.cell? ⟨b,1,none⟩=some (.int .i64 (a:Int))) 24 (by kernel_rfl) ⟨c0,c1⟩ (fun hHeld=>?_)
  refine tk9 0 (some 5) _ ?_
  simp only[Act.put,pA,pB,pC]
  refine tk9 1 (some 6) _ ?_
  simp only[Act.put,pA,pB,pC]
  refine tk9 2 (some 7) _ ?_
  simp only[Act.put,pA,pB,pC]
  refine tk9 3 (some 8) _ ?_
  simp only[Act.put,pA,pB,pC]
  refine tk9 4 (some 9) _ ?_
  simp only[Act.put,pA,pB,pC]
  refine tk9 5 (some 10) _ ?_
  simp only[Act.put,pA,pB,pC]
  refine tk9 6 (some 11) _ ?_
  simp only[Act.put,pA,pB,pC]
  refine tk9 7 (some 12) _ ?_
  simp only[Act.put,pA,pB,pC]
  refine tk9 8 (some 13) _ ?_
  simp only[Act.put,pA,pB,pC]
  refine tk9 9 (some 14) (.bool true) ?_
  simp only[Act.put,pA,pB,pC]
  refine tk9 10 (some 15) _ ?_
  simp only[Act.put,pA,pB,pC]
  refine tk9 11 (some 16) _ ?_
  simp only[Act.put,pA,pB,pC]
  refine tk9 12 (some 17) _ ?_
  simp only[Act.put,pA,pB,pC]
  refine tk9 13 (some 18) _ ?_
  simp only[Act.put,pA,pB,pC]
  refine tk9 14 (some 19) _ ?_
  simp only[Act.put,pA,pB,pC]
  refine tk9 15 (some 20) _ ?_
  simp only[Act.put,pA,pB,pC]
  refine tk9 16 (some 21) _ ?_
  simp only[Act.put,pA,pB,pC]
  refine tk9 17 (some 22) _ ?_
  simp only[Act.put,pA,pB,pC]
  refine tk9 18 (some 23) _ ?_
  simp only[Act.put,pA,pB,pC]
  refine tk9 19 (some 24) _ ?_
  simp only[Act.put,pA,pB,pC]
  refine tk9 20 (some 25) _ ?_
  simp only[Act.put,pA,pB,pC]
  refine tk9 21 (some 26) _ ?_
  simp only[Act.put,pA,pB,pC]
  refine tk9 22 (some 27) _ ?_
  simp only[Act.put,pA,pB,pC]
  refine tk9 23 (some 4) _ ?_
  simp only[Act.put,pA,pB,pC]
  refine wpAnyE_done (by kernel_rfl) ?_ _
  clear hHeld
  go_wp2_with fail
  go_ret
  exact⟨rfl,rfl⟩
 ·have hl':¬(a:Int)<(s.size:Int):=by omega
  rw[nx_past s a c (by omega)]
  go_enter Tryz.func64,Tryz.ntmps64
  go_upto_region 1 with fail
  refine wp_region_late (fun wx=>wx.cell? ⟨b,0,none⟩=some (.string s)∧wx.cell? ⟨b,1,none⟩=some (.int .i64 (a:Int))) 24 (by kernel_rfl) ⟨c0,c1⟩ (fun hHeld=>?_)
  refine tk9 0 (some 5) _ ?_
  simp only[Act.put,pA,pB,pC]
  refine tk9 1 (some 6) _ ?_
  simp only[Act.put,pA,pB,pC]
  refine tk9 2 (some 7) _ ?_
  simp only[Act.put,pA,pB,pC]
  refine tk9 3 (some 8) _ ?_
  simp only[Act.put,pA,pB,pC]
  refine tk9 4 (some 9) _ ?_
  simp only[Act.put,pA,pB,pC]
  refine tk9 5 (some 10) _ ?_
  simp only[Act.put,pA,pB,pC]
  refine tk9 6 (some 11) _ ?_
  simp only[Act.put,pA,pB,pC]
  refine tk9 7 (some 12) _ ?_
  simp only[Act.put,pA,pB,pC]
  refine tk9 8 (some 13) _ ?_
  simp only[Act.put,pA,pB,pC]
  refine tk9 9 (some 14) (.bool false) ?_
  simp only[Act.put,pA,pB,pC]
  refine tk9 10 (some 15) _ ?_
  simp only[Act.put,pA,pB,pC]
  refine wpAnyE_sk (i:=11) (d:=some 16) rfl (by kernel_rfl) (by kernel_rfl) (by kernel_rfl) rfl (fun _ _ _ h=>h) rfl rfl (by assumption) ?_
  simp only[Act.put,pA,pB,pC]
  refine wpAnyE_sk (i:=12) (d:=some 17) rfl (by kernel_rfl) (by kernel_rfl) (by kernel_rfl) rfl (fun _ _ _ h=>h) rfl rfl (by assumption) ?_
  simp only[Act.put,pA,pB,pC]
  refine wpAnyE_sk (i:=13) (d:=some 18) rfl (by kernel_rfl) (by kernel_rfl) (by kernel_rfl) rfl (fun _ _ _ h=>h) rfl rfl (by assumption) ?_
  simp only[Act.put,pA,pB,pC]
  refine wpAnyE_sk (i:=14) (d:=some 19) rfl (by kernel_rfl) (by kernel_rfl) (by kernel_rfl) rfl (fun _ _ _ h=>h) rfl rfl (by assumption) ?_
  simp only[Act.put,pA,pB,pC]
  refine wpAnyE_sk (i:=15) (d:=some 20) rfl (by kernel_rfl) (by kernel_rfl) (by kernel_rfl) rfl (fun _ _ _ h=>h) rfl rfl (by assumption) ?_
  simp only[Act.put,pA,pB,pC]
  refine wpAnyE_sk (i:=16) (d:=some 21) rfl (by kernel_rfl) (by kernel_rfl) (by kernel_rfl) rfl (fun _ _ _ h=>h) rfl rfl (by assumption) ?_
  simp only[Act.put,pA,pB,pC]
  refine wpAnyE_sk (i:=17) (d:=some 22) rfl (by kernel_rfl) (by kernel_rfl) (by kernel_rfl) rfl (fun _ _ _ h=>h) rfl rfl (by assumption) ?_
  simp only[Act.put,pA,pB,pC]
  refine wpAnyE_sk (i:=18) (d:=some 23) rfl (by kernel_rfl) (by kernel_rfl) (by kernel_rfl) rfl (fun _ _ _ h=>h) rfl rfl (by assumption) ?_
  simp only[Act.put,pA,pB,pC]
  refine wpAnyE_sk (i:=19) (d:=some 24) rfl (by kernel_rfl) (by kernel_rfl) (by kernel_rfl) rfl (fun _ _ _ h=>h) rfl rfl (by assumption) ?_
  simp only[Act.put,pA,pB,pC]
  refine wpAnyE_sk (i:=20) (d:=some 25) rfl (by kernel_rfl) (by kernel_rfl) (by kernel_rfl) rfl (fun _ _ _ h=>h) rfl rfl (by assumption) ?_
  simp only[Act.put,pA,pB,pC]
  refine wpAnyE_sk (i:=21) (d:=some 26) rfl (by kernel_rfl) (by kernel_rfl) (by kernel_rfl) rfl (fun _ _ _ h=>h) rfl rfl (by assumption) ?_
  simp only[Act.put,pA,pB,pC]
  refine tk9 22 (some 27) _ ?_
  simp only[Act.put,pA,pB,pC]
  refine tk9 23 (some 4) _ ?_
  simp only[Act.put,pA,pB,pC]
  refine wpAnyE_done (by kernel_rfl) ?_ _
  clear hHeld
  go_wp2_with fail
  go_ret
  exact⟨rfl,rfl⟩
set_option maxHeartbeats 4000000 in
set_option maxRecDepth 20000 in
theorem need_any (b:Nat) (s:ByteArray) (a:Nat) (ha:a≤s.size) (hs:s.size≤140737488355328) (wide:Bool) (c:UInt8) (w:World) (h:RdAt w b s a wide 0 0):Calls Tryz.prog 63 #[.pointer (some ⟨b,0,none⟩),.int .u8 (c.toNat:Int)] w (Come b s wide w (if nxB s a c=true then .ok (.tuple #[],a+1) else .error (93,a))):=by
 have HN:Hid (Calls Tryz.prog 64 #[.pointer (some ⟨b,0,none⟩),.int .u8 (c.toNat:Int)] w fun e w'=>e=.returned (.bool (nxB s a c))∧w'=w.drew):=next_any b s a ha hs wide 0 0 c w h
 have hlt:nxB s a c=true→a<s.size:=fun hx=>by
  rcases Nat.lt_or_ge a s.size with hl|hl
  ·exact hl
  ·rw[nx_past s a c hl]at hx
   cases hx
 generalize nxB s a c=x at HN hlt ⊢
 obtain⟨c0,c1,c2,c3,c4⟩:=h.drew.cells
 have f1:=h.drew.lies.frozen 1
 cases x
 ·have HF:Hid (Calls Tryz.prog 42 #[.pointer (some ⟨b,0,none⟩),.int .i64 93,.int .i64 (a:Nat)] w.drew fun e w'=>e=gaveUp 93∧RdAt w' b s a wide 93 a∧But b w.drew w'):=fail_any b s a wide 93 a w.drew h.drew
  clear h hlt
  go_enter Tryz.func63,Tryz.ntmps63
  go_wp2_with fail
  refine HN.out.mono ?_
  rintro e w1 ⟨rfl,rfl⟩
  clear HN
  go_wp2_with fail
  refine HF.out.mono ?_
  rintro e w1 ⟨rfl,h1,h2⟩
  exact⟨rfl,⟨h2.os,h2.tape,h2.output,h2.size,h2.block⟩,rfl,a,h1⟩
 ·have hl:=hlt rfl
  have HG:Hid (RdAt (w.drew.setCell ⟨b,1,none⟩ (.int .i64 ((a+1:Nat):Int))) b s (a+1) wide 0 0):=h.drew.go (a+1)
  have HB:Hid (But b w (w.drew.setCell ⟨b,1,none⟩ (.int .i64 ((a+1:Nat):Int)))):=(But.refl b w).drew.set _ _
  clear h hlt
  go_enter Tryz.func63,Tryz.ntmps63
  go_wp2_with fail
  refine HN.out.mono ?_
  rintro e w1 ⟨rfl,rfl⟩
  clear HN
  go_wp2_with fail
  go_end0
  exact⟨HB.out,rfl,HG.out⟩
end Go.Proofs.YtfjpkfhbmldmfaaGreatDoor
