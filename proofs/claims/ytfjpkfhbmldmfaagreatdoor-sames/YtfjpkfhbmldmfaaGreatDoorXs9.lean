/-
  The program's path.
-/
import Derived.Test.YtfjpkfhbmldmfaaGreatDoorXr9
namespace Go.Proofs.YtfjpkfhbmldmfaaGreatDoor
open Go.RowKit
theorem mid_is {wide:Bool} {s:ByteArray} {r:List Ho} {a:Nat} (h:midA wide s=.ok (r,a)) (h0:1≤s.size):a≤s.size∧RtOk r wide∧r.length≤16:=by
 unfold midA at h
 split at h
 ·cases hr:rte wide 16 (s.data.toList.drop 1) with
  |error x=>rw[hr]at h;cases h
  |ok x=>
   obtain⟨r',n⟩:=x
   rw[hr,shE]at h
   injection h with h
   injection h with e1 e2
   subst e1 e2
   obtain⟨q1,_,q3,_,q5⟩:=rte_is 16 _ _ _ hr
   rw[List.length_drop,len_list]at q1
   exact⟨by omega,q3,q5⟩
 ·injection h with h
  injection h with e1 e2
  subst e1 e2
  exact⟨h0,⟨fun x hx=>by cases hx⟩,by simp⟩
theorem lcl_len {wide:Bool} {s l:List UInt8} {n:Nat} (h:lcl wide s=.ok (l,n)):l.length≤64:=by
 have h1:=(lcl_again h).2
 have h2:=(lcl_is h).2.2.1
 unfold wrL at h1
 split at h1
 ·omega
 ·have:=escL_le l
  simp only[List.length_cons,List.length_append,List.length_nil]at h1
  omega
theorem bx_ok {wide:Bool} {s:ByteArray} {a:Nat} {l:List UInt8} {h:Ho} {n:Nat} (hb:shE a (bx wide (s.data.toList.drop a))=.ok ((l,h),n)) (ha:a≤s.size):n≤s.size∧l.length≤64∧h.Ok∧check h wide=0:=by
 cases hq:bx wide (s.data.toList.drop a) with
 |error x=>rw[hq]at hb;cases hb
 |ok x=>
  obtain⟨⟨l',h'⟩,m⟩:=x
  rw[hq,shE]at hb
  injection hb with hb
  injection hb with e1 e2
  injection e1 with e3 e4
  subst e2 e3 e4
  obtain⟨x,y,z,q1,q2,q3,q4⟩:=bx_is hq
  have hl:=congrArg List.length q1
  rw[List.length_drop,len_list,List.length_append,List.length_cons,List.length_append]at hl
  exact⟨by omega,lcl_len q3,hst_ok q4⟩
set_option maxHeartbeats 16000000 in
set_option maxRecDepth 100000 in
theorem path_any (b:Nat) (h10:10≤b) (s:ByteArray) (hs:s.size≤140737488355328) (wide:Bool) (short:ByteArray) (hsh:short.size≤100) (kd:Int) (w:World) (hT:Td w) (h:RdAt w b s 0 wide 0 0):
  Calls Tryz.prog 37 #[.pointer (some ⟨b,0,none⟩),.string short,.int .i64 kd] w (ComeP b s wide w (if short.size≤s.size∧sml (s.data.toList.take short.size)=sml short.data.toList then .ok (⟨kd,[],[],ho0⟩,short.size) else rstA wide s)):=by
 have hbw:=h.lt
 have KB0:Below w.heap.size w (w.alloc (.cells #[.int .i64 0,.slice none 0 0,.string ⟨#[]⟩,.int .i64 0,.string ⟨#[]⟩,.int .u8 0,.int .u8 0,.int .u8 0,.int .u8 0,.int .u8 0,.int .u8 0,.int .u8 0,.int .u8 0,.int .u8 0,.int .u8 0,.int .u8 0,.int .u8 0,.int .u8 0,.int .u8 0,.int .u8 0,.int .u8 0] 29)):=(Below.refl _ w).alloc (Nat.le_refl _) _
 have HW1:Hid (Below w.heap.size w (w.alloc (.cells #[.int .i64 0,.slice none 0 0,.string ⟨#[]⟩,.int .i64 0,.string ⟨#[]⟩,.int .u8 0,.int .u8 0,.int .u8 0,.int .u8 0,.int .u8 0,.int .u8 0,.int .u8 0,.int .u8 0,.int .u8 0,.int .u8 0,.int .u8 0,.int .u8 0,.int .u8 0,.int .u8 0,.int .u8 0,.int .u8 0] 29))):=KB0
 have HL1:Hid (Lies (w.alloc (.cells #[.int .i64 0,.slice none 0 0,.string ⟨#[]⟩,.int .i64 0,.string ⟨#[]⟩,.int .u8 0,.int .u8 0,.int .u8 0,.int .u8 0,.int .u8 0,.int .u8 0,.int .u8 0,.int .u8 0,.int .u8 0,.int .u8 0,.int .u8 0,.int .u8 0,.int .u8 0,.int .u8 0,.int .u8 0,.int .u8 0] 29)) w.heap.size #[.int .i64 0,.slice none 0 0,.string ⟨#[]⟩,.int .i64 0,.string ⟨#[]⟩,.int .u8 0,.int .u8 0,.int .u8 0,.int .u8 0,.int .u8 0,.int .u8 0,.int .u8 0,.int .u8 0,.int .u8 0,.int .u8 0,.int .u8 0,.int .u8 0,.int .u8 0,.int .u8 0,.int .u8 0,.int .u8 0] 29):=Lies.new w _ _
 have HR1:Hid (RdAt (w.alloc (.cells #[.int .i64 0,.slice none 0 0,.string ⟨#[]⟩,.int .i64 0,.string ⟨#[]⟩,.int .u8 0,.int .u8 0,.int .u8 0,.int .u8 0,.int .u8 0,.int .u8 0,.int .u8 0,.int .u8 0,.int .u8 0,.int .u8 0,.int .u8 0,.int .u8 0,.int .u8 0,.int .u8 0,.int .u8 0,.int .u8 0] 29)) b s 0 wide 0 0):=h.below KB0
 have HT1:Hid (Td (w.alloc (.cells #[.int .i64 0,.slice none 0 0,.string ⟨#[]⟩,.int .i64 0,.string ⟨#[]⟩,.int .u8 0,.int .u8 0,.int .u8 0,.int .u8 0,.int .u8 0,.int .u8 0,.int .u8 0,.int .u8 0,.int .u8 0,.int .u8 0,.int .u8 0,.int .u8 0,.int .u8 0,.int .u8 0,.int .u8 0,.int .u8 0] 29))):=hT.below KB0
 have hb0:w.heap.size≠b:=by omega
 obtain⟨x,hx⟩:∃x:Bool,x=decide (short.size≤s.size∧sml (s.data.toList.take short.size)=sml short.data.toList):=⟨_,rfl⟩
 have HX:Hid (x=decide (short.size≤s.size∧sml (s.data.toList.take short.size)=sml short.data.toList)):=hx
 obtain⟨Y,hY⟩:∃Y,Y=(if short.size≤s.size∧sml (s.data.toList.take short.size)=sml short.data.toList then .ok (⟨kd,[],[],ho0⟩,short.size) else rstA wide s):=⟨_,rfl⟩
 rw[←hY]
 have HY:Hid (Y=if x=true then .ok (⟨kd,[],[],ho0⟩,short.size) else rstA wide s):=by
  show Y=_
  rw[hY,hx]
  by_cases hc:short.size≤s.size∧sml (s.data.toList.take short.size)=sml short.data.toList
  ·rw[if_pos hc,if_pos (decide_eq_true hc)]
  ·rw[if_neg hc,if_neg (by rw[decide_eq_false hc];decide)]
 have HTW:Hid (Td w):=hT
 clear hx hY hT h KB0
 go_enter Tryz.func37,Tryz.ntmps37
 go_upto_region 1 with fail
 generalize w.alloc (.cells #[.int .i64 0,.slice none 0 0,.string ⟨#[]⟩,.int .i64 0,.string ⟨#[]⟩,.int .u8 0,.int .u8 0,.int .u8 0,.int .u8 0,.int .u8 0,.int .u8 0,.int .u8 0,.int .u8 0,.int .u8 0,.int .u8 0,.int .u8 0,.int .u8 0,.int .u8 0,.int .u8 0,.int .u8 0,.int .u8 0] 29)=w1 at HW1 HL1 HR1 HT1 ⊢
 go_cut [26] (fun c wx=>c=.bool x∧Hid (Below w1.heap.size w1 wx))
 case first=>
  obtain⟨c0,c1,_,_,_⟩:=HR1.out.cells
  by_cases hle:short.size≤s.size
  ·have hle':(short.size:Int)≤(s.size:Int):=by omega
   obtain⟨t,ht⟩:∃t,t=s.extract 0 short.size:=⟨_,rfl⟩
   have htx:s.extract 0 short.size=t:=ht.symm
   have HSM:Hid (Calls Tryz.prog 62 #[.string t,.string short] w1 fun e w'=>e=.returned (.bool x)∧Below w1.heap.size w1 w'):=by
    have:=same_any t short w1 (by rw[ht,ByteArray.size_extract];unfold maxLen;omega) (by unfold maxLen;omega)
    rw[same_sm9,ht,ext_take,←ht]at this
    have e:decide (sml (s.data.toList.take short.size)=sml short.data.toList)=x:=by
     rw[HX.out]
     rw[Bool.eq_iff_iff,decide_eq_true_eq,decide_eq_true_eq]
     exact⟨fun q=>⟨hle,q⟩,fun q=>q.2⟩
    rw[e]at this
    exact this
   clear ht HX HY
   go_wp2_with fail
   refine HSM.out.mono ?_
   rintro e w2 ⟨rfl,hb2⟩
   go_wp2_with fail
   go_meet
   exact⟨rfl,hb2⟩
  ·have hle':¬(short.size:Int)≤(s.size:Int):=by omega
   have e:x=false:=by rw[HX.out,decide_eq_false (fun q=>hle q.1)]
   subst e
   clear HX HY
   go_wp2_with fail
   go_meet
   exact⟨rfl,Below.refl _ _⟩
 case rest=>
  obtain⟨rfl,HBc⟩:=hcut
  have HW2:Hid (Below w.heap.size w wc):=HW1.out.trans (HBc.out.mono HW1.out.size)
  have HL2:Hid (Lies wc w.heap.size #[.int .i64 0,.slice none 0 0,.string ⟨#[]⟩,.int .i64 0,.string ⟨#[]⟩,.int .u8 0,.int .u8 0,.int .u8 0,.int .u8 0,.int .u8 0,.int .u8 0,.int .u8 0,.int .u8 0,.int .u8 0,.int .u8 0,.int .u8 0,.int .u8 0,.int .u8 0,.int .u8 0,.int .u8 0,.int .u8 0] 29):=HL1.out.below HBc.out HL1.out.lt
  have HR2:Hid (RdAt wc b s 0 wide 0 0):=HR1.out.below HBc.out
  have HT2:Hid (Td wc):=HT1.out.below HBc.out
  clear HW1 HL1 HR1 HT1 HBc HX
  cases x
  ·have hy0:=HY.out
   rw[if_neg (by decide)]at hy0
   have HY1:Hid (Y=rstA wide s):=hy0
   clear HY hy0
   have HN60:Hid (Calls Tryz.prog 63 #[.pointer (some ⟨b,0,none⟩),.int .u8 60] wc (Come b s wide wc (if nxB s 0 60=true then .ok (.tuple #[],0+1) else .error (93,0)))):=need_any b s 0 (Nat.zero_le _) hs wide 60 wc HR2.out
   cases hx0:nxB s 0 60
   ·rw[hx0,if_neg (by decide)]at HN60
    have hy:=HY1.out
    unfold rstA at hy
    rw[hx0,if_neg (by decide)]at hy
    subst hy
    clear HY1 hx0
    go_wp2_with fail
    refine HN60.out.mono ?_
    rintro e w3 ⟨q1,rfl,a',q2⟩
    exact⟨rfl,(But.of_below HW2.out).trans q1,rfl,a',q2⟩
   ·rw[hx0,if_pos rfl]at HN60
    have h1s:1≤s.size:=by
     rcases Nat.lt_or_ge 0 s.size with hl|hl
     ·exact hl
     ·rw[nx_past s 0 60 hl]at hx0
      cases hx0
    have hy:=HY1.out
    unfold rstA at hy
    rw[hx0,if_pos rfl]at hy
    have HY2:Hid (Y=match midA wide s with
     | .error e=>.error e
     | .ok (r,a)=>endA s r (shE a (bx wide (s.data.toList.drop a)))):=hy
    clear hy HY1 hx0
    go_wp2_with fail
    refine HN60.out.mono ?_
    rintro e w3 ⟨hb3,rfl,hr3⟩
    have HW3:Hid (But b w w3):=(But.of_below HW2.out).trans hb3
    have HL3:Hid (Lies w3 w.heap.size #[.int .i64 0,.slice none 0 0,.string ⟨#[]⟩,.int .i64 0,.string ⟨#[]⟩,.int .u8 0,.int .u8 0,.int .u8 0,.int .u8 0,.int .u8 0,.int .u8 0,.int .u8 0,.int .u8 0,.int .u8 0,.int .u8 0,.int .u8 0,.int .u8 0,.int .u8 0,.int .u8 0,.int .u8 0,.int .u8 0] 29):=hb3.lies HL2.out hb0
    have HT3:Hid (Td w3):=HT2.out.but hb3 h10
    have hw3:=hr3.lt
    have hw30:=HL3.out.lt
    have KB4:Below w3.heap.size w3 ((w3.alloc (.cells #[.int .i64 0,.slice none 0 0,.string ⟨#[]⟩,.int .i64 0,.string ⟨#[]⟩,.int .u8 0,.int .u8 0,.int .u8 0,.int .u8 0,.int .u8 0,.int .u8 0,.int .u8 0,.int .u8 0,.int .u8 0,.int .u8 0,.int .u8 0,.int .u8 0,.int .u8 0,.int .u8 0,.int .u8 0,.int .u8 0] 29)).setRow w3.heap.size #[.int .i64 3,.slice none 0 0,.string ⟨#[]⟩,.int .i64 0,.string ⟨#[]⟩,.int .u8 0,.int .u8 0,.int .u8 0,.int .u8 0,.int .u8 0,.int .u8 0,.int .u8 0,.int .u8 0,.int .u8 0,.int .u8 0,.int .u8 0,.int .u8 0,.int .u8 0,.int .u8 0,.int .u8 0,.int .u8 0]):=below_row ((Below.refl _ w3).alloc (Nat.le_refl _) _) (Nat.le_refl _) _
    have HZ4:Hid (Lies (w3.alloc (.cells #[.int .i64 0,.slice none 0 0,.string ⟨#[]⟩,.int .i64 0,.string ⟨#[]⟩,.int .u8 0,.int .u8 0,.int .u8 0,.int .u8 0,.int .u8 0,.int .u8 0,.int .u8 0,.int .u8 0,.int .u8 0,.int .u8 0,.int .u8 0,.int .u8 0,.int .u8 0,.int .u8 0,.int .u8 0,.int .u8 0] 29)) w3.heap.size #[.int .i64 0,.slice none 0 0,.string ⟨#[]⟩,.int .i64 0,.string ⟨#[]⟩,.int .u8 0,.int .u8 0,.int .u8 0,.int .u8 0,.int .u8 0,.int .u8 0,.int .u8 0,.int .u8 0,.int .u8 0,.int .u8 0,.int .u8 0,.int .u8 0,.int .u8 0,.int .u8 0,.int .u8 0,.int .u8 0] 29):=Lies.new w3 _ _
    have HL4:Hid (Lies ((w3.alloc (.cells #[.int .i64 0,.slice none 0 0,.string ⟨#[]⟩,.int .i64 0,.string ⟨#[]⟩,.int .u8 0,.int .u8 0,.int .u8 0,.int .u8 0,.int .u8 0,.int .u8 0,.int .u8 0,.int .u8 0,.int .u8 0,.int .u8 0,.int .u8 0,.int .u8 0,.int .u8 0,.int .u8 0,.int .u8 0,.int .u8 0] 29)).setRow w3.heap.size #[.int .i64 3,.slice none 0 0,.string ⟨#[]⟩,.int .i64 0,.string ⟨#[]⟩,.int .u8 0,.int .u8 0,.int .u8 0,.int .u8 0,.int .u8 0,.int .u8 0,.int .u8 0,.int .u8 0,.int .u8 0,.int .u8 0,.int .u8 0,.int .u8 0,.int .u8 0,.int .u8 0,.int .u8 0,.int .u8 0]) w3.heap.size (pthC 3 (.slice none 0 0) [] ho0) 29):=by rw[pthC_none9];exact HZ4.out.row _
    have HW4:Hid (But b w ((w3.alloc (.cells #[.int .i64 0,.slice none 0 0,.string ⟨#[]⟩,.int .i64 0,.string ⟨#[]⟩,.int .u8 0,.int .u8 0,.int .u8 0,.int .u8 0,.int .u8 0,.int .u8 0,.int .u8 0,.int .u8 0,.int .u8 0,.int .u8 0,.int .u8 0,.int .u8 0,.int .u8 0,.int .u8 0,.int .u8 0,.int .u8 0] 29)).setRow w3.heap.size #[.int .i64 3,.slice none 0 0,.string ⟨#[]⟩,.int .i64 0,.string ⟨#[]⟩,.int .u8 0,.int .u8 0,.int .u8 0,.int .u8 0,.int .u8 0,.int .u8 0,.int .u8 0,.int .u8 0,.int .u8 0,.int .u8 0,.int .u8 0,.int .u8 0,.int .u8 0,.int .u8 0,.int .u8 0,.int .u8 0])):=HW3.out.thenBelow KB4
    have HL40:Hid (Lies ((w3.alloc (.cells #[.int .i64 0,.slice none 0 0,.string ⟨#[]⟩,.int .i64 0,.string ⟨#[]⟩,.int .u8 0,.int .u8 0,.int .u8 0,.int .u8 0,.int .u8 0,.int .u8 0,.int .u8 0,.int .u8 0,.int .u8 0,.int .u8 0,.int .u8 0,.int .u8 0,.int .u8 0,.int .u8 0,.int .u8 0,.int .u8 0] 29)).setRow w3.heap.size #[.int .i64 3,.slice none 0 0,.string ⟨#[]⟩,.int .i64 0,.string ⟨#[]⟩,.int .u8 0,.int .u8 0,.int .u8 0,.int .u8 0,.int .u8 0,.int .u8 0,.int .u8 0,.int .u8 0,.int .u8 0,.int .u8 0,.int .u8 0,.int .u8 0,.int .u8 0,.int .u8 0,.int .u8 0,.int .u8 0]) w.heap.size #[.int .i64 0,.slice none 0 0,.string ⟨#[]⟩,.int .i64 0,.string ⟨#[]⟩,.int .u8 0,.int .u8 0,.int .u8 0,.int .u8 0,.int .u8 0,.int .u8 0,.int .u8 0,.int .u8 0,.int .u8 0,.int .u8 0,.int .u8 0,.int .u8 0,.int .u8 0,.int .u8 0,.int .u8 0,.int .u8 0] 29):=HL3.out.below KB4 HL3.out.lt
    have HR4:Hid (RdAt ((w3.alloc (.cells #[.int .i64 0,.slice none 0 0,.string ⟨#[]⟩,.int .i64 0,.string ⟨#[]⟩,.int .u8 0,.int .u8 0,.int .u8 0,.int .u8 0,.int .u8 0,.int .u8 0,.int .u8 0,.int .u8 0,.int .u8 0,.int .u8 0,.int .u8 0,.int .u8 0,.int .u8 0,.int .u8 0,.int .u8 0,.int .u8 0] 29)).setRow w3.heap.size #[.int .i64 3,.slice none 0 0,.string ⟨#[]⟩,.int .i64 0,.string ⟨#[]⟩,.int .u8 0,.int .u8 0,.int .u8 0,.int .u8 0,.int .u8 0,.int .u8 0,.int .u8 0,.int .u8 0,.int .u8 0,.int .u8 0,.int .u8 0,.int .u8 0,.int .u8 0,.int .u8 0,.int .u8 0,.int .u8 0]) b s 1 wide 0 0):=hr3.below KB4
    have HT4:Hid (Td ((w3.alloc (.cells #[.int .i64 0,.slice none 0 0,.string ⟨#[]⟩,.int .i64 0,.string ⟨#[]⟩,.int .u8 0,.int .u8 0,.int .u8 0,.int .u8 0,.int .u8 0,.int .u8 0,.int .u8 0,.int .u8 0,.int .u8 0,.int .u8 0,.int .u8 0,.int .u8 0,.int .u8 0,.int .u8 0,.int .u8 0,.int .u8 0] 29)).setRow w3.heap.size #[.int .i64 3,.slice none 0 0,.string ⟨#[]⟩,.int .i64 0,.string ⟨#[]⟩,.int .u8 0,.int .u8 0,.int .u8 0,.int .u8 0,.int .u8 0,.int .u8 0,.int .u8 0,.int .u8 0,.int .u8 0,.int .u8 0,.int .u8 0,.int .u8 0,.int .u8 0,.int .u8 0,.int .u8 0,.int .u8 0])):=HT3.out.below KB4
    clear hb3 hr3 HW3 HL3 HT3 HN60 KB4 HW2 HL2 HR2 HT2
    go_upto_region 6 with(refine wpList_store_row rfl 29 _ _ rfl w3.heap.size rfl #[.int .i64 0,.slice none 0 0,.string ⟨#[]⟩,.int .i64 0,.string ⟨#[]⟩,.int .u8 0,.int .u8 0,.int .u8 0,.int .u8 0,.int .u8 0,.int .u8 0,.int .u8 0,.int .u8 0,.int .u8 0,.int .u8 0,.int .u8 0,.int .u8 0,.int .u8 0,.int .u8 0,.int .u8 0,.int .u8 0] #[.int .i64 3,.slice none 0 0,.string ⟨#[]⟩,.int .i64 0,.string ⟨#[]⟩,.int .u8 0,.int .u8 0,.int .u8 0,.int .u8 0,.int .u8 0,.int .u8 0,.int .u8 0,.int .u8 0,.int .u8 0,.int .u8 0,.int .u8 0,.int .u8 0,.int .u8 0,.int .u8 0,.int .u8 0,.int .u8 0] rfl 29 HZ4.out infoPt rfl (by simp[Value.oneCell']) rfl ?_)
    generalize (w3.alloc (.cells #[.int .i64 0,.slice none 0 0,.string ⟨#[]⟩,.int .i64 0,.string ⟨#[]⟩,.int .u8 0,.int .u8 0,.int .u8 0,.int .u8 0,.int .u8 0,.int .u8 0,.int .u8 0,.int .u8 0,.int .u8 0,.int .u8 0,.int .u8 0,.int .u8 0,.int .u8 0,.int .u8 0,.int .u8 0,.int .u8 0] 29)).setRow w3.heap.size #[.int .i64 3,.slice none 0 0,.string ⟨#[]⟩,.int .i64 0,.string ⟨#[]⟩,.int .u8 0,.int .u8 0,.int .u8 0,.int .u8 0,.int .u8 0,.int .u8 0,.int .u8 0,.int .u8 0,.int .u8 0,.int .u8 0,.int .u8 0,.int .u8 0,.int .u8 0,.int .u8 0,.int .u8 0,.int .u8 0]=w4 at HL4 HW4 HL40 HR4 HT4 ⊢
    clear HZ4
    generalize w3.heap.size=g at HL4 hw3 hw30 ⊢
    have HN64:Hid (Calls Tryz.prog 64 #[.pointer (some ⟨b,0,none⟩),.int .u8 64] w4 fun e w'=>e=.returned (.bool (nxB s 1 64))∧w'=w4.drew):=next_any b s 1 h1s hs wide 0 0 64 w4 HR4.out
    obtain⟨x2,hx2⟩:∃x2,x2=nxB s 1 64:=⟨_,rfl⟩
    rw[←hx2]at HN64
    have HX2:Hid (x2=nxB s 1 64):=hx2
    clear hx2
    go_wp2_with fail
    refine HN64.out.mono ?_
    rintro e w5 ⟨rfl,rfl⟩
    clear HN64
    go_upto_if 38 with fail
    go_cut [38] (fun _ wx=>∃(r:List Ho) (a:Nat) (sl:Value),Hid (midA wide s=.ok (r,a))∧Hid (RdAt wx b s a wide 0 0)∧Hid (Lies wx g (pthC 3 sl [] ho0) 29)∧Hid (wx.ownsRow w.heap.size 25 18 sl r.length (cellsH r))∧Hid (But b w wx)∧Hid (Lies wx w.heap.size #[.int .i64 0,.slice none 0 0,.string ⟨#[]⟩,.int .i64 0,.string ⟨#[]⟩,.int .u8 0,.int .u8 0,.int .u8 0,.int .u8 0,.int .u8 0,.int .u8 0,.int .u8 0,.int .u8 0,.int .u8 0,.int .u8 0,.int .u8 0,.int .u8 0,.int .u8 0,.int .u8 0,.int .u8 0,.int .u8 0] 29))
    case first=>
     cases x2
     ·have HM:Hid (midA wide s=.ok ([],1)):=by
       show _=_
       unfold midA
       rw[←HX2.out,if_neg (by decide)]
      clear HY2 HX2
      go_wp2_with fail
      go_meet
      exact⟨[],1,.slice none 0 0,HM,HR4.out.drew,HL4.out.drew,⟨rfl,.inl ⟨rfl,rfl⟩⟩,HW4.out.drew,HL40.out.drew⟩
     ·have HRO:Hid (Calls Tryz.prog 65 #[.pointer (some ⟨b,0,none⟩)] w4.drew (ComeR b s wide w4.drew (shE 1 (rte wide 16 (s.data.toList.drop 1))))):=route_any b h10 s 1 h1s hs wide w4.drew HT4.out.drew.tb HR4.out.drew
      have hm:midA wide s=shE 1 (rte wide 16 (s.data.toList.drop 1)):=by
       unfold midA
       rw[←HX2.out,if_pos rfl]
      rw[←hm]at HRO
      cases hmid:midA wide s with
      |error y=>
       obtain⟨er,p⟩:=y
       rw[hmid]at HRO
       have hy:=HY2.out
       rw[hmid]at hy
       subst hy
       clear HY2 HX2 hm hmid
       go_wp2_with fail
       refine HRO.out.mono ?_
       rintro e w6 ⟨q1,rfl,a',q2⟩
       exact⟨rfl,HW4.out.drew.trans q1,rfl,a',q2⟩
      |ok y=>
       obtain⟨r,a⟩:=y
       rw[hmid]at HRO
       have HM:Hid (midA wide s=.ok (r,a)):=hmid
       clear HY2 HX2 hm hmid
       go_wp2_with fail
       refine HRO.out.mono ?_
       rintro e w6 ⟨q1,v,rfl,q2,q3⟩
       have HL6:Hid (Lies w6 g (pthC 3 (.slice none 0 0) [] ho0) 29):=q1.lies HL4.out.drew (by omega)
       have HL60:Hid (Lies w6 w.heap.size #[.int .i64 0,.slice none 0 0,.string ⟨#[]⟩,.int .i64 0,.string ⟨#[]⟩,.int .u8 0,.int .u8 0,.int .u8 0,.int .u8 0,.int .u8 0,.int .u8 0,.int .u8 0,.int .u8 0,.int .u8 0,.int .u8 0,.int .u8 0,.int .u8 0,.int .u8 0,.int .u8 0,.int .u8 0,.int .u8 0] 29):=q1.lies HL40.out.drew hb0
       have HW6:Hid (But b w w6):=HW4.out.drew.trans q1
       have HR6:Hid (RdAt w6 b s a wide 0 0):=q2
       have HO6:Hid (w6.ownsRow w.heap.size 25 18 v r.length (cellsH r)):=ownH_base q3 (by have:=HW4.out.size;exact this)
       have hne:=own_ne HO6.out HL6.out (by decide)
       have hgs:=HL6.out.lt
       obtain⟨va,vc,rfl⟩:=ownH_len HO6.out
       have c1:w6.cell? ⟨g,1,none⟩=some (.slice none 0 0):=(HL6.out.cell 1).trans rfl
       have f1:=HL6.out.frozen 1
       have HL7:Hid (Lies (w6.setCell ⟨g,1,none⟩ (.slice va r.length vc)) g (pthC 3 (.slice va r.length vc) [] ho0) 29):=HL6.out.set 1 _
       have HL70:Hid (Lies (w6.setCell ⟨g,1,none⟩ (.slice va r.length vc)) w.heap.size #[.int .i64 0,.slice none 0 0,.string ⟨#[]⟩,.int .i64 0,.string ⟨#[]⟩,.int .u8 0,.int .u8 0,.int .u8 0,.int .u8 0,.int .u8 0,.int .u8 0,.int .u8 0,.int .u8 0,.int .u8 0,.int .u8 0,.int .u8 0,.int .u8 0,.int .u8 0,.int .u8 0,.int .u8 0,.int .u8 0] 29):=HL60.out.set_other (a:=⟨g,1,none⟩) (by show w.heap.size≠g;omega) _
       have HR7:Hid (RdAt (w6.setCell ⟨g,1,none⟩ (.slice va r.length vc)) b s a wide 0 0):=⟨HR6.out.lies.set_other (a:=⟨g,1,none⟩) (by show b≠g;omega) _⟩
       have HW7:Hid (But b w (w6.setCell ⟨g,1,none⟩ (.slice va r.length vc))):=⟨HW6.out.os,HW6.out.tape,HW6.out.output,by rw[World.size_setCell];exact HW6.out.size,fun j hj hn=>(Below.heap_setCell _ _ _ _ (by show j≠g;omega)).trans (HW6.out.block j hj hn)⟩
       have HO7:Hid ((w6.setCell ⟨g,1,none⟩ (.slice va r.length vc)).ownsRow w.heap.size 25 18 (.slice va r.length vc) r.length (cellsH r)):=ownH_keep HO6.out (fun j hj=>Below.heap_setCell _ _ _ _ (by show j≠g;exact hne j hj))
       clear q1 q2 q3 hne HL6 HL60 HW6 HR6 HO6 HRO
       go_wp2_with fail
       go_meet
       exact⟨r,a,_,HM,HR7,HL7,HO7,HW7,HL70⟩
    case rest=>
     clear HL4 HW4 HL40 HR4 HT4 HX2
     obtain⟨r,a,sl,HM,HR,HL,HO,HW,HL0⟩:=hcut
     obtain⟨has,hrt,hr16⟩:=mid_is HM.out h1s
     have HRT:Hid (RtOk r wide):=hrt
     have hy:=HY2.out
     rw[HM.out]at hy
     have HY3:Hid (Y=endA s r (shE a (bx wide (s.data.toList.drop a)))):=hy
     have HTc:Hid (Td wc):=HTW.out.but HW.out h10
     have HBX:Hid (Calls Tryz.prog 41 #[.pointer (some ⟨b,0,none⟩)] wc (Come b s wide wc (bxW (shE a (bx wide (s.data.toList.drop a)))))):=box_any b h10 s a has hs wide wc HTc.out.tb HR.out
     clear hy HY2 HM hrt HTc
     cases hz:shE a (bx wide (s.data.toList.drop a)) with
     |error z=>
      obtain⟨er,p⟩:=z
      rw[hz]at HBX
      have hy:=HY3.out
      rw[hz,endA]at hy
      subst hy
      clear HY3 hz
      go_wp2_with fail
      refine HBX.out.mono ?_
      rintro e w6 ⟨q1,rfl,a',q2⟩
      exact⟨rfl,HW.out.trans q1,rfl,a',q2⟩
     |ok z=>
      obtain⟨⟨l,ho⟩,n⟩:=z
      obtain⟨hns,hl64,hok,hck⟩:=bx_ok hz has
      rw[hz]at HBX
      have hy:=HY3.out
      rw[hz,endA]at hy
      have HY4:Hid (Y=if nxB s n 62=true then (if 256<n+1∨256<(wrP ⟨3,r,l,ho⟩).length then .error (93,0) else .ok (⟨3,r,l,ho⟩,n+1)) else .error (93,n)):=hy
      have hal:=hok.len
      obtain⟨U,hU⟩:∃U,U=boxC l ho:=⟨_,rfl⟩
      have HUZ:Hid (U.size=19):=by show _=_;rw[hU];exact boxC_size l ho hal
      have HUO:Hid (U.all (·.oneCell')=true):=by show _=_;rw[hU];exact boxC_one l ho
      have HBX2:Hid (Calls Tryz.prog 41 #[.pointer (some ⟨b,0,none⟩)] wc fun e w'=>e=.returned (.agg U)∧But b wc w'∧RdAt w' b s n wide 0 0):=HBX.out.mono (fun e w' q=>by
       obtain⟨q1,q2,q3⟩:=q
       rw[hU]
       exact⟨q2,q1,q3⟩)
      have HUU:Hid (U=boxC l ho):=hU
      have HOK:Hid (ho.Ok∧check ho wide=0):=⟨hok,hck⟩
      clear hy HY3 hz HBX hU hok hck
      go_wp2_with fail
      refine HBX2.out.mono ?_
      rintro e w6 ⟨rfl,q1,q2⟩
      have hgc:=HL.out.lt
      have HL6:Hid (Lies w6 g (pthC 3 sl [] ho0) 29):=q1.lies HL.out (by omega)
      have HL60:Hid (Lies w6 w.heap.size #[.int .i64 0,.slice none 0 0,.string ⟨#[]⟩,.int .i64 0,.string ⟨#[]⟩,.int .u8 0,.int .u8 0,.int .u8 0,.int .u8 0,.int .u8 0,.int .u8 0,.int .u8 0,.int .u8 0,.int .u8 0,.int .u8 0,.int .u8 0,.int .u8 0,.int .u8 0,.int .u8 0,.int .u8 0,.int .u8 0] 29):=q1.lies HL0.out hb0
      have HW6:Hid (But b w w6):=HW.out.trans q1
      have HR6:Hid (RdAt w6 b s n wide 0 0):=q2
      have HO6:Hid (w6.ownsRow w.heap.size 25 18 sl r.length (cellsH r)):=ownH_but HO.out q1 hbw
      have HTH:Hid (w6.there g 2 U.size):=by
       intro j hj
       rw[HUZ.out]at hj
       have hz:=pthC_size 3 sl [] ho0 rfl
       refine⟨?_,HL6.out.frozen _⟩
       rw[HL6.out.cell,Array.getElem?_eq_getElem (by rw[hz];omega)]
       simp
      clear q1 q2 HBX2 HL HL0 HW HR HO
      have HL7:Hid (Lies (w6.setCells g 2 U.toList) g (pthC 3 sl l ho) 29):=by
       show Lies _ _ _ _
       rw[HUU.out]
       exact HL6.out.boxPut l ho hal
      have HL70:Hid (Lies (w6.setCells g 2 U.toList) w.heap.size #[.int .i64 0,.slice none 0 0,.string ⟨#[]⟩,.int .i64 0,.string ⟨#[]⟩,.int .u8 0,.int .u8 0,.int .u8 0,.int .u8 0,.int .u8 0,.int .u8 0,.int .u8 0,.int .u8 0,.int .u8 0,.int .u8 0,.int .u8 0,.int .u8 0,.int .u8 0,.int .u8 0,.int .u8 0,.int .u8 0] 29):=Lies.setCells_other (by omega) _ _ _ HL60.out
      have HR7:Hid (RdAt (w6.setCells g 2 U.toList) b s n wide 0 0):=⟨Lies.setCells_other (by omega) _ _ _ HR6.out.lies⟩
      have HW7:Hid (But b w (w6.setCells g 2 U.toList)):=But.setCells (.inr (by omega)) _ _ _ HW6.out
      have HO7:Hid ((w6.setCells g 2 U.toList).ownsRow w.heap.size 25 18 sl r.length (cellsH r)):=ownH_setCells (own_ne HO6.out HL6.out (by decide)) _ _ _ HO6.out
      clear HL6 HL60 HW6 HR6 HO6
      go_upto_region 9 with(refine wpList_store_mid rfl 27 _ _ rfl g 2 U rfl rfl HTH.out (by rw[HUZ.out];exact infoBx) HUO.out ?_)
      generalize w6.setCells g 2 U.toList=w7 at HL7 HL70 HR7 HW7 HO7 ⊢
      clear HTH HUZ HUO HUU
      have HN62:Hid (Calls Tryz.prog 63 #[.pointer (some ⟨b,0,none⟩),.int .u8 62] w7 (Come b s wide w7 (if nxB s n 62=true then .ok (.tuple #[],n+1) else .error (93,n)))):=need_any b s n hns hs wide 62 w7 HR7.out
      cases hx2:nxB s n 62
      ·rw[hx2,if_neg (by decide)]at HN62
       have hy:=HY4.out
       rw[hx2,if_neg (by decide)]at hy
       subst hy
       clear HY4 hx2
       go_wp2_with fail
       refine HN62.out.mono ?_
       rintro e w8 ⟨q1,rfl,a',q2⟩
       exact⟨rfl,HW7.out.trans q1,rfl,a',q2⟩
      ·rw[hx2,if_pos rfl]at HN62
       have hn1:n+1≤s.size:=by
        rcases Nat.lt_or_ge n s.size with hl|hl
        ·exact hl
        ·rw[nx_past s n 62 hl]at hx2
         cases hx2
       have hy:=HY4.out
       rw[hx2,if_pos rfl]at hy
       obtain⟨y,hyy⟩:∃y:Bool,y=decide (256<n+1∨256<(wrP ⟨3,r,l,ho⟩).length):=⟨_,rfl⟩
       have HYY:Hid (y=decide (256<n+1∨256<(wrP ⟨3,r,l,ho⟩).length)):=hyy
       have HY5:Hid (Y=if y=true then .error (93,0) else .ok (⟨3,r,l,ho⟩,n+1)):=by
        show Y=_
        rw[hy,hyy]
        by_cases hc:256<n+1∨256<(wrP ⟨3,r,l,ho⟩).length
        ·rw[if_pos hc,if_pos (decide_eq_true hc)]
        ·rw[if_neg hc,if_neg (by rw[decide_eq_false hc];decide)]
       clear hy HY4 hx2 hyy
       go_wp2_with fail
       refine HN62.out.mono ?_
       rintro e w8 ⟨q1,rfl,q2⟩
       have HL8:Hid (Lies w8 g (pthC 3 sl l ho) 29):=q1.lies HL7.out (by omega)
       have HL80:Hid (Lies w8 w.heap.size #[.int .i64 0,.slice none 0 0,.string ⟨#[]⟩,.int .i64 0,.string ⟨#[]⟩,.int .u8 0,.int .u8 0,.int .u8 0,.int .u8 0,.int .u8 0,.int .u8 0,.int .u8 0,.int .u8 0,.int .u8 0,.int .u8 0,.int .u8 0,.int .u8 0,.int .u8 0,.int .u8 0,.int .u8 0,.int .u8 0] 29):=q1.lies HL70.out hb0
       have HW8:Hid (But b w w8):=HW7.out.trans q1
       have HR8:Hid (RdAt w8 b s (n+1) wide 0 0):=q2
       have HO8:Hid (w8.ownsRow w.heap.size 25 18 sl r.length (cellsH r)):=ownH_but HO7.out q1 hbw
       clear q1 q2 HL7 HL70 HW7 HR7 HO7 HN62
       have HTd:Hid (Td w8):=HTW.out.but HW8.out h10
       obtain⟨sp,c,hsl,hrm⟩:=RtM.ofOwn HO8.out (fun x hx=>(HRT.out.ok x hx).1.len)
       subst hsl
       obtain⟨o1,o2,_⟩:=ok_n ho wide HOK.out.1 HOK.out.2
       obtain⟨P,hP⟩:∃P,P=pthC 3 (.slice sp r.length c) l ho:=⟨_,rfl⟩
       have HWR:Hid (Calls Tryz.prog 49 #[.agg P] w8 fun e w'=>e=.returned (.string (txt (wrP ⟨3,r,l,ho⟩)))∧Below w8.heap.size w8 w'):=by
        rw[hP]
        exact written_any 3 sp c r l ho w8 hrm (by omega) (fun x hx=>by
         obtain⟨x1,x2,x3⟩:=HRT.out.ok x hx
         obtain⟨y1,_,y3⟩:=ok_n x wide x1 x3
         exact⟨x1.len,by omega,y3 x2⟩) HOK.out.1 (by omega) (by omega) (by omega) HTd.out (RepOk.small _ (by rw[txt_size];omega) w8 HTd.out.ml)
       have HPZ:Hid (P.size=21):=by show _=_;rw[hP];exact pthC_size _ _ _ _ hal
       have HPO:Hid (P.all (·.oneCell')=true):=by
        show _=_
        rw[hP,pth_box,Array.all_append,boxC_one]
        simp[Value.oneCell']
       rw[←hP]at HL8
       obtain⟨T,hTT⟩:∃T,T=txt (wrP ⟨3,r,l,ho⟩):=⟨_,rfl⟩
       have HTL:Hid (T.size=(wrP ⟨3,r,l,ho⟩).length):=by show _=_;rw[hTT,txt_size]
       rw[←hTT]at HWR
       have HPP:Hid (P=pthC 3 (.slice sp r.length c) l ho):=hP
       clear hrm hP hTT HTd
       generalize (wrP ⟨3,r,l,ho⟩).length=m at HTL HYY
       obtain⟨_,c1,_,_,_⟩:=HR8.out.cells
       have c1':w8.cell? ⟨b,1,none⟩=some (.int .i64 ((n:Int)+1)):=c1
       clear c1
       go_upto_region 10 with fail
       go_cut [57] (fun cc wx=>cc=.bool y∧Hid (Below w8.heap.size w8 wx))
       case first=>
        by_cases h6:256<n+1
        ·have h6':(256:Int)<(n:Int)+1:=by omega
         have e:y=true:=by rw[HYY.out,decide_eq_true (.inl h6)]
         subst e
         clear HYY HY5 h6
         go_wp2_with fail
         go_meet
         exact⟨rfl,Below.refl _ _⟩
        ·have h6':¬(256:Int)<(n:Int)+1:=by omega
         by_cases h7:256<m
         ·have h7':(256:Int)<(T.size:Int):=by have:=HTL.out;omega
          have e:y=true:=by rw[HYY.out,decide_eq_true (.inr h7)]
          subst e
          clear HYY HY5 h6 h7
          go_wp2_with (refine wpList_load_row9 (by rfl) 29 _ rfl g rfl P 29 _ HL8.out Tryz.underlying29 rfl (by rw[HPZ.out];exact infoPt) ?_)
          refine HWR.out.mono ?_
          rintro e w9 ⟨rfl,q1⟩
          go_wp2_with fail
          go_meet
          exact⟨rfl,q1⟩
         ·have h7':¬(256:Int)<(T.size:Int):=by have:=HTL.out;omega
          have e:y=false:=by rw[HYY.out,decide_eq_false (fun q=>q.elim h6 h7)]
          subst e
          clear HYY HY5 h6 h7
          go_wp2_with (refine wpList_load_row9 (by rfl) 29 _ rfl g rfl P 29 _ HL8.out Tryz.underlying29 rfl (by rw[HPZ.out];exact infoPt) ?_)
          refine HWR.out.mono ?_
          rintro e w9 ⟨rfl,q1⟩
          go_wp2_with fail
          go_meet
          exact⟨by rw[decide_eq_false (by omega)],q1⟩
       case rest=>
        obtain⟨rfl,HBc⟩:=hcut
        have HL9:Hid (Lies wc g P 29):=HL8.out.below HBc.out HL8.out.lt
        have HL90:Hid (Lies wc w.heap.size #[.int .i64 0,.slice none 0 0,.string ⟨#[]⟩,.int .i64 0,.string ⟨#[]⟩,.int .u8 0,.int .u8 0,.int .u8 0,.int .u8 0,.int .u8 0,.int .u8 0,.int .u8 0,.int .u8 0,.int .u8 0,.int .u8 0,.int .u8 0,.int .u8 0,.int .u8 0,.int .u8 0,.int .u8 0,.int .u8 0] 29):=HL80.out.below HBc.out HL80.out.lt
        have HW9:Hid (But b w wc):=HW8.out.thenBelow HBc.out
        have HR9:Hid (RdAt wc b s (n+1) wide 0 0):=HR8.out.below HBc.out
        have HO9:Hid (wc.ownsRow w.heap.size 25 18 (.slice sp r.length c) r.length (cellsH r)):=ownH_below HO8.out HBc.out
        have HNE:=own_ne HO9.out HL90.out (by decide)
        have HN9:Hid (∀j,(Value.slice sp r.length c).ownBlock=some j→j≠w.heap.size):=HNE
        clear HNE HL8 HL80 HW8 HR8 HO8 HWR HBc c1' HYY
        cases y
        ·have hy:=HY5.out
         rw[if_neg (by decide)]at hy
         subst hy
         clear HY5
         go_upto_region 12 with fail
         go_wp2_with (first|(refine wpList_load_row rfl 29 _ rfl g rfl P 29 _ HL9.out Tryz.underlying29 rfl (by rw[HPZ.out];exact infoPt) ?_)|(refine wpList_store_row rfl 29 _ _ rfl w.heap.size rfl #[.int .i64 0,.slice none 0 0,.string ⟨#[]⟩,.int .i64 0,.string ⟨#[]⟩,.int .u8 0,.int .u8 0,.int .u8 0,.int .u8 0,.int .u8 0,.int .u8 0,.int .u8 0,.int .u8 0,.int .u8 0,.int .u8 0,.int .u8 0,.int .u8 0,.int .u8 0,.int .u8 0,.int .u8 0,.int .u8 0] P rfl 29 HL90.out (by rw[HPZ.out];exact infoPt) (by rw[HPZ.out];rfl) HPO.out rfl ?_))
         refine bodyPost_ret (results_row (p:=6) (by kernel_rfl) _ _ w.heap.size 29 P (0,0) _ rfl (HL90.out.row P) Tryz.underlying29 rfl (by rw[HPZ.out];exact infoPt)) rfl ?_
         refine⟨HW9.out.newRow (Nat.le_refl _) P,.slice sp r.length c,by rw[HPP.out],⟨HR9.out.lies.row_other (Ne.symm hb0) P⟩,?_⟩
         exact ownH_keep HO9.out (fun j hj=>setRow_other _ _ _ _ (HN9.out j hj))
        ·have hy:=HY5.out
         rw[if_pos rfl]at hy
         subst hy
         have HF:Hid (Calls Tryz.prog 42 #[.pointer (some ⟨b,0,none⟩),.int .i64 93,.int .i64 0] wc fun e w'=>e=gaveUp 93∧RdAt w' b s (n+1) wide 93 0∧But b wc w'):=fail_any b s (n+1) wide 93 0 wc HR9.out
         clear HY5
         go_wp2_with fail
         refine HF.out.mono ?_
         rintro e w9 ⟨rfl,q1,q2⟩
         exact⟨rfl,HW9.out.trans q2,rfl,n+1,q1⟩
  ·have hy0:=HY.out
   rw[if_pos rfl]at hy0
   subst hy0
   obtain⟨c0,c1,_,_,_⟩:=HR2.out.cells
   have f1:=HR2.out.lies.frozen 1
   have HG:Hid (RdAt (wc.setCell ⟨b,1,none⟩ (.int .i64 (short.size:Int))) b s short.size wide 0 0):=HR2.out.go short.size
   have HGB:Hid (But b w (wc.setCell ⟨b,1,none⟩ (.int .i64 (short.size:Int)))):=(But.of_below HW2.out).set _ _
   have HGL:Hid (Lies (wc.setCell ⟨b,1,none⟩ (.int .i64 (short.size:Int))) w.heap.size #[.int .i64 0,.slice none 0 0,.string ⟨#[]⟩,.int .i64 0,.string ⟨#[]⟩,.int .u8 0,.int .u8 0,.int .u8 0,.int .u8 0,.int .u8 0,.int .u8 0,.int .u8 0,.int .u8 0,.int .u8 0,.int .u8 0,.int .u8 0,.int .u8 0,.int .u8 0,.int .u8 0,.int .u8 0,.int .u8 0] 29):=HL2.out.set_other (a:=⟨b,1,none⟩) hb0 _
   clear HY HW2 HL2 HR2 HT2
   go_upto_region 3 with fail
   generalize wc.setCell ⟨b,1,none⟩ (.int .i64 (short.size:Int))=w3 at HG HGB HGL ⊢
   go_wp2_with (refine wpList_store_row rfl 29 _ _ rfl w.heap.size rfl #[.int .i64 0,.slice none 0 0,.string ⟨#[]⟩,.int .i64 0,.string ⟨#[]⟩,.int .u8 0,.int .u8 0,.int .u8 0,.int .u8 0,.int .u8 0,.int .u8 0,.int .u8 0,.int .u8 0,.int .u8 0,.int .u8 0,.int .u8 0,.int .u8 0,.int .u8 0,.int .u8 0,.int .u8 0,.int .u8 0] #[.int .i64 kd,.slice none 0 0,.string ⟨#[]⟩,.int .i64 0,.string ⟨#[]⟩,.int .u8 0,.int .u8 0,.int .u8 0,.int .u8 0,.int .u8 0,.int .u8 0,.int .u8 0,.int .u8 0,.int .u8 0,.int .u8 0,.int .u8 0,.int .u8 0,.int .u8 0,.int .u8 0,.int .u8 0,.int .u8 0] rfl 29 HGL.out infoPt rfl (by simp[Value.oneCell']) rfl ?_)
   refine bodyPost_ret (results_row (p:=6) (by kernel_rfl) _ _ w.heap.size 29 #[.int .i64 kd,.slice none 0 0,.string ⟨#[]⟩,.int .i64 0,.string ⟨#[]⟩,.int .u8 0,.int .u8 0,.int .u8 0,.int .u8 0,.int .u8 0,.int .u8 0,.int .u8 0,.int .u8 0,.int .u8 0,.int .u8 0,.int .u8 0,.int .u8 0,.int .u8 0,.int .u8 0,.int .u8 0,.int .u8 0] (0,0) _ rfl (HGL.out.row _) Tryz.underlying29 rfl infoPt) rfl ?_
   refine⟨HGB.out.newRow (Nat.le_refl _) _,.slice none 0 0,?_,⟨HG.out.lies.row_other (Ne.symm hb0) _⟩,⟨rfl,.inl ⟨rfl,rfl⟩⟩⟩
   rw[pthC_none9]
end Go.Proofs.YtfjpkfhbmldmfaaGreatDoor
