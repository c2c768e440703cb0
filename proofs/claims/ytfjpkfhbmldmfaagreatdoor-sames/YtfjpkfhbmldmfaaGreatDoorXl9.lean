/-
  The program's box, name.
-/
import Derived.Test.YtfjpkfhbmldmfaaGreatDoorXj9
import Derived.Test.YtfjpkfhbmldmfaaGreatDoorQf9
namespace Go.Proofs.YtfjpkfhbmldmfaaGreatDoor
open Go.RowKit
def bxW:Except (Nat×Nat) ((List UInt8×Ho)×Nat)→Except (Nat×Nat) (Value×Nat)
 | .ok ((l,h),n)=>.ok (.agg (boxC l h),n)
 | .error e=>.error e
theorem bx_abs (wide:Bool) (s:ByteArray) (a:Nat):shE a (bx wide (s.data.toList.drop a))=match shE a (lcl wide (s.data.toList.drop a)) with
  | .error e=>.error e
  | .ok (l,n)=>if nxB s n 64=true then (match shE (n+1) (hst wide (s.data.toList.drop (n+1))) with
   | .error e=>.error e
   | .ok (h,k)=>.ok ((l,h),k)) else .error (93,n):=by
 unfold bx
 cases lcl wide (s.data.toList.drop a) with
 |error x=>rfl
 |ok x=>
  obtain⟨l,n⟩:=x
  dsimp only[shE]
  rw[List.drop_drop,List.drop_drop,Nat.add_assoc a n 1]
  unfold nxB
  by_cases h:(s.data.toList.drop (a+n)).head?=some 64
  ·rw[if_pos h,if_pos (decide_eq_true h)]
   cases hst wide (s.data.toList.drop (a+(n+1))) with
   |error y=>simp[Nat.add_assoc]
   |ok y=>simp[Nat.add_assoc]
  ·rw[if_neg h,if_neg (by rw[decide_eq_false h];decide)]
theorem hst_len {wide:Bool} {s:List UInt8} {h:Ho} {n:Nat} (hh:hst wide s=.ok (h,n)):h.a.length=16:=by
 unfold hst at hh
 split at hh
 ·injection hh with hh
  injection hh with h1 h2
  rw[←h1]
  exact parse_len _ _
 ·cases hh
set_option maxHeartbeats 16000000 in
set_option maxRecDepth 100000 in
theorem box_any (b:Nat) (h10:10≤b) (s:ByteArray) (a:Nat) (ha:a≤s.size) (hs:s.size≤140737488355328) (wide:Bool) (w:World) (hT:Tb w) (h:RdAt w b s a wide 0 0):
  Calls Tryz.prog 41 #[.pointer (some ⟨b,0,none⟩)] w (Come b s wide w (bxW (shE a (bx wide (s.data.toList.drop a))))):=by
 rw[bx_abs]
 have hbw:=h.lt
 have HW1:Hid (But b w (w.alloc (.cells #[.string ⟨#[]⟩,.int .i64 0,.string ⟨#[]⟩,.int .u8 0,.int .u8 0,.int .u8 0,.int .u8 0,.int .u8 0,.int .u8 0,.int .u8 0,.int .u8 0,.int .u8 0,.int .u8 0,.int .u8 0,.int .u8 0,.int .u8 0,.int .u8 0,.int .u8 0,.int .u8 0] 27))):=But.of_below ((Below.refl _ w).alloc (Nat.le_refl _) _)
 have HL1:Hid (Lies (w.alloc (.cells #[.string ⟨#[]⟩,.int .i64 0,.string ⟨#[]⟩,.int .u8 0,.int .u8 0,.int .u8 0,.int .u8 0,.int .u8 0,.int .u8 0,.int .u8 0,.int .u8 0,.int .u8 0,.int .u8 0,.int .u8 0,.int .u8 0,.int .u8 0,.int .u8 0,.int .u8 0,.int .u8 0] 27)) w.heap.size #[.string ⟨#[]⟩,.int .i64 0,.string ⟨#[]⟩,.int .u8 0,.int .u8 0,.int .u8 0,.int .u8 0,.int .u8 0,.int .u8 0,.int .u8 0,.int .u8 0,.int .u8 0,.int .u8 0,.int .u8 0,.int .u8 0,.int .u8 0,.int .u8 0,.int .u8 0,.int .u8 0] 27):=Lies.new w _ _
 have hb0:w.heap.size≠b:=by omega
 have HT1:Hid (Tb (w.alloc (.cells #[.string ⟨#[]⟩,.int .i64 0,.string ⟨#[]⟩,.int .u8 0,.int .u8 0,.int .u8 0,.int .u8 0,.int .u8 0,.int .u8 0,.int .u8 0,.int .u8 0,.int .u8 0,.int .u8 0,.int .u8 0,.int .u8 0,.int .u8 0,.int .u8 0,.int .u8 0,.int .u8 0] 27))):=hT.but HW1.out h10
 have HLO:Hid (Calls Tryz.prog 68 #[.pointer (some ⟨b,0,none⟩)] (w.alloc (.cells #[.string ⟨#[]⟩,.int .i64 0,.string ⟨#[]⟩,.int .u8 0,.int .u8 0,.int .u8 0,.int .u8 0,.int .u8 0,.int .u8 0,.int .u8 0,.int .u8 0,.int .u8 0,.int .u8 0,.int .u8 0,.int .u8 0,.int .u8 0,.int .u8 0,.int .u8 0,.int .u8 0] 27)) (Come b s wide (w.alloc (.cells #[.string ⟨#[]⟩,.int .i64 0,.string ⟨#[]⟩,.int .u8 0,.int .u8 0,.int .u8 0,.int .u8 0,.int .u8 0,.int .u8 0,.int .u8 0,.int .u8 0,.int .u8 0,.int .u8 0,.int .u8 0,.int .u8 0,.int .u8 0,.int .u8 0,.int .u8 0,.int .u8 0] 27)) (strV (shE a (lcl wide (s.data.toList.drop a)))))):=local_any b h10 s a ha hs wide _ HT1.out (h.below ((Below.refl _ w).alloc (Nat.le_refl _) _))
 clear h hT
 cases hl:lcl wide (s.data.toList.drop a) with
 |error x=>
  obtain⟨er,p⟩:=x
  rw[hl]at HLO
  dsimp only[shE,bxW]
  go_enter Tryz.func41,Tryz.ntmps41
  go_wp2_with fail
  refine HLO.out.mono ?_
  rintro e w2 ⟨h1,rfl,a',h2⟩
  exact⟨rfl,HW1.out.trans h1,rfl,a',h2⟩
 |ok x=>
  obtain⟨l,n⟩:=x
  rw[hl]at HLO
  have hn:=(lcl_is hl).1
  rw[List.length_drop,len_list]at hn
  dsimp only[shE]
  obtain⟨E,hE⟩:∃E,E=a+n:=⟨_,rfl⟩
  rw[←hE]
  have hEs:E≤s.size:=by omega
  obtain⟨M,hM⟩:∃M,M=txt l:=⟨_,rfl⟩
  have HL2:Hid (Calls Tryz.prog 68 #[.pointer (some ⟨b,0,none⟩)] (w.alloc (.cells #[.string ⟨#[]⟩,.int .i64 0,.string ⟨#[]⟩,.int .u8 0,.int .u8 0,.int .u8 0,.int .u8 0,.int .u8 0,.int .u8 0,.int .u8 0,.int .u8 0,.int .u8 0,.int .u8 0,.int .u8 0,.int .u8 0,.int .u8 0,.int .u8 0,.int .u8 0,.int .u8 0] 27)) fun e w'=>e=.returned (.string M)∧But b (w.alloc (.cells #[.string ⟨#[]⟩,.int .i64 0,.string ⟨#[]⟩,.int .u8 0,.int .u8 0,.int .u8 0,.int .u8 0,.int .u8 0,.int .u8 0,.int .u8 0,.int .u8 0,.int .u8 0,.int .u8 0,.int .u8 0,.int .u8 0,.int .u8 0,.int .u8 0,.int .u8 0,.int .u8 0] 27)) w'∧RdAt w' b s E wide 0 0):=HLO.out.mono (fun e w' q=>by
   obtain⟨h1,h2,h3⟩:=q
   rw[hE,hM]
   exact⟨h2,h1,h3⟩)
  have HMM:Hid (M=txt l):=hM
  clear HLO hl hn hE hM
  obtain⟨x,hx⟩:∃x,x=nxB s E 64:=⟨_,rfl⟩
  have hlt:x=true→E<s.size:=fun hh=>by
   rcases Nat.lt_or_ge E s.size with hl|hl
   ·exact hl
   ·rw[hx,nx_past s E 64 hl]at hh
    cases hh
  rw[←hx]
  obtain⟨Y,hY⟩:∃Y,Y=bxW (if x=true then (match shE (E+1) (hst wide (s.data.toList.drop (E+1))) with
   | .error e=>.error e
   | .ok (h,k)=>.ok ((l,h),k)) else .error (93,E)):=⟨_,rfl⟩
  have HY:Hid (Y=bxW (if x=true then (match shE (E+1) (hst wide (s.data.toList.drop (E+1))) with
   | .error e=>.error e
   | .ok (h,k)=>.ok ((l,h),k)) else .error (93,E))):=hY
  refine(show Calls Tryz.prog 41 #[.pointer (some ⟨b,0,none⟩)] w (Come b s wide w Y) from ?_).mono (fun e w' q=>by rw[hY]at q;exact q)
  clear hY
  go_enter Tryz.func41,Tryz.ntmps41
  go_upto_region 1 with fail
  generalize w.alloc (.cells #[.string ⟨#[]⟩,.int .i64 0,.string ⟨#[]⟩,.int .u8 0,.int .u8 0,.int .u8 0,.int .u8 0,.int .u8 0,.int .u8 0,.int .u8 0,.int .u8 0,.int .u8 0,.int .u8 0,.int .u8 0,.int .u8 0,.int .u8 0,.int .u8 0,.int .u8 0,.int .u8 0] 27)=w1 at HW1 HL1 HT1 HL2 ⊢
  go_wp2_with fail
  refine HL2.out.mono ?_
  rintro e w2 ⟨rfl,hb2,hr2⟩
  have HN:Hid (Calls Tryz.prog 63 #[.pointer (some ⟨b,0,none⟩),.int .u8 64] w2 (Come b s wide w2 (if nxB s E 64=true then .ok (.tuple #[],E+1) else .error (93,E)))):=need_any b s E hEs hs wide 64 w2 hr2
  have HW2:Hid (But b w w2):=HW1.out.trans hb2
  have HZ2:Hid (Lies w2 w.heap.size #[.string ⟨#[]⟩,.int .i64 0,.string ⟨#[]⟩,.int .u8 0,.int .u8 0,.int .u8 0,.int .u8 0,.int .u8 0,.int .u8 0,.int .u8 0,.int .u8 0,.int .u8 0,.int .u8 0,.int .u8 0,.int .u8 0,.int .u8 0,.int .u8 0,.int .u8 0,.int .u8 0] 27):=hb2.lies HL1.out hb0
  have HT2:Hid (Tb w2):=HT1.out.but hb2 h10
  clear hb2 hr2 HL2 HW1 HL1 HT1
  rw[←hx]at HN
  clear hx
  cases x
  ·rw[if_neg (by decide)]at HN
   have hy:=HY.out
   rw[if_neg (by decide)]at hy
   subst hy
   clear HY
   go_wp2_with fail
   refine HN.out.mono ?_
   rintro e w3 ⟨h1,rfl,a',h2⟩
   exact⟨rfl,HW2.out.trans h1,rfl,a',h2⟩
  ·rw[if_pos rfl]at HN
   have hE1:=hlt rfl
   have hy:=HY.out
   rw[if_pos rfl]at hy
   have HY2:Hid (Y=bxW (match shE (E+1) (hst wide (s.data.toList.drop (E+1))) with
    | .error e=>.error e
    | .ok (h,k)=>.ok ((l,h),k))):=hy
   clear HY hy
   go_wp2_with fail
   refine HN.out.mono ?_
   rintro e w3 ⟨hb3,rfl,hr3⟩
   have HHO:Hid (Calls Tryz.prog 69 #[.pointer (some ⟨b,0,none⟩)] w3 (Come b s wide w3 (hoV (shE (E+1) (hst wide (s.data.toList.drop (E+1))))))):=host_any b h10 s (E+1) hE1 hs wide w3 (HT2.out.but hb3 h10) hr3
   have HW3:Hid (But b w w3):=HW2.out.trans hb3
   have HZ3:Hid (Lies w3 w.heap.size #[.string ⟨#[]⟩,.int .i64 0,.string ⟨#[]⟩,.int .u8 0,.int .u8 0,.int .u8 0,.int .u8 0,.int .u8 0,.int .u8 0,.int .u8 0,.int .u8 0,.int .u8 0,.int .u8 0,.int .u8 0,.int .u8 0,.int .u8 0,.int .u8 0,.int .u8 0,.int .u8 0] 27):=hb3.lies HZ2.out hb0
   clear hb3 hr3 HN HW2 HZ2 HT2 hlt
   have hy:=HY2.out
   clear HY2
   cases hh:hst wide (s.data.toList.drop (E+1)) with
   |error y=>
    obtain⟨er,p⟩:=y
    rw[hh]at HHO hy
    dsimp only[shE,bxW]at hy
    subst hy
    clear hh
    go_wp2_with fail
    refine HHO.out.mono ?_
    rintro e w4 ⟨h1,rfl,a',h2⟩
    exact⟨rfl,HW3.out.trans h1,rfl,a',h2⟩
   |ok y=>
    obtain⟨ho,k⟩:=y
    rw[hh]at HHO hy
    have hal:=hst_len hh
    dsimp only[shE,bxW]at hy
    obtain⟨V,hV⟩:∃V,V=hostC ho:=⟨_,rfl⟩
    have HVZ:Hid (V.size=18):=by show _=_;rw[hV];exact hostC_size _ hal
    have HVO:Hid (V.all (·.oneCell')=true):=by show _=_;rw[hV];exact hostC_one _
    have HBX:Hid (boxC l ho=#[.string M]++V):=by show _=_;rw[hV,HMM.out];rfl
    have HHO2:Hid (Calls Tryz.prog 69 #[.pointer (some ⟨b,0,none⟩)] w3 fun e w'=>e=.returned (.agg V)∧But b w3 w'∧RdAt w' b s (E+1+k) wide 0 0):=HHO.out.mono (fun e w' q=>by
     obtain⟨h1,h2,h3⟩:=q
     rw[hV]
     exact⟨h2,h1,h3⟩)
    have hbb:=build_box M V HVZ.out
    clear HHO hh hal hV HMM
    obtain⟨U,hU⟩:∃U,U=#[.string M]++V:=⟨_,rfl⟩
    rw[←hU]at HBX hbb
    have HUZ:Hid (U.size=19):=by show _=_;rw[hU,Array.size_append,HVZ.out];rfl
    have HUO:Hid (U.all (·.oneCell')=true):=by show _=_;rw[hU,Array.all_append,HVO.out];simp[Value.oneCell']
    have hVz:V.size=18:=HVZ.out
    rw[HBX.out]at hy
    subst hy
    clear hU HBX
    go_wp2_with fail
    refine HHO2.out.mono ?_
    rintro e w4 ⟨rfl,hb4,hr4⟩
    have HW4:Hid (But b w w4):=HW3.out.trans hb4
    have HZ4:Hid (Lies w4 w.heap.size #[.string ⟨#[]⟩,.int .i64 0,.string ⟨#[]⟩,.int .u8 0,.int .u8 0,.int .u8 0,.int .u8 0,.int .u8 0,.int .u8 0,.int .u8 0,.int .u8 0,.int .u8 0,.int .u8 0,.int .u8 0,.int .u8 0,.int .u8 0,.int .u8 0,.int .u8 0,.int .u8 0] 27):=hb4.lies HZ3.out hb0
    have HR4:Hid (RdAt w4 b s (E+1+k) wide 0 0):=hr4
    clear hb4 hr4 HW3 HZ3 HHO2
    go_wp2_with (refine wpList_store_row rfl 27 _ _ rfl w.heap.size rfl #[.string ⟨#[]⟩,.int .i64 0,.string ⟨#[]⟩,.int .u8 0,.int .u8 0,.int .u8 0,.int .u8 0,.int .u8 0,.int .u8 0,.int .u8 0,.int .u8 0,.int .u8 0,.int .u8 0,.int .u8 0,.int .u8 0,.int .u8 0,.int .u8 0,.int .u8 0,.int .u8 0] U rfl 27 HZ4.out (by rw[HUZ.out];exact infoBx) (by rw[HUZ.out];rfl) HUO.out rfl ?_)
    refine bodyPost_ret (results_row (p:=2) (by kernel_rfl) _ _ w.heap.size 27 U (0,0) _ rfl (HZ4.out.row U) Tryz.underlying27 rfl (by rw[HUZ.out];exact infoBx)) rfl ?_
    exact⟨HW4.out.newRow (Nat.le_refl _) U,rfl,⟨HR4.out.lies.row_other (Ne.symm hb0) U⟩⟩
open Go.RowKit
def nmR (a:Nat):Except (Nat×Nat) (Ho×Nat)→Except (Nat×Nat) (Ho×Nat)
 | .error e=>.error e
 | .ok (h,n)=>if h.k=1 then .ok (h,n) else .error (92,a)
set_option maxHeartbeats 16000000 in
set_option maxRecDepth 100000 in
theorem name_any (b:Nat) (h10:10≤b) (s:ByteArray) (a:Nat) (ha:a≤s.size) (hs:s.size≤140737488355328) (wide:Bool) (w:World) (hT:Tb w) (h:RdAt w b s a wide 0 0):
  Calls Tryz.prog 87 #[.pointer (some ⟨b,0,none⟩)] w (Come b s wide w (hoV (nmR a (shE a (hst wide (s.data.toList.drop a)))))):=by
 have hbw:=h.lt
 have HW1:Hid (But b w (w.alloc (.cells #[.int .i64 0,.string ⟨#[]⟩,.int .u8 0,.int .u8 0,.int .u8 0,.int .u8 0,.int .u8 0,.int .u8 0,.int .u8 0,.int .u8 0,.int .u8 0,.int .u8 0,.int .u8 0,.int .u8 0,.int .u8 0,.int .u8 0,.int .u8 0,.int .u8 0] 25))):=But.of_below ((Below.refl _ w).alloc (Nat.le_refl _) _)
 have HL1:Hid (Lies (w.alloc (.cells #[.int .i64 0,.string ⟨#[]⟩,.int .u8 0,.int .u8 0,.int .u8 0,.int .u8 0,.int .u8 0,.int .u8 0,.int .u8 0,.int .u8 0,.int .u8 0,.int .u8 0,.int .u8 0,.int .u8 0,.int .u8 0,.int .u8 0,.int .u8 0,.int .u8 0] 25)) w.heap.size #[.int .i64 0,.string ⟨#[]⟩,.int .u8 0,.int .u8 0,.int .u8 0,.int .u8 0,.int .u8 0,.int .u8 0,.int .u8 0,.int .u8 0,.int .u8 0,.int .u8 0,.int .u8 0,.int .u8 0,.int .u8 0,.int .u8 0,.int .u8 0,.int .u8 0] 25):=Lies.new w _ _
 have hb0:w.heap.size≠b:=by omega
 have h1:RdAt (w.alloc (.cells #[.int .i64 0,.string ⟨#[]⟩,.int .u8 0,.int .u8 0,.int .u8 0,.int .u8 0,.int .u8 0,.int .u8 0,.int .u8 0,.int .u8 0,.int .u8 0,.int .u8 0,.int .u8 0,.int .u8 0,.int .u8 0,.int .u8 0,.int .u8 0,.int .u8 0] 25)) b s a wide 0 0:=h.below ((Below.refl _ w).alloc (Nat.le_refl _) _)
 have HHO:Hid (Calls Tryz.prog 69 #[.pointer (some ⟨b,0,none⟩)] (w.alloc (.cells #[.int .i64 0,.string ⟨#[]⟩,.int .u8 0,.int .u8 0,.int .u8 0,.int .u8 0,.int .u8 0,.int .u8 0,.int .u8 0,.int .u8 0,.int .u8 0,.int .u8 0,.int .u8 0,.int .u8 0,.int .u8 0,.int .u8 0,.int .u8 0,.int .u8 0] 25)) (Come b s wide (w.alloc (.cells #[.int .i64 0,.string ⟨#[]⟩,.int .u8 0,.int .u8 0,.int .u8 0,.int .u8 0,.int .u8 0,.int .u8 0,.int .u8 0,.int .u8 0,.int .u8 0,.int .u8 0,.int .u8 0,.int .u8 0,.int .u8 0,.int .u8 0,.int .u8 0,.int .u8 0] 25)) (hoV (shE a (hst wide (s.data.toList.drop a)))))):=host_any b h10 s a ha hs wide _ (hT.but HW1.out h10) h1
 have HC1:Hid ((w.alloc (.cells #[.int .i64 0,.string ⟨#[]⟩,.int .u8 0,.int .u8 0,.int .u8 0,.int .u8 0,.int .u8 0,.int .u8 0,.int .u8 0,.int .u8 0,.int .u8 0,.int .u8 0,.int .u8 0,.int .u8 0,.int .u8 0,.int .u8 0,.int .u8 0,.int .u8 0] 25)).cell? ⟨b,1,none⟩=some (.int .i64 (a:Int))):=h1.cells.2.1
 clear h hT h1
 cases hh:hst wide (s.data.toList.drop a) with
 |error y=>
  obtain⟨er,p⟩:=y
  rw[hh]at HHO
  dsimp only[shE,nmR,hoV]
  clear hh
  go_enter Tryz.func87,Tryz.ntmps87
  go_upto_region 1 with fail
  generalize w.alloc (.cells #[.int .i64 0,.string ⟨#[]⟩,.int .u8 0,.int .u8 0,.int .u8 0,.int .u8 0,.int .u8 0,.int .u8 0,.int .u8 0,.int .u8 0,.int .u8 0,.int .u8 0,.int .u8 0,.int .u8 0,.int .u8 0,.int .u8 0,.int .u8 0,.int .u8 0] 25)=w1 at HW1 HL1 HHO HC1 ⊢
  have c1:=HC1.out
  go_wp2_with fail
  refine HHO.out.mono ?_
  rintro e w4 ⟨q1,rfl,a',q2⟩
  exact⟨rfl,HW1.out.trans q1,rfl,a',q2⟩
 |ok y=>
  obtain⟨ho,k⟩:=y
  rw[hh]at HHO
  have hal:=hst_len hh
  dsimp only[shE,nmR]
  obtain⟨V,hV⟩:∃V,V=hostC ho:=⟨_,rfl⟩
  have HVZ:Hid (V.size=18):=by show _=_;rw[hV];exact hostC_size _ hal
  have HVO:Hid (V.all (·.oneCell')=true):=by show _=_;rw[hV];exact hostC_one _
  have HV0:Hid (V[0]?=some (.int .i64 ho.k)):=by show _=_;rw[hV];rfl
  have HVV:Hid (hostV ho=.agg V):=by show _=_;rw[hV];rfl
  have HHO2:Hid (Calls Tryz.prog 69 #[.pointer (some ⟨b,0,none⟩)] (w.alloc (.cells #[.int .i64 0,.string ⟨#[]⟩,.int .u8 0,.int .u8 0,.int .u8 0,.int .u8 0,.int .u8 0,.int .u8 0,.int .u8 0,.int .u8 0,.int .u8 0,.int .u8 0,.int .u8 0,.int .u8 0,.int .u8 0,.int .u8 0,.int .u8 0,.int .u8 0] 25)) fun e w'=>e=.returned (.agg V)∧But b (w.alloc (.cells #[.int .i64 0,.string ⟨#[]⟩,.int .u8 0,.int .u8 0,.int .u8 0,.int .u8 0,.int .u8 0,.int .u8 0,.int .u8 0,.int .u8 0,.int .u8 0,.int .u8 0,.int .u8 0,.int .u8 0,.int .u8 0,.int .u8 0,.int .u8 0,.int .u8 0] 25)) w'∧RdAt w' b s (a+k) wide 0 0):=HHO.out.mono (fun e w' q=>by
   obtain⟨q1,q2,q3⟩:=q
   rw[hV]
   exact⟨q2,q1,q3⟩)
  obtain⟨Y,hY⟩:∃Y,Y=hoV (if ho.k=1 then .ok (ho,a+k) else .error (92,a)):=⟨_,rfl⟩
  have HY:Hid (Y=hoV (if ho.k=1 then .ok (ho,a+k) else .error (92,a))):=hY
  refine(show Calls Tryz.prog 87 #[.pointer (some ⟨b,0,none⟩)] w (Come b s wide w Y) from ?_).mono (fun e w' q=>by rw[hY]at q;exact q)
  clear hY HHO hh hal hV
  go_enter Tryz.func87,Tryz.ntmps87
  go_upto_region 1 with fail
  generalize w.alloc (.cells #[.int .i64 0,.string ⟨#[]⟩,.int .u8 0,.int .u8 0,.int .u8 0,.int .u8 0,.int .u8 0,.int .u8 0,.int .u8 0,.int .u8 0,.int .u8 0,.int .u8 0,.int .u8 0,.int .u8 0,.int .u8 0,.int .u8 0,.int .u8 0,.int .u8 0] 25)=w1 at HW1 HL1 HHO2 HC1 ⊢
  have c1:=HC1.out
  go_wp2_with fail
  refine HHO2.out.mono ?_
  rintro e w2 ⟨rfl,hb2,hr2⟩
  have hw2:=hb2.size
  have hw1:=HL1.out.lt
  have hbw2:=hr2.lt
  have KB:Hid (Below w2.heap.size w2 ((w2.alloc (.cells #[.int .i64 0,.string ⟨#[]⟩,.int .u8 0,.int .u8 0,.int .u8 0,.int .u8 0,.int .u8 0,.int .u8 0,.int .u8 0,.int .u8 0,.int .u8 0,.int .u8 0,.int .u8 0,.int .u8 0,.int .u8 0,.int .u8 0,.int .u8 0,.int .u8 0] 25)).setRow w2.heap.size V)):=below_row ((Below.refl _ w2).alloc (Nat.le_refl _) _) (Nat.le_refl _) V
  have HZ:Hid (Lies (w2.alloc (.cells #[.int .i64 0,.string ⟨#[]⟩,.int .u8 0,.int .u8 0,.int .u8 0,.int .u8 0,.int .u8 0,.int .u8 0,.int .u8 0,.int .u8 0,.int .u8 0,.int .u8 0,.int .u8 0,.int .u8 0,.int .u8 0,.int .u8 0,.int .u8 0,.int .u8 0] 25)) w2.heap.size #[.int .i64 0,.string ⟨#[]⟩,.int .u8 0,.int .u8 0,.int .u8 0,.int .u8 0,.int .u8 0,.int .u8 0,.int .u8 0,.int .u8 0,.int .u8 0,.int .u8 0,.int .u8 0,.int .u8 0,.int .u8 0,.int .u8 0,.int .u8 0,.int .u8 0] 25):=Lies.new w2 _ _
  have HL4:Hid (Lies ((w2.alloc (.cells #[.int .i64 0,.string ⟨#[]⟩,.int .u8 0,.int .u8 0,.int .u8 0,.int .u8 0,.int .u8 0,.int .u8 0,.int .u8 0,.int .u8 0,.int .u8 0,.int .u8 0,.int .u8 0,.int .u8 0,.int .u8 0,.int .u8 0,.int .u8 0,.int .u8 0] 25)).setRow w2.heap.size V) w2.heap.size V 25):=HZ.out.row V
  have HL0:Hid (Lies ((w2.alloc (.cells #[.int .i64 0,.string ⟨#[]⟩,.int .u8 0,.int .u8 0,.int .u8 0,.int .u8 0,.int .u8 0,.int .u8 0,.int .u8 0,.int .u8 0,.int .u8 0,.int .u8 0,.int .u8 0,.int .u8 0,.int .u8 0,.int .u8 0,.int .u8 0,.int .u8 0] 25)).setRow w2.heap.size V) w.heap.size #[.int .i64 0,.string ⟨#[]⟩,.int .u8 0,.int .u8 0,.int .u8 0,.int .u8 0,.int .u8 0,.int .u8 0,.int .u8 0,.int .u8 0,.int .u8 0,.int .u8 0,.int .u8 0,.int .u8 0,.int .u8 0,.int .u8 0,.int .u8 0,.int .u8 0] 25):=(hb2.lies HL1.out hb0).below KB.out (Nat.lt_of_lt_of_le hw1 hw2)
  have HR:Hid (RdAt ((w2.alloc (.cells #[.int .i64 0,.string ⟨#[]⟩,.int .u8 0,.int .u8 0,.int .u8 0,.int .u8 0,.int .u8 0,.int .u8 0,.int .u8 0,.int .u8 0,.int .u8 0,.int .u8 0,.int .u8 0,.int .u8 0,.int .u8 0,.int .u8 0,.int .u8 0,.int .u8 0] 25)).setRow w2.heap.size V) b s (a+k) wide 0 0):=hr2.below KB.out
  have HB:Hid (But b w ((w2.alloc (.cells #[.int .i64 0,.string ⟨#[]⟩,.int .u8 0,.int .u8 0,.int .u8 0,.int .u8 0,.int .u8 0,.int .u8 0,.int .u8 0,.int .u8 0,.int .u8 0,.int .u8 0,.int .u8 0,.int .u8 0,.int .u8 0,.int .u8 0,.int .u8 0,.int .u8 0] 25)).setRow w2.heap.size V)):=(HW1.out.trans hb2).thenBelow KB.out
  clear hb2 hr2 HHO2 HW1 HL1 HC1 c1 KB
  go_upto_region 3 with(refine wpList_store_row rfl 25 _ _ rfl w2.heap.size rfl #[.int .i64 0,.string ⟨#[]⟩,.int .u8 0,.int .u8 0,.int .u8 0,.int .u8 0,.int .u8 0,.int .u8 0,.int .u8 0,.int .u8 0,.int .u8 0,.int .u8 0,.int .u8 0,.int .u8 0,.int .u8 0,.int .u8 0,.int .u8 0,.int .u8 0] V rfl 25 HZ.out (by rw[HVZ.out];exact infoHo) (by rw[HVZ.out];rfl) HVO.out rfl ?_)
  generalize (w2.alloc (.cells #[.int .i64 0,.string ⟨#[]⟩,.int .u8 0,.int .u8 0,.int .u8 0,.int .u8 0,.int .u8 0,.int .u8 0,.int .u8 0,.int .u8 0,.int .u8 0,.int .u8 0,.int .u8 0,.int .u8 0,.int .u8 0,.int .u8 0,.int .u8 0,.int .u8 0] 25)).setRow w2.heap.size V=w3 at HL4 HL0 HR HB ⊢
  generalize w2.heap.size=g at HL4 HZ hw2 hbw2 ⊢
  have e0:w3.cell? ⟨g,0,none⟩=some (.int .i64 ho.k):=(HL4.out.cell 0).trans HV0.out
  have hg0:w.heap.size≠g:=by omega
  clear HZ
  by_cases hk:ho.k=1
  ·have hy:=HY.out
   rw[if_pos hk,hoV,HVV.out]at hy
   subst hy
   have hkb:(ho.k != 1)=false:=by rw[bne_eq_false_iff_eq];exact hk
   clear HY hk
   go_upto_region 5 with fail
   go_wp2_with (first|(refine wpList_load_row rfl 25 _ rfl g rfl V 25 _ HL4.out Tryz.underlying25 rfl (by rw[HVZ.out];exact infoHo) ?_)|(refine wpList_store_row rfl 25 _ _ rfl w.heap.size rfl #[.int .i64 0,.string ⟨#[]⟩,.int .u8 0,.int .u8 0,.int .u8 0,.int .u8 0,.int .u8 0,.int .u8 0,.int .u8 0,.int .u8 0,.int .u8 0,.int .u8 0,.int .u8 0,.int .u8 0,.int .u8 0,.int .u8 0,.int .u8 0,.int .u8 0] V rfl 25 HL0.out (by rw[HVZ.out];exact infoHo) (by rw[HVZ.out];rfl) HVO.out rfl ?_))
   refine bodyPost_ret (results_row (p:=2) (by kernel_rfl) _ _ w.heap.size 25 V (0,0) _ rfl (HL0.out.row V) Tryz.underlying25 rfl (by rw[HVZ.out];exact infoHo)) rfl ?_
   exact⟨HB.out.newRow (Nat.le_refl _) V,rfl,⟨HR.out.lies.row_other (Ne.symm hb0) V⟩⟩
  ·have hy:=HY.out
   rw[if_neg hk,hoV]at hy
   subst hy
   have hkb:(ho.k != 1)=true:=by rw[bne_iff_ne];exact hk
   have HF:Hid (Calls Tryz.prog 42 #[.pointer (some ⟨b,0,none⟩),.int .i64 92,.int .i64 (a:Nat)] w3 fun e w'=>e=gaveUp 92∧RdAt w' b s (a+k) wide 92 a∧But b w3 w'):=fail_any b s (a+k) wide 92 a w3 HR.out
   clear HY hk
   go_wp2_with fail
   refine HF.out.mono ?_
   rintro e w4 ⟨rfl,q1,q2⟩
   exact⟨rfl,HB.out.trans q2,rfl,a+k,q1⟩
end Go.Proofs.YtfjpkfhbmldmfaaGreatDoor
