/-
  The program's host.
-/
import Derived.Test.YtfjpkfhbmldmfaaGreatDoorPtR
import Derived.Test.YtfjpkfhbmldmfaaGreatDoorDecm8
import Derived.Test.YtfjpkfhbmldmfaaGreatDoorDmW
namespace Go.Proofs.YtfjpkfhbmldmfaaGreatDoor
open Go.RowKit
theorem But.newRow {g k:Nat} {a b:World} (h:But g a b) (hk:a.heap.size≤k) (cs:Array Value):But g a (b.setRow k cs):=
 ⟨h.os,h.tape,h.output,by simp[World.setRow];exact h.size,fun j hj hne=>(setRow_other _ _ _ _ (by omega)).trans (h.block j hj hne)⟩
def hoV:Except (Nat×Nat) (Ho×Nat)→Except (Nat×Nat) (Value×Nat)
 | .ok (h,n)=>.ok (hostV h,n)
 | .error e=>.error e
theorem parse_len (s:List UInt8) (wide:Bool):(parse s wide).1.a.length=16:=by
 obtain⟨b1,b2⟩:=back_text s wide
 by_cases he:(parse s wide).2.1=0
 ·exact(b1 he).2.2.2.1.len
 ·rw[(b2 he).1]
  rfl
theorem parse_place (s:List UInt8) (wide:Bool):(parse s wide).2.2≤s.length:=by
 obtain⟨b1,b2⟩:=back_text s wide
 by_cases he:(parse s wide).2.1=0
 ·rw[(b1 he).1]
  exact Nat.zero_le _
 ·exact(b2 he).2
set_option maxHeartbeats 16000000 in
set_option maxRecDepth 100000 in
theorem host_any (b:Nat) (_h10:10≤b) (s:ByteArray) (a:Nat) (ha:a≤s.size) (hs:s.size≤140737488355328) (wide:Bool) (w:World) (hT:Tb w) (h:RdAt w b s a wide 0 0):
  Calls Tryz.prog 69 #[.pointer (some ⟨b,0,none⟩)] w (Come b s wide w (hoV (shE a (hst wide (s.data.toList.drop a))))):=by
 have hbw:=h.lt
 have HW1:Hid (Below w.heap.size w (w.alloc (.cells #[.int .i64 0,.string ⟨#[]⟩,.int .u8 0,.int .u8 0,.int .u8 0,.int .u8 0,.int .u8 0,.int .u8 0,.int .u8 0,.int .u8 0,.int .u8 0,.int .u8 0,.int .u8 0,.int .u8 0,.int .u8 0,.int .u8 0,.int .u8 0,.int .u8 0] 25))):=(Below.refl _ w).alloc (Nat.le_refl _) _
 have HL1:Hid (Lies (w.alloc (.cells #[.int .i64 0,.string ⟨#[]⟩,.int .u8 0,.int .u8 0,.int .u8 0,.int .u8 0,.int .u8 0,.int .u8 0,.int .u8 0,.int .u8 0,.int .u8 0,.int .u8 0,.int .u8 0,.int .u8 0,.int .u8 0,.int .u8 0,.int .u8 0,.int .u8 0] 25)) w.heap.size #[.int .i64 0,.string ⟨#[]⟩,.int .u8 0,.int .u8 0,.int .u8 0,.int .u8 0,.int .u8 0,.int .u8 0,.int .u8 0,.int .u8 0,.int .u8 0,.int .u8 0,.int .u8 0,.int .u8 0,.int .u8 0,.int .u8 0,.int .u8 0,.int .u8 0] 25):=Lies.new w _ _
 have HR1:Hid (RdAt (w.alloc (.cells #[.int .i64 0,.string ⟨#[]⟩,.int .u8 0,.int .u8 0,.int .u8 0,.int .u8 0,.int .u8 0,.int .u8 0,.int .u8 0,.int .u8 0,.int .u8 0,.int .u8 0,.int .u8 0,.int .u8 0,.int .u8 0,.int .u8 0,.int .u8 0,.int .u8 0] 25)) b s a wide 0 0):=h.below HW1.out
 have HT1:Hid (Tb (w.alloc (.cells #[.int .i64 0,.string ⟨#[]⟩,.int .u8 0,.int .u8 0,.int .u8 0,.int .u8 0,.int .u8 0,.int .u8 0,.int .u8 0,.int .u8 0,.int .u8 0,.int .u8 0,.int .u8 0,.int .u8 0,.int .u8 0,.int .u8 0,.int .u8 0,.int .u8 0] 25))):=hT.below HW1.out
 clear hT h
 have hnn:=hstN_le (s.data.toList.drop a)
 rw[List.length_drop,len_list]at hnn
 obtain⟨n,hn⟩:∃n,n=hstN (s.data.toList.drop a):=⟨_,rfl⟩
 rw[←hn]at hnn
 obtain⟨E,hE⟩:∃E,E=a+n:=⟨_,rfl⟩
 obtain⟨t0,ht0⟩:∃t0,t0=s.extract a s.size:=⟨_,rfl⟩
 obtain⟨t,ht⟩:∃t,t=s.extract a E:=⟨_,rfl⟩
 have ht0x:s.extract a s.size=t0:=ht0.symm
 have htx:s.extract a E=t:=ht.symm
 have htl:t.data.toList=(s.data.toList.drop a).take n:=by rw[ht,hE,ext_txt,txt_list]
 have htz:t.size≤140737488355328:=by rw[ht,ByteArray.size_extract];omega
 have ht0z:t0.size≤140737488355328:=by rw[ht0,ByteArray.size_extract];omega
 obtain⟨ho,hho⟩:∃ho,ho=(parse t.data.toList wide).1:=⟨_,rfl⟩
 obtain⟨er,her⟩:∃er,er=(parse t.data.toList wide).2.1:=⟨_,rfl⟩
 obtain⟨p,hp⟩:∃p,p=(parse t.data.toList wide).2.2:=⟨_,rfl⟩
 have hal:ho.a.length=16:=by rw[hho];exact parse_len _ _
 have hps:p≤140737488355328:=by rw[hp];exact Nat.le_trans (parse_place _ _) (by rw[len_list];exact htz)
 obtain⟨Y,hY⟩:∃Y,Y=hoV (shE a (hst wide (s.data.toList.drop a))):=⟨_,rfl⟩
 rw[←hY]
 have HY:Hid (Y=if er=0 then .ok (hostV ho,E) else .error (er,a+p)):=by
  show Y=_
  rw[hY]
  unfold hst
  rw[←hn,←htl,←her,←hho]
  by_cases h0:er=0
  ·rw[if_pos h0,if_pos h0,shE,hoV,hE]
  ·rw[if_neg h0,if_neg h0]
   have e:(parse t.data.toList wide).2=(er,p):=by rw[her,hp]
   rw[e,shE,hoV]
 obtain⟨V,hV⟩:∃V,V=hostC ho:=⟨_,rfl⟩
 have HVZ:Hid (V.size=18):=by show _=_;rw[hV];exact hostC_size _ hal
 have HVO:Hid (V.all (·.oneCell')=true):=by show _=_;rw[hV];exact hostC_one _
 have HVV:Hid (hostV ho=.agg V):=by show _=_;rw[hV];rfl
 have HHL:Hid (∀wx:World,Calls Tryz.prog 94 #[.string t0] wx fun e w'=>e=.returned (.int .i64 (n:Nat))∧Below wx.heap.size wx w'):=fun wx=>by
  have:=hl_any t0 ht0z wx
  rw[ht0,ext_drop,←hn,←ht0]at this
  exact this
 have hEn:(a:Int)+(n:Int)=(E:Int):=by omega
 have HEn:Hid (E=a+n):=hE
 have haE:(a:Int)≤(E:Int):=by omega
 have hEs:(E:Int)≤(s.size:Int):=by omega
 have ha':(a:Int)≤(s.size:Int):=by omega
 have hEs0:E≤s.size:=by omega
 have hE0:a≤E:=by omega
 have hwE2:IntKind.i64.wrap (E:Int)=(E:Int):=by rw[IntKind.wrap_i64];omega
 have hwE:IntKind.i64.wrap ((a:Int)+(n:Int))=(E:Int):=by rw[←hEn];exact wrap_add _ _ (by omega) (by omega) (by omega)
 have hwp:IntKind.i64.wrap ((a:Int)+(p:Int))=(a:Int)+(p:Int):=wrap_add _ _ (by omega) (by omega) (by omega)
 have HPP:Hid (∀wx:World,Tb wx→Calls Tryz.prog 95 #[.string t,.bool wide] wx fun e w'=>e=.returned (.tuple #[.agg V,.agg #[.int .i64 (er:Int),.int .i64 (p:Int)]])∧Below wx.heap.size wx w'):=fun wx hx=>by
  have:=parse_any t wide wx hx htz
  rw[←hho,HVV.out]at this
  have e:spotV (parse t.data.toList wide).2=#[.int .i64 (er:Int),.int .i64 (p:Int)]:=by rw[her,hp];rfl
  rw[e]at this
  exact this
 clear hn hE ht0 ht htl hho her hp hY hV hal
 go_enter Tryz.func69,Tryz.ntmps69
 go_upto_region 1 with fail
 generalize w.alloc (.cells #[.int .i64 0,.string ⟨#[]⟩,.int .u8 0,.int .u8 0,.int .u8 0,.int .u8 0,.int .u8 0,.int .u8 0,.int .u8 0,.int .u8 0,.int .u8 0,.int .u8 0,.int .u8 0,.int .u8 0,.int .u8 0,.int .u8 0,.int .u8 0,.int .u8 0] 25)=w1 at HW1 HL1 HR1 HT1 ⊢
 have HS1:Hid (∀wx,Below w1.heap.size w1 wx→Below w1.heap.size w1 wx∧wx.cell? ⟨b,0,none⟩=some (.string s)∧wx.cell? ⟨b,1,none⟩=some (.int .i64 (a:Int))∧wx.cell? ⟨b,2,none⟩=some (.bool wide)):=fun wx hx=>by
  obtain⟨c0,c1,c2,_,_⟩:=(HR1.out.below hx).cells
  exact⟨hx,c0,c1,c2⟩
 refine wp_region_late (fun wx=>Below w1.heap.size w1 wx∧wx.cell? ⟨b,0,none⟩=some (.string s)∧wx.cell? ⟨b,1,none⟩=some (.int .i64 (a:Int))∧wx.cell? ⟨b,2,none⟩=some (.bool wide)) 11 (by kernel_rfl) (HS1.out _ (Below.refl _ w1).drew) (fun hHeld=>?_)
 refine tk9 0 (some 6) _ ?_
 simp only[Act.put,pA,pB,pC]
 refine tk9 1 (some 7) _ ?_
 simp only[Act.put,pA,pB,pC]
 refine tk9 2 (some 8) _ ?_
 simp only[Act.put,pA,pB,pC]
 refine tk9 3 (some 9) _ ?_
 simp only[Act.put,pA,pB,pC]
 refine tk9 4 (some 10) _ ?_
 simp only[Act.put,pA,pB,pC]
 refine tk9 5 (some 11) _ ?_
 simp only[Act.put,pA,pB,pC]
 refine tk9 6 (some 12) _ ?_
 simp only[Act.put,pA,pB,pC]
 refine tk9 7 (some 13) _ ?_
 simp only[Act.put,pA,pB,pC]
 refine tk9 8 (some 14) (.string t0) ?_
 simp only[Act.put,pA,pB,pC]
 refine on9 9 ?_
 refine oper_call (some 15) 94 #[.string t0] (fun v w'=>v=.int .i64 (n:Int)∧Below w1.heap.size w1 w') rfl (by go_simp) ((HHL.out _).mono (fun e w' q=>⟨_,q.1,rfl,(Below.refl _ w1).drew.trans q.2⟩)) ?_
 rintro v W ⟨rfl,hW1⟩
 have hs1:=HS1.out W hW1
 refine⟨Or.inr hs1,?_⟩
 simp only[Act.put,pA,pB,pC]
 refine tk9 10 (some 3) (.int .i64 (n:Int)) ?_
 simp only[Act.put,pA,pB,pC]
 refine wpAnyE_done (by kernel_rfl) ?_ _
 clear hHeld hs1
 have HW2:Hid (Below w.heap.size w W):=HW1.out.trans (hW1.mono HW1.out.size)
 have HL2:Hid (Lies W w.heap.size #[.int .i64 0,.string ⟨#[]⟩,.int .u8 0,.int .u8 0,.int .u8 0,.int .u8 0,.int .u8 0,.int .u8 0,.int .u8 0,.int .u8 0,.int .u8 0,.int .u8 0,.int .u8 0,.int .u8 0,.int .u8 0,.int .u8 0,.int .u8 0,.int .u8 0] 25):=HL1.out.below hW1 HL1.out.lt
 have HR2:Hid (RdAt W b s a wide 0 0):=HR1.out.below hW1
 have HT2:Hid (Tb W):=HT1.out.below hW1
 have HS2:Hid (∀wx,Below W.heap.size W wx→Below W.heap.size W wx∧wx.cell? ⟨b,0,none⟩=some (.string s)∧wx.cell? ⟨b,1,none⟩=some (.int .i64 (a:Int))∧wx.cell? ⟨b,2,none⟩=some (.bool wide)):=fun wx hx=>by
  obtain⟨c0,c1,c2,_,_⟩:=(HR2.out.below hx).cells
  exact⟨hx,c0,c1,c2⟩
 have HPA:Hid (∀wx,Below W.heap.size W wx→Calls Tryz.prog 95 #[.string t,.bool wide] wx fun e w'=>e=.returned (.tuple #[.agg V,.agg #[.int .i64 (er:Int),.int .i64 (p:Int)]])∧Below wx.heap.size wx w'):=fun wx hx=>HPP.out wx (HT2.out.below hx)
 clear HS1 HHL hW1 HW1 HL1 HR1 HT1 HPP
 go_upto_region 2 with fail
 go_cut [4,5] (fun v4 v5 wx=>∃p4 p5:Nat,v4=.pointer (some ⟨p4,0,none⟩)∧v5=.pointer (some ⟨p5,0,none⟩)∧Hid (Lies wx p4 V 25)∧Hid (Lies wx p5 #[.int .i64 (er:Int),.int .i64 (p:Int)] 32)∧p4≠p5∧W.heap.size≤p4∧W.heap.size≤p5∧Hid (Below W.heap.size W wx))
 case first=>
  refine wp_region_late (fun wx=>Below W.heap.size W wx∧wx.cell? ⟨b,0,none⟩=some (.string s)∧wx.cell? ⟨b,1,none⟩=some (.int .i64 (a:Int))∧wx.cell? ⟨b,2,none⟩=some (.bool wide)) 27 (by kernel_rfl) (HS2.out _ (Below.refl _ W).drew) (fun hHeld=>?_)
  have k0:Below W.heap.size W W.drew:=(Below.refl _ W).drew
  have q0:W.heap.size≤W.drew.heap.size:=Nat.le_refl _
  generalize W.drew=W0 at hHeld k0 q0 ⊢
  refine tk9 0 (some 17) _ ?_
  simp only[Act.put,pA,pB,pC]
  refine tk9 1 (some 18) _ ?_
  simp only[Act.put,pA,pB,pC]
  refine tk9 2 (some 19) _ ?_
  simp only[Act.put,pA,pB,pC]
  refine tk9 3 (some 20) _ ?_
  simp only[Act.put,pA,pB,pC]
  refine tk9 4 (some 21) _ ?_
  simp only[Act.put,pA,pB,pC]
  refine tk9 5 (some 22) _ ?_
  simp only[Act.put,pA,pB,pC]
  refine tk9 6 (some 23) _ ?_
  simp only[Act.put,pA,pB,pC]
  refine tk9 7 (some 24) _ ?_
  simp only[Act.put,pA,pB,pC]
  refine tk9 8 (some 25) _ ?_
  simp only[Act.put,pA,pB,pC]
  refine tk9 9 (some 26) _ ?_
  simp only[Act.put,pA,pB,pC]
  refine tk9 10 (some 27) _ ?_
  simp only[Act.put,pA,pB,pC]
  refine tk9 11 (some 28) _ ?_
  simp only[Act.put,pA,pB,pC]
  refine tk9 12 (some 29) _ ?_
  simp only[Act.put,pA,pB,pC]
  refine tk9 13 (some 30) (.int .i64 (E:Int)) ?_
  simp only[Act.put,pA,pB,pC]
  refine tk9 14 (some 31) (.string t) ?_
  simp only[Act.put,pA,pB,pC]
  refine tk9 15 (some 32) _ ?_
  simp only[Act.put,pA,pB,pC]
  refine tk9 16 (some 33) _ ?_
  simp only[Act.put,pA,pB,pC]
  refine tk9 17 (some 34) _ ?_
  simp only[Act.put,pA,pB,pC]
  refine tk9 18 (some 35) _ ?_
  simp only[Act.put,pA,pB,pC]
  refine wpAnyE_three 19 23 24 (by kernel_rfl) rfl rfl rfl rfl rfl rfl ?_ ?_ ?_
  ·refine oper_call (some 36) 95 #[.string t,.bool wide] (fun v w'=>v=.tuple #[.agg V,.agg #[.int .i64 (er:Int),.int .i64 (p:Int)]]∧Below W0.heap.size W0 w') rfl (by go_simp) ((HPA.out _ k0).mono (fun e w' q=>⟨_,q.1,rfl,q.2⟩)) ?_
   rintro v y1 ⟨rfl,hy1⟩
   have k1:=k0.trans (hy1.mono k0.size)
   have hs1:=HS2.out _ k1
   refine⟨Or.inr hs1,?_⟩
   simp only[Act.put,pA,pB,pC]
   have z1:=hy1.size
   refine tk9 20 (some 16) (.tuple #[.agg V,.agg #[.int .i64 (er:Int),.int .i64 (p:Int)]]) ?_
   simp only[Act.put,pA,pB,pC]
   refine tk9 21 (some 37) (.agg V) ?_
   simp only[Act.put,pA,pB,pC]
   refine tk9 22 (some 38) (.agg #[.int .i64 (er:Int),.int .i64 (p:Int)]) ?_
   simp only[Act.put,pA,pB,pC]
   refine wpAnyE_two 23 24 (by kernel_rfl) rfl rfl rfl rfl ?_ ?_
   ·refine oper_valw (w':=y1.alloc (.cells #[.int .i64 0,.string ⟨#[]⟩,.int .u8 0,.int .u8 0,.int .u8 0,.int .u8 0,.int .u8 0,.int .u8 0,.int .u8 0,.int .u8 0,.int .u8 0,.int .u8 0,.int .u8 0,.int .u8 0,.int .u8 0,.int .u8 0,.int .u8 0,.int .u8 0] 25)) (some 4) (.pointer (some ⟨y1.heap.size,0,none⟩)) rfl (by go_simp) ?_
    have k2:=k1.alloc k1.size (.cells #[.int .i64 0,.string ⟨#[]⟩,.int .u8 0,.int .u8 0,.int .u8 0,.int .u8 0,.int .u8 0,.int .u8 0,.int .u8 0,.int .u8 0,.int .u8 0,.int .u8 0,.int .u8 0,.int .u8 0,.int .u8 0,.int .u8 0,.int .u8 0,.int .u8 0] 25)
    have hs2:=HS2.out _ k2
    refine⟨Or.inr hs2,?_⟩
    simp only[Act.put,pA,pB,pC]
    have ln2:=Lies.new y1 #[.int .i64 0,.string ⟨#[]⟩,.int .u8 0,.int .u8 0,.int .u8 0,.int .u8 0,.int .u8 0,.int .u8 0,.int .u8 0,.int .u8 0,.int .u8 0,.int .u8 0,.int .u8 0,.int .u8 0,.int .u8 0,.int .u8 0,.int .u8 0,.int .u8 0] 25
    have q2:=k1.size
    have ls2:=ln2.lt
    generalize y1.alloc (.cells #[.int .i64 0,.string ⟨#[]⟩,.int .u8 0,.int .u8 0,.int .u8 0,.int .u8 0,.int .u8 0,.int .u8 0,.int .u8 0,.int .u8 0,.int .u8 0,.int .u8 0,.int .u8 0,.int .u8 0,.int .u8 0,.int .u8 0,.int .u8 0,.int .u8 0] 25)=v2 at k2 hs2 ln2 ls2 ⊢
    refine on9 24 ?_
    refine oper_valw (w':=v2.alloc (.cells #[.int .i64 0,.int .i64 0] 32)) (some 5) (.pointer (some ⟨v2.heap.size,0,none⟩)) rfl (by go_simp) ?_
    have k3:=k2.alloc k2.size (.cells #[.int .i64 0,.int .i64 0] 32)
    have hs3:=HS2.out _ k3
    refine⟨Or.inr hs3,?_⟩
    simp only[Act.put,pA,pB,pC]
    have ln3:=Lies.new v2 #[.int .i64 0,.int .i64 0] 32
    have q3:=k2.size
    have l4_3:=ln2.alloc (.cells #[.int .i64 0,.int .i64 0] 32)
    have t4_3:=ln2.lt
    have ls3:=ln3.lt
    generalize v2.alloc (.cells #[.int .i64 0,.int .i64 0] 32)=v3 at k3 hs3 ln3 l4_3 ls3 ⊢
    refine on9 25 ?_
    refine oper_store_row 25 _ _ rfl (y1.heap.size) rfl #[.int .i64 0,.string ⟨#[]⟩,.int .u8 0,.int .u8 0,.int .u8 0,.int .u8 0,.int .u8 0,.int .u8 0,.int .u8 0,.int .u8 0,.int .u8 0,.int .u8 0,.int .u8 0,.int .u8 0,.int .u8 0,.int .u8 0,.int .u8 0,.int .u8 0] V rfl 25 l4_3 (by rw[HVZ.out];exact infoHo) (by rw[HVZ.out];rfl) HVO.out rfl ?_
    have hb25:=below_row k3 (show W.heap.size≤y1.heap.size by omega) V
    refine⟨Or.inr (HS2.out _ hb25),?_⟩
    refine on9 26 ?_
    refine oper_store_row 32 _ _ rfl (v2.heap.size) rfl #[.int .i64 0,.int .i64 0] #[.int .i64 (er:Int),.int .i64 (p:Int)] rfl 32 ((ln3).row_other (show v2.heap.size≠y1.heap.size by omega) _) infoSp rfl (by simp[Value.oneCell']) rfl ?_
    have hb26:=below_row hb25 (show W.heap.size≤v2.heap.size by omega) #[.int .i64 (er:Int),.int .i64 (p:Int)]
    refine⟨Or.inr (HS2.out _ hb26),?_⟩
    refine wpAnyE_done (by kernel_rfl) ?_ _
    go_wp2_with fail
    go_meet
    exact⟨y1.heap.size,v2.heap.size,rfl,rfl,((l4_3).row V).row_other (show y1.heap.size≠v2.heap.size by omega) _,((ln3).row_other (show v2.heap.size≠y1.heap.size by omega) _).row _,by omega,by omega,by omega,hb26⟩
   ·refine oper_valw (w':=y1.alloc (.cells #[.int .i64 0,.int .i64 0] 32)) (some 5) (.pointer (some ⟨y1.heap.size,0,none⟩)) rfl (by go_simp) ?_
    have k4:=k1.alloc k1.size (.cells #[.int .i64 0,.int .i64 0] 32)
    have hs4:=HS2.out _ k4
    refine⟨Or.inr hs4,?_⟩
    simp only[Act.put,pA,pB,pC]
    have ln4:=Lies.new y1 #[.int .i64 0,.int .i64 0] 32
    have q4:=k1.size
    have ls4:=ln4.lt
    generalize y1.alloc (.cells #[.int .i64 0,.int .i64 0] 32)=v4 at k4 hs4 ln4 ls4 ⊢
    refine on9 23 ?_
    refine oper_valw (w':=v4.alloc (.cells #[.int .i64 0,.string ⟨#[]⟩,.int .u8 0,.int .u8 0,.int .u8 0,.int .u8 0,.int .u8 0,.int .u8 0,.int .u8 0,.int .u8 0,.int .u8 0,.int .u8 0,.int .u8 0,.int .u8 0,.int .u8 0,.int .u8 0,.int .u8 0,.int .u8 0] 25)) (some 4) (.pointer (some ⟨v4.heap.size,0,none⟩)) rfl (by go_simp) ?_
    have k5:=k4.alloc k4.size (.cells #[.int .i64 0,.string ⟨#[]⟩,.int .u8 0,.int .u8 0,.int .u8 0,.int .u8 0,.int .u8 0,.int .u8 0,.int .u8 0,.int .u8 0,.int .u8 0,.int .u8 0,.int .u8 0,.int .u8 0,.int .u8 0,.int .u8 0,.int .u8 0,.int .u8 0] 25)
    have hs5:=HS2.out _ k5
    refine⟨Or.inr hs5,?_⟩
    simp only[Act.put,pA,pB,pC]
    have ln5:=Lies.new v4 #[.int .i64 0,.string ⟨#[]⟩,.int .u8 0,.int .u8 0,.int .u8 0,.int .u8 0,.int .u8 0,.int .u8 0,.int .u8 0,.int .u8 0,.int .u8 0,.int .u8 0,.int .u8 0,.int .u8 0,.int .u8 0,.int .u8 0,.int .u8 0,.int .u8 0] 25
    have q5:=k4.size
    have l5_5:=ln4.alloc (.cells #[.int .i64 0,.string ⟨#[]⟩,.int .u8 0,.int .u8 0,.int .u8 0,.int .u8 0,.int .u8 0,.int .u8 0,.int .u8 0,.int .u8 0,.int .u8 0,.int .u8 0,.int .u8 0,.int .u8 0,.int .u8 0,.int .u8 0,.int .u8 0,.int .u8 0] 25)
    have t5_5:=ln4.lt
    have ls5:=ln5.lt
    generalize v4.alloc (.cells #[.int .i64 0,.string ⟨#[]⟩,.int .u8 0,.int .u8 0,.int .u8 0,.int .u8 0,.int .u8 0,.int .u8 0,.int .u8 0,.int .u8 0,.int .u8 0,.int .u8 0,.int .u8 0,.int .u8 0,.int .u8 0,.int .u8 0,.int .u8 0,.int .u8 0] 25)=v5 at k5 hs5 ln5 l5_5 ls5 ⊢
    refine on9 25 ?_
    refine oper_store_row 25 _ _ rfl (v4.heap.size) rfl #[.int .i64 0,.string ⟨#[]⟩,.int .u8 0,.int .u8 0,.int .u8 0,.int .u8 0,.int .u8 0,.int .u8 0,.int .u8 0,.int .u8 0,.int .u8 0,.int .u8 0,.int .u8 0,.int .u8 0,.int .u8 0,.int .u8 0,.int .u8 0,.int .u8 0] V rfl 25 ln5 (by rw[HVZ.out];exact infoHo) (by rw[HVZ.out];rfl) HVO.out rfl ?_
    have hb25:=below_row k5 (show W.heap.size≤v4.heap.size by omega) V
    refine⟨Or.inr (HS2.out _ hb25),?_⟩
    refine on9 26 ?_
    refine oper_store_row 32 _ _ rfl (y1.heap.size) rfl #[.int .i64 0,.int .i64 0] #[.int .i64 (er:Int),.int .i64 (p:Int)] rfl 32 ((l5_5).row_other (show y1.heap.size≠v4.heap.size by omega) _) infoSp rfl (by simp[Value.oneCell']) rfl ?_
    have hb26:=below_row hb25 (show W.heap.size≤y1.heap.size by omega) #[.int .i64 (er:Int),.int .i64 (p:Int)]
    refine⟨Or.inr (HS2.out _ hb26),?_⟩
    refine wpAnyE_done (by kernel_rfl) ?_ _
    go_wp2_with fail
    go_meet
    exact⟨v4.heap.size,y1.heap.size,rfl,rfl,((ln5).row V).row_other (show v4.heap.size≠y1.heap.size by omega) _,((l5_5).row_other (show y1.heap.size≠v4.heap.size by omega) _).row _,by omega,by omega,by omega,hb26⟩
  ·refine oper_valw (w':=W0.alloc (.cells #[.int .i64 0,.string ⟨#[]⟩,.int .u8 0,.int .u8 0,.int .u8 0,.int .u8 0,.int .u8 0,.int .u8 0,.int .u8 0,.int .u8 0,.int .u8 0,.int .u8 0,.int .u8 0,.int .u8 0,.int .u8 0,.int .u8 0,.int .u8 0,.int .u8 0] 25)) (some 4) (.pointer (some ⟨W0.heap.size,0,none⟩)) rfl (by go_simp) ?_
   have k6:=k0.alloc k0.size (.cells #[.int .i64 0,.string ⟨#[]⟩,.int .u8 0,.int .u8 0,.int .u8 0,.int .u8 0,.int .u8 0,.int .u8 0,.int .u8 0,.int .u8 0,.int .u8 0,.int .u8 0,.int .u8 0,.int .u8 0,.int .u8 0,.int .u8 0,.int .u8 0,.int .u8 0] 25)
   have hs6:=HS2.out _ k6
   refine⟨Or.inr hs6,?_⟩
   simp only[Act.put,pA,pB,pC]
   have ln6:=Lies.new W0 #[.int .i64 0,.string ⟨#[]⟩,.int .u8 0,.int .u8 0,.int .u8 0,.int .u8 0,.int .u8 0,.int .u8 0,.int .u8 0,.int .u8 0,.int .u8 0,.int .u8 0,.int .u8 0,.int .u8 0,.int .u8 0,.int .u8 0,.int .u8 0,.int .u8 0] 25
   have q6:=k0.size
   have ls6:=ln6.lt
   generalize W0.alloc (.cells #[.int .i64 0,.string ⟨#[]⟩,.int .u8 0,.int .u8 0,.int .u8 0,.int .u8 0,.int .u8 0,.int .u8 0,.int .u8 0,.int .u8 0,.int .u8 0,.int .u8 0,.int .u8 0,.int .u8 0,.int .u8 0,.int .u8 0,.int .u8 0,.int .u8 0] 25)=v6 at k6 hs6 ln6 ls6 ⊢
   refine wpAnyE_two 19 24 (by kernel_rfl) rfl rfl rfl rfl ?_ ?_
   ·refine oper_call (some 36) 95 #[.string t,.bool wide] (fun v w'=>v=.tuple #[.agg V,.agg #[.int .i64 (er:Int),.int .i64 (p:Int)]]∧Below v6.heap.size v6 w') rfl (by go_simp) ((HPA.out _ k6).mono (fun e w' q=>⟨_,q.1,rfl,q.2⟩)) ?_
    rintro v y7 ⟨rfl,hy7⟩
    have k7:=k6.trans (hy7.mono k6.size)
    have hs7:=HS2.out _ k7
    refine⟨Or.inr hs7,?_⟩
    simp only[Act.put,pA,pB,pC]
    have z7:=hy7.size
    have l4_7:=ln6.below hy7 ln6.lt
    refine tk9 20 (some 16) (.tuple #[.agg V,.agg #[.int .i64 (er:Int),.int .i64 (p:Int)]]) ?_
    simp only[Act.put,pA,pB,pC]
    refine tk9 21 (some 37) (.agg V) ?_
    simp only[Act.put,pA,pB,pC]
    refine tk9 22 (some 38) (.agg #[.int .i64 (er:Int),.int .i64 (p:Int)]) ?_
    simp only[Act.put,pA,pB,pC]
    refine on9 24 ?_
    refine oper_valw (w':=y7.alloc (.cells #[.int .i64 0,.int .i64 0] 32)) (some 5) (.pointer (some ⟨y7.heap.size,0,none⟩)) rfl (by go_simp) ?_
    have k8:=k7.alloc k7.size (.cells #[.int .i64 0,.int .i64 0] 32)
    have hs8:=HS2.out _ k8
    refine⟨Or.inr hs8,?_⟩
    simp only[Act.put,pA,pB,pC]
    have ln8:=Lies.new y7 #[.int .i64 0,.int .i64 0] 32
    have q8:=k7.size
    have l4_8:=l4_7.alloc (.cells #[.int .i64 0,.int .i64 0] 32)
    have t4_8:=l4_7.lt
    have ls8:=ln8.lt
    generalize y7.alloc (.cells #[.int .i64 0,.int .i64 0] 32)=v8 at k8 hs8 ln8 l4_8 ls8 ⊢
    refine on9 25 ?_
    refine oper_store_row 25 _ _ rfl (W0.heap.size) rfl #[.int .i64 0,.string ⟨#[]⟩,.int .u8 0,.int .u8 0,.int .u8 0,.int .u8 0,.int .u8 0,.int .u8 0,.int .u8 0,.int .u8 0,.int .u8 0,.int .u8 0,.int .u8 0,.int .u8 0,.int .u8 0,.int .u8 0,.int .u8 0,.int .u8 0] V rfl 25 l4_8 (by rw[HVZ.out];exact infoHo) (by rw[HVZ.out];rfl) HVO.out rfl ?_
    have hb25:=below_row k8 (show W.heap.size≤W0.heap.size by omega) V
    refine⟨Or.inr (HS2.out _ hb25),?_⟩
    refine on9 26 ?_
    refine oper_store_row 32 _ _ rfl (y7.heap.size) rfl #[.int .i64 0,.int .i64 0] #[.int .i64 (er:Int),.int .i64 (p:Int)] rfl 32 ((ln8).row_other (show y7.heap.size≠W0.heap.size by omega) _) infoSp rfl (by simp[Value.oneCell']) rfl ?_
    have hb26:=below_row hb25 (show W.heap.size≤y7.heap.size by omega) #[.int .i64 (er:Int),.int .i64 (p:Int)]
    refine⟨Or.inr (HS2.out _ hb26),?_⟩
    refine wpAnyE_done (by kernel_rfl) ?_ _
    go_wp2_with fail
    go_meet
    exact⟨W0.heap.size,y7.heap.size,rfl,rfl,((l4_8).row V).row_other (show W0.heap.size≠y7.heap.size by omega) _,((ln8).row_other (show y7.heap.size≠W0.heap.size by omega) _).row _,by omega,by omega,by omega,hb26⟩
   ·refine oper_valw (w':=v6.alloc (.cells #[.int .i64 0,.int .i64 0] 32)) (some 5) (.pointer (some ⟨v6.heap.size,0,none⟩)) rfl (by go_simp) ?_
    have k9:=k6.alloc k6.size (.cells #[.int .i64 0,.int .i64 0] 32)
    have hs9:=HS2.out _ k9
    refine⟨Or.inr hs9,?_⟩
    simp only[Act.put,pA,pB,pC]
    have ln9:=Lies.new v6 #[.int .i64 0,.int .i64 0] 32
    have q9:=k6.size
    have l4_9:=ln6.alloc (.cells #[.int .i64 0,.int .i64 0] 32)
    have t4_9:=ln6.lt
    have ls9:=ln9.lt
    generalize v6.alloc (.cells #[.int .i64 0,.int .i64 0] 32)=v9 at k9 hs9 ln9 l4_9 ls9 ⊢
    refine on9 19 ?_
    refine oper_call (some 36) 95 #[.string t,.bool wide] (fun v w'=>v=.tuple #[.agg V,.agg #[.int .i64 (er:Int),.int .i64 (p:Int)]]∧Below v9.heap.size v9 w') rfl (by go_simp) ((HPA.out _ k9).mono (fun e w' q=>⟨_,q.1,rfl,q.2⟩)) ?_
    rintro v y10 ⟨rfl,hy10⟩
    have k10:=k9.trans (hy10.mono k9.size)
    have hs10:=HS2.out _ k10
    refine⟨Or.inr hs10,?_⟩
    simp only[Act.put,pA,pB,pC]
    have z10:=hy10.size
    have l4_10:=l4_9.below hy10 l4_9.lt
    have l5_10:=ln9.below hy10 ln9.lt
    refine tk9 20 (some 16) (.tuple #[.agg V,.agg #[.int .i64 (er:Int),.int .i64 (p:Int)]]) ?_
    simp only[Act.put,pA,pB,pC]
    refine tk9 21 (some 37) (.agg V) ?_
    simp only[Act.put,pA,pB,pC]
    refine tk9 22 (some 38) (.agg #[.int .i64 (er:Int),.int .i64 (p:Int)]) ?_
    simp only[Act.put,pA,pB,pC]
    refine on9 25 ?_
    refine oper_store_row 25 _ _ rfl (W0.heap.size) rfl #[.int .i64 0,.string ⟨#[]⟩,.int .u8 0,.int .u8 0,.int .u8 0,.int .u8 0,.int .u8 0,.int .u8 0,.int .u8 0,.int .u8 0,.int .u8 0,.int .u8 0,.int .u8 0,.int .u8 0,.int .u8 0,.int .u8 0,.int .u8 0,.int .u8 0] V rfl 25 l4_10 (by rw[HVZ.out];exact infoHo) (by rw[HVZ.out];rfl) HVO.out rfl ?_
    have hb25:=below_row k10 (show W.heap.size≤W0.heap.size by omega) V
    refine⟨Or.inr (HS2.out _ hb25),?_⟩
    refine on9 26 ?_
    refine oper_store_row 32 _ _ rfl (v6.heap.size) rfl #[.int .i64 0,.int .i64 0] #[.int .i64 (er:Int),.int .i64 (p:Int)] rfl 32 ((l5_10).row_other (show v6.heap.size≠W0.heap.size by omega) _) infoSp rfl (by simp[Value.oneCell']) rfl ?_
    have hb26:=below_row hb25 (show W.heap.size≤v6.heap.size by omega) #[.int .i64 (er:Int),.int .i64 (p:Int)]
    refine⟨Or.inr (HS2.out _ hb26),?_⟩
    refine wpAnyE_done (by kernel_rfl) ?_ _
    go_wp2_with fail
    go_meet
    exact⟨W0.heap.size,v6.heap.size,rfl,rfl,((l4_10).row V).row_other (show W0.heap.size≠v6.heap.size by omega) _,((l5_10).row_other (show v6.heap.size≠W0.heap.size by omega) _).row _,by omega,by omega,by omega,hb26⟩
  ·refine oper_valw (w':=W0.alloc (.cells #[.int .i64 0,.int .i64 0] 32)) (some 5) (.pointer (some ⟨W0.heap.size,0,none⟩)) rfl (by go_simp) ?_
   have k11:=k0.alloc k0.size (.cells #[.int .i64 0,.int .i64 0] 32)
   have hs11:=HS2.out _ k11
   refine⟨Or.inr hs11,?_⟩
   simp only[Act.put,pA,pB,pC]
   have ln11:=Lies.new W0 #[.int .i64 0,.int .i64 0] 32
   have q11:=k0.size
   have ls11:=ln11.lt
   generalize W0.alloc (.cells #[.int .i64 0,.int .i64 0] 32)=v11 at k11 hs11 ln11 ls11 ⊢
   refine wpAnyE_two 19 23 (by kernel_rfl) rfl rfl rfl rfl ?_ ?_
   ·refine oper_call (some 36) 95 #[.string t,.bool wide] (fun v w'=>v=.tuple #[.agg V,.agg #[.int .i64 (er:Int),.int .i64 (p:Int)]]∧Below v11.heap.size v11 w') rfl (by go_simp) ((HPA.out _ k11).mono (fun e w' q=>⟨_,q.1,rfl,q.2⟩)) ?_
    rintro v y12 ⟨rfl,hy12⟩
    have k12:=k11.trans (hy12.mono k11.size)
    have hs12:=HS2.out _ k12
    refine⟨Or.inr hs12,?_⟩
    simp only[Act.put,pA,pB,pC]
    have z12:=hy12.size
    have l5_12:=ln11.below hy12 ln11.lt
    refine tk9 20 (some 16) (.tuple #[.agg V,.agg #[.int .i64 (er:Int),.int .i64 (p:Int)]]) ?_
    simp only[Act.put,pA,pB,pC]
    refine tk9 21 (some 37) (.agg V) ?_
    simp only[Act.put,pA,pB,pC]
    refine tk9 22 (some 38) (.agg #[.int .i64 (er:Int),.int .i64 (p:Int)]) ?_
    simp only[Act.put,pA,pB,pC]
    refine on9 23 ?_
    refine oper_valw (w':=y12.alloc (.cells #[.int .i64 0,.string ⟨#[]⟩,.int .u8 0,.int .u8 0,.int .u8 0,.int .u8 0,.int .u8 0,.int .u8 0,.int .u8 0,.int .u8 0,.int .u8 0,.int .u8 0,.int .u8 0,.int .u8 0,.int .u8 0,.int .u8 0,.int .u8 0,.int .u8 0] 25)) (some 4) (.pointer (some ⟨y12.heap.size,0,none⟩)) rfl (by go_simp) ?_
    have k13:=k12.alloc k12.size (.cells #[.int .i64 0,.string ⟨#[]⟩,.int .u8 0,.int .u8 0,.int .u8 0,.int .u8 0,.int .u8 0,.int .u8 0,.int .u8 0,.int .u8 0,.int .u8 0,.int .u8 0,.int .u8 0,.int .u8 0,.int .u8 0,.int .u8 0,.int .u8 0,.int .u8 0] 25)
    have hs13:=HS2.out _ k13
    refine⟨Or.inr hs13,?_⟩
    simp only[Act.put,pA,pB,pC]
    have ln13:=Lies.new y12 #[.int .i64 0,.string ⟨#[]⟩,.int .u8 0,.int .u8 0,.int .u8 0,.int .u8 0,.int .u8 0,.int .u8 0,.int .u8 0,.int .u8 0,.int .u8 0,.int .u8 0,.int .u8 0,.int .u8 0,.int .u8 0,.int .u8 0,.int .u8 0,.int .u8 0] 25
    have q13:=k12.size
    have l5_13:=l5_12.alloc (.cells #[.int .i64 0,.string ⟨#[]⟩,.int .u8 0,.int .u8 0,.int .u8 0,.int .u8 0,.int .u8 0,.int .u8 0,.int .u8 0,.int .u8 0,.int .u8 0,.int .u8 0,.int .u8 0,.int .u8 0,.int .u8 0,.int .u8 0,.int .u8 0,.int .u8 0] 25)
    have t5_13:=l5_12.lt
    have ls13:=ln13.lt
    generalize y12.alloc (.cells #[.int .i64 0,.string ⟨#[]⟩,.int .u8 0,.int .u8 0,.int .u8 0,.int .u8 0,.int .u8 0,.int .u8 0,.int .u8 0,.int .u8 0,.int .u8 0,.int .u8 0,.int .u8 0,.int .u8 0,.int .u8 0,.int .u8 0,.int .u8 0,.int .u8 0] 25)=v13 at k13 hs13 ln13 l5_13 ls13 ⊢
    refine on9 25 ?_
    refine oper_store_row 25 _ _ rfl (y12.heap.size) rfl #[.int .i64 0,.string ⟨#[]⟩,.int .u8 0,.int .u8 0,.int .u8 0,.int .u8 0,.int .u8 0,.int .u8 0,.int .u8 0,.int .u8 0,.int .u8 0,.int .u8 0,.int .u8 0,.int .u8 0,.int .u8 0,.int .u8 0,.int .u8 0,.int .u8 0] V rfl 25 ln13 (by rw[HVZ.out];exact infoHo) (by rw[HVZ.out];rfl) HVO.out rfl ?_
    have hb25:=below_row k13 (show W.heap.size≤y12.heap.size by omega) V
    refine⟨Or.inr (HS2.out _ hb25),?_⟩
    refine on9 26 ?_
    refine oper_store_row 32 _ _ rfl (W0.heap.size) rfl #[.int .i64 0,.int .i64 0] #[.int .i64 (er:Int),.int .i64 (p:Int)] rfl 32 ((l5_13).row_other (show W0.heap.size≠y12.heap.size by omega) _) infoSp rfl (by simp[Value.oneCell']) rfl ?_
    have hb26:=below_row hb25 (show W.heap.size≤W0.heap.size by omega) #[.int .i64 (er:Int),.int .i64 (p:Int)]
    refine⟨Or.inr (HS2.out _ hb26),?_⟩
    refine wpAnyE_done (by kernel_rfl) ?_ _
    go_wp2_with fail
    go_meet
    exact⟨y12.heap.size,W0.heap.size,rfl,rfl,((ln13).row V).row_other (show y12.heap.size≠W0.heap.size by omega) _,((l5_13).row_other (show W0.heap.size≠y12.heap.size by omega) _).row _,by omega,by omega,by omega,hb26⟩
   ·refine oper_valw (w':=v11.alloc (.cells #[.int .i64 0,.string ⟨#[]⟩,.int .u8 0,.int .u8 0,.int .u8 0,.int .u8 0,.int .u8 0,.int .u8 0,.int .u8 0,.int .u8 0,.int .u8 0,.int .u8 0,.int .u8 0,.int .u8 0,.int .u8 0,.int .u8 0,.int .u8 0,.int .u8 0] 25)) (some 4) (.pointer (some ⟨v11.heap.size,0,none⟩)) rfl (by go_simp) ?_
    have k14:=k11.alloc k11.size (.cells #[.int .i64 0,.string ⟨#[]⟩,.int .u8 0,.int .u8 0,.int .u8 0,.int .u8 0,.int .u8 0,.int .u8 0,.int .u8 0,.int .u8 0,.int .u8 0,.int .u8 0,.int .u8 0,.int .u8 0,.int .u8 0,.int .u8 0,.int .u8 0,.int .u8 0] 25)
    have hs14:=HS2.out _ k14
    refine⟨Or.inr hs14,?_⟩
    simp only[Act.put,pA,pB,pC]
    have ln14:=Lies.new v11 #[.int .i64 0,.string ⟨#[]⟩,.int .u8 0,.int .u8 0,.int .u8 0,.int .u8 0,.int .u8 0,.int .u8 0,.int .u8 0,.int .u8 0,.int .u8 0,.int .u8 0,.int .u8 0,.int .u8 0,.int .u8 0,.int .u8 0,.int .u8 0,.int .u8 0] 25
    have q14:=k11.size
    have l5_14:=ln11.alloc (.cells #[.int .i64 0,.string ⟨#[]⟩,.int .u8 0,.int .u8 0,.int .u8 0,.int .u8 0,.int .u8 0,.int .u8 0,.int .u8 0,.int .u8 0,.int .u8 0,.int .u8 0,.int .u8 0,.int .u8 0,.int .u8 0,.int .u8 0,.int .u8 0,.int .u8 0] 25)
    have t5_14:=ln11.lt
    have ls14:=ln14.lt
    generalize v11.alloc (.cells #[.int .i64 0,.string ⟨#[]⟩,.int .u8 0,.int .u8 0,.int .u8 0,.int .u8 0,.int .u8 0,.int .u8 0,.int .u8 0,.int .u8 0,.int .u8 0,.int .u8 0,.int .u8 0,.int .u8 0,.int .u8 0,.int .u8 0,.int .u8 0,.int .u8 0] 25)=v14 at k14 hs14 ln14 l5_14 ls14 ⊢
    refine on9 19 ?_
    refine oper_call (some 36) 95 #[.string t,.bool wide] (fun v w'=>v=.tuple #[.agg V,.agg #[.int .i64 (er:Int),.int .i64 (p:Int)]]∧Below v14.heap.size v14 w') rfl (by go_simp) ((HPA.out _ k14).mono (fun e w' q=>⟨_,q.1,rfl,q.2⟩)) ?_
    rintro v y15 ⟨rfl,hy15⟩
    have k15:=k14.trans (hy15.mono k14.size)
    have hs15:=HS2.out _ k15
    refine⟨Or.inr hs15,?_⟩
    simp only[Act.put,pA,pB,pC]
    have z15:=hy15.size
    have l4_15:=ln14.below hy15 ln14.lt
    have l5_15:=l5_14.below hy15 l5_14.lt
    refine tk9 20 (some 16) (.tuple #[.agg V,.agg #[.int .i64 (er:Int),.int .i64 (p:Int)]]) ?_
    simp only[Act.put,pA,pB,pC]
    refine tk9 21 (some 37) (.agg V) ?_
    simp only[Act.put,pA,pB,pC]
    refine tk9 22 (some 38) (.agg #[.int .i64 (er:Int),.int .i64 (p:Int)]) ?_
    simp only[Act.put,pA,pB,pC]
    refine on9 25 ?_
    refine oper_store_row 25 _ _ rfl (v11.heap.size) rfl #[.int .i64 0,.string ⟨#[]⟩,.int .u8 0,.int .u8 0,.int .u8 0,.int .u8 0,.int .u8 0,.int .u8 0,.int .u8 0,.int .u8 0,.int .u8 0,.int .u8 0,.int .u8 0,.int .u8 0,.int .u8 0,.int .u8 0,.int .u8 0,.int .u8 0] V rfl 25 l4_15 (by rw[HVZ.out];exact infoHo) (by rw[HVZ.out];rfl) HVO.out rfl ?_
    have hb25:=below_row k15 (show W.heap.size≤v11.heap.size by omega) V
    refine⟨Or.inr (HS2.out _ hb25),?_⟩
    refine on9 26 ?_
    refine oper_store_row 32 _ _ rfl (W0.heap.size) rfl #[.int .i64 0,.int .i64 0] #[.int .i64 (er:Int),.int .i64 (p:Int)] rfl 32 ((l5_15).row_other (show W0.heap.size≠v11.heap.size by omega) _) infoSp rfl (by simp[Value.oneCell']) rfl ?_
    have hb26:=below_row hb25 (show W.heap.size≤W0.heap.size by omega) #[.int .i64 (er:Int),.int .i64 (p:Int)]
    refine⟨Or.inr (HS2.out _ hb26),?_⟩
    refine wpAnyE_done (by kernel_rfl) ?_ _
    go_wp2_with fail
    go_meet
    exact⟨v11.heap.size,W0.heap.size,rfl,rfl,((l4_15).row V).row_other (show v11.heap.size≠W0.heap.size by omega) _,((l5_15).row_other (show W0.heap.size≠v11.heap.size by omega) _).row _,by omega,by omega,by omega,hb26⟩
 case rest=>
  obtain⟨p4,p5,rfl,rfl,HL4,HL5,hne,h4,h5,HBc⟩:=hcut
  have HL0:Hid (Lies wc w.heap.size #[.int .i64 0,.string ⟨#[]⟩,.int .u8 0,.int .u8 0,.int .u8 0,.int .u8 0,.int .u8 0,.int .u8 0,.int .u8 0,.int .u8 0,.int .u8 0,.int .u8 0,.int .u8 0,.int .u8 0,.int .u8 0,.int .u8 0,.int .u8 0,.int .u8 0] 25):=HL2.out.below HBc.out HL2.out.lt
  have HRc:Hid (RdAt wc b s a wide 0 0):=HR2.out.below HBc.out
  have HWc:Hid (Below w.heap.size w wc):=HW2.out.trans (HBc.out.mono HW2.out.size)
  have hwW:=HW2.out.size
  have hw4:w.heap.size≠p4:=by have:=HL2.out.lt;omega
  have hw5:w.heap.size≠p5:=by have:=HL2.out.lt;omega
  have hb4:b≠p4:=by omega
  have hb5:b≠p5:=by omega
  have hb0:b≠w.heap.size:=by omega
  obtain⟨d0,d1,d2,_,_⟩:=HRc.out.cells
  have e0:wc.cell? ⟨p5,0,none⟩=some (.int .i64 (er:Int)):=HL5.out.cell 0
  have e1:wc.cell? ⟨p5,1,none⟩=some (.int .i64 (p:Int)):=HL5.out.cell 1
  clear HS2 HPA HR2 HT2 HL2 HBc HW2
  by_cases h0:er=0
  ·have hy:=HY.out
   rw[if_pos h0,HVV.out]at hy
   subst hy
   have he0:((er:Int) != 0)=false:=by rw[bne_eq_false_iff_eq];omega
   have f1:=HRc.out.lies.frozen 1
   have HG:Hid (RdAt (wc.setCell ⟨b,1,none⟩ (.int .i64 (E:Int))) b s E wide 0 0):=HRc.out.go E
   have HG4:Hid (Lies (wc.setCell ⟨b,1,none⟩ (.int .i64 (E:Int))) p4 V 25):=HL4.out.set_other (a:=⟨b,1,none⟩) (Ne.symm hb4) _
   have HG0:Hid (Lies (wc.setCell ⟨b,1,none⟩ (.int .i64 (E:Int))) w.heap.size #[.int .i64 0,.string ⟨#[]⟩,.int .u8 0,.int .u8 0,.int .u8 0,.int .u8 0,.int .u8 0,.int .u8 0,.int .u8 0,.int .u8 0,.int .u8 0,.int .u8 0,.int .u8 0,.int .u8 0,.int .u8 0,.int .u8 0,.int .u8 0,.int .u8 0] 25):=HL0.out.set_other (a:=⟨b,1,none⟩) (Ne.symm hb0) _
   have HGB:Hid (But b w (wc.setCell ⟨b,1,none⟩ (.int .i64 (E:Int)))):=(But.of_below HWc.out).set _ _
   clear HY h0 HRc HL0 HL4 HL5 HWc
   go_upto_region 6 with fail
   generalize wc.setCell ⟨b,1,none⟩ (.int .i64 (E:Int))=w3 at HG HG4 HG0 HGB ⊢
   go_wp2_with (first|(refine wpList_load_row rfl 25 _ rfl p4 rfl V 25 _ HG4.out Tryz.underlying25 rfl (by rw[HVZ.out];exact infoHo) ?_)|(refine wpList_store_row rfl 25 _ _ rfl w.heap.size rfl #[.int .i64 0,.string ⟨#[]⟩,.int .u8 0,.int .u8 0,.int .u8 0,.int .u8 0,.int .u8 0,.int .u8 0,.int .u8 0,.int .u8 0,.int .u8 0,.int .u8 0,.int .u8 0,.int .u8 0,.int .u8 0,.int .u8 0,.int .u8 0,.int .u8 0] V rfl 25 HG0.out (by rw[HVZ.out];exact infoHo) (by rw[HVZ.out];rfl) HVO.out rfl ?_))
   refine bodyPost_ret (results_row (p:=2) (by kernel_rfl) _ _ w.heap.size 25 V (0,0) _ rfl (HG0.out.row V) Tryz.underlying25 rfl (by rw[HVZ.out];exact infoHo)) rfl ?_
   exact⟨HGB.out.newRow (Nat.le_refl _) V,rfl,⟨HG.out.lies.row_other hb0 V⟩⟩
  ·have hy:=HY.out
   rw[if_neg h0]at hy
   subst hy
   have he0:((er:Int) != 0)=true:=by rw[bne_iff_ne];omega
   have HF:Hid (Calls Tryz.prog 42 #[.pointer (some ⟨b,0,none⟩),.int .i64 (er:Int),.int .i64 ((a:Int)+(p:Int))] wc.drew fun e w'=>e=gaveUp er∧RdAt w' b s a wide er (a+p)∧But b wc.drew w'):=fail_any b s a wide er (a+p) wc.drew HRc.out.drew
   have HWd:Hid (But b w wc.drew):=(But.of_below HWc.out).drew
   clear HY h0 HL4 HL0 HRc HWc HL5
   go_upto_region 4 with fail
   refine wp_region_late (fun wx=>wx.cell? ⟨b,1,none⟩=some (.int .i64 (a:Int))∧wx.cell? ⟨p5,0,none⟩=some (.int .i64 (er:Int))∧wx.cell? ⟨p5,1,none⟩=some (.int .i64 (p:Int))) 11 (by kernel_rfl) ⟨d1,e0,e1⟩ (fun hHeld=>?_)
   refine tk9 0 (some 42) _ ?_
   simp only[Act.put,pA,pB,pC]
   refine tk9 1 (some 43) _ ?_
   simp only[Act.put,pA,pB,pC]
   refine tk9 2 (some 44) _ ?_
   simp only[Act.put,pA,pB,pC]
   refine tk9 3 (some 45) _ ?_
   simp only[Act.put,pA,pB,pC]
   refine tk9 4 (some 46) _ ?_
   simp only[Act.put,pA,pB,pC]
   refine tk9 5 (some 47) _ ?_
   simp only[Act.put,pA,pB,pC]
   refine tk9 6 (some 48) _ ?_
   simp only[Act.put,pA,pB,pC]
   refine tk9 7 (some 49) _ ?_
   simp only[Act.put,pA,pB,pC]
   refine tk9 8 (some 50) _ ?_
   simp only[Act.put,pA,pB,pC]
   refine tk9 9 (some 51) (.int .i64 ((a:Int)+(p:Int))) ?_
   simp only[Act.put,pA,pB,pC]
   refine on9 10 ?_
   go_simp
   refine Calls.mono HF.out ?_
   rintro e w4 ⟨rfl,q1,q2⟩
   exact⟨rfl,HWd.out.trans q2,rfl,a,q1⟩
end Go.Proofs.YtfjpkfhbmldmfaaGreatDoor
