/-
  The document's host.
-/
import Derived.Test.YtfjpkfhbmldmfaaGreatDoorQd9
namespace Go.Proofs.YtfjpkfhbmldmfaaGreatDoor
open Go.RowKit
theorem results_cvc {P:Program} {fn:Func} {p q r:Tmp} {ty tz:TypeId} (h:fn.results=#[.cell p ty,.tmp q,.cell r tz]) (tmps:Array Value) (w:World) (g1 g2:Nat) (cs ds:Array Value) (d1 d2:TypeDesc) (v:Value) (hp:tmps.getD p undef=.pointer (some ⟨g1,0,none⟩)) (hq:tmps.getD q undef=v) (hr:tmps.getD r undef=.pointer (some ⟨g2,0,none⟩)) (hg1:Lies w g1 cs ty) (hg2:Lies w g2 ds tz)
  (hu1:P.underlying ty=some d1) (ha1:(match d1 with| .struct _| .array _ _=>true|_=>false)=true) (hz1:(P.info? ty).map (·.size)=some cs.size)
  (hu2:P.underlying tz=some d2) (ha2:(match d2 with| .struct _| .array _ _=>true|_=>false)=true) (hz2:(P.info? tz).map (·.size)=some ds.size):(results fn tmps).run P w=.ok (.tuple #[.agg cs,v,.agg ds]) w:=by
 have hp':tmps[p]?.getD undef=.pointer (some ⟨g1,0,none⟩):=by simpa using hp
 have hq':tmps[q]?.getD undef=v:=by simpa using hq
 have hr':tmps[r]?.getD undef=.pointer (some ⟨g2,0,none⟩):=by simpa using hr
 simp[results,h,hp',hq',hr',asAddr,run_loadVar_row w g1 ty ty cs (0,0) d1 hg1 hu1 ha1 hz1,run_loadVar_row w g2 tz tz ds (0,0) d2 hg2 hu2 ha2 hz2]
def RParseOk (w:World):Prop:=∀(t:ByteArray) (wide:Bool) (wx:World),Below w.heap.size w wx→Calls Tryz.prog 92 #[.string t,.bool wide] wx fun e w'=>e=.returned (.tuple #[hostV (parse t.data.toList wide).1,.agg (spotV (parse t.data.toList wide).2)])∧Below wx.heap.size wx w'
theorem RParseOk.later {w w':World} (h:RParseOk w) (hb:Below w.heap.size w w'):RParseOk w':=fun t wide wx hx=>h t wide wx (hb.trans (hx.mono hb.size))
def hsV (a:Nat):Except (Nat×Nat) (Ho×Nat)→Value
 | .ok (h,n)=>.tuple #[hostV h,.int .i64 (a+n:Nat),.agg #[.int .i64 0,.int .i64 0]]
 | .error (e,p)=>.tuple #[hostV ho0,.int .i64 0,.agg #[.int .i64 (e:Nat),.int .i64 (a+p:Nat)]]
theorem stop_has (c:UInt8):hasB [60,62,44,58,64,32] (c.toNat:Int)=stopB c:=
 of_fin (P:=fun c=>hasB [60,62,44,58,64,32] (c.toNat:Int)=stopB c) (by decide+kernel) c
set_option maxHeartbeats 16000000 in
set_option maxRecDepth 100000 in
theorem qhost_any (s:ByteArray) (a:Nat) (ha:a≤s.size) (hs:s.size≤140737488351232) (wide:Bool) (w:World) (hpa:RParseOk w):
  Calls Tryz.prog 67 #[.string s,.int .i64 (a:Nat),.bool wide] w fun e w'=>e=.returned (hsV a (hst wide (s.data.toList.drop a)))∧Below w.heap.size w w':=by
 have HPA:Hid (RParseOk w):=hpa
 obtain⟨X,hX⟩:∃X,X=hst wide (s.data.toList.drop a):=⟨_,rfl⟩
 rw[←hX]
 have HX:Hid (X=hst wide (s.data.toList.drop a)):=hX
 have L1:Hid (Lies ((w.alloc (.cells #[.int .i64 0,.string ⟨#[]⟩,.int .u8 0,.int .u8 0,.int .u8 0,.int .u8 0,.int .u8 0,.int .u8 0,.int .u8 0,.int .u8 0,.int .u8 0,.int .u8 0,.int .u8 0,.int .u8 0,.int .u8 0,.int .u8 0,.int .u8 0,.int .u8 0] 25)).alloc (.cells #[.int .i64 0,.int .i64 0] 32)) w.heap.size #[.int .i64 0,.string ⟨#[]⟩,.int .u8 0,.int .u8 0,.int .u8 0,.int .u8 0,.int .u8 0,.int .u8 0,.int .u8 0,.int .u8 0,.int .u8 0,.int .u8 0,.int .u8 0,.int .u8 0,.int .u8 0,.int .u8 0,.int .u8 0,.int .u8 0] 25):=(Lies.new w _ _).alloc _
 have L2:Hid (Lies ((w.alloc (.cells #[.int .i64 0,.string ⟨#[]⟩,.int .u8 0,.int .u8 0,.int .u8 0,.int .u8 0,.int .u8 0,.int .u8 0,.int .u8 0,.int .u8 0,.int .u8 0,.int .u8 0,.int .u8 0,.int .u8 0,.int .u8 0,.int .u8 0,.int .u8 0,.int .u8 0] 25)).alloc (.cells #[.int .i64 0,.int .i64 0] 32)) (w.heap.size+1) #[.int .i64 0,.int .i64 0] 32):=new_one w _ _ _
 have KB:Hid (Below w.heap.size w ((w.alloc (.cells #[.int .i64 0,.string ⟨#[]⟩,.int .u8 0,.int .u8 0,.int .u8 0,.int .u8 0,.int .u8 0,.int .u8 0,.int .u8 0,.int .u8 0,.int .u8 0,.int .u8 0,.int .u8 0,.int .u8 0,.int .u8 0,.int .u8 0,.int .u8 0,.int .u8 0] 25)).alloc (.cells #[.int .i64 0,.int .i64 0] 32))):=((Below.refl _ _).alloc (Nat.le_refl _) _).alloc (by simp) _
 clear hX hpa
 go_enter Tryz.func67,Tryz.ntmps67
 go_upto_region 1 with fail
 generalize (w.alloc (.cells #[.int .i64 0,.string ⟨#[]⟩,.int .u8 0,.int .u8 0,.int .u8 0,.int .u8 0,.int .u8 0,.int .u8 0,.int .u8 0,.int .u8 0,.int .u8 0,.int .u8 0,.int .u8 0,.int .u8 0,.int .u8 0,.int .u8 0,.int .u8 0,.int .u8 0] 25)).alloc (.cells #[.int .i64 0,.int .i64 0] 32)=wA at L1 L2 KB ⊢
 by_cases h91:∃h:a<s.size,s[a]=91
 ·obtain⟨hlt,hc⟩:=h91
  have hlt':(a:Int)<(s.size:Int):=by omega
  obtain⟨e91,_⟩:=b_eq s[a] 91 91 rfl
  rw[decide_eq_true hc]at e91
  have HH:Hid ((s.data.toList.drop a).head?=some 91):=by show _=_;rw[drop_at s a hlt,List.head?_cons,hc]
  clear hc
  go_wp2_with fail
  go_loopw [9] (fun c wr=>∃i:Nat,a≤i∧i≤s.size∧c=.int .i64 i∧Hid (AllF (notB (· ==93)) s a i)∧Hid (wr=wA)) (fun c _=>s.size - (intOf c).toNat)
  case atStart=>exact⟨a,Nat.le_refl _,ha,rfl,AllF.none _ _ _,rfl⟩
  case round=>
   obtain⟨i,hai,hi,rfl,HA,HV⟩:=hrel
   obtain rfl:wA=wr:=HV.out.symm
   clear HV
   by_cases hl:i<s.size
   ·have hl':(i:Int)<(s.size:Int):=by omega
    obtain⟨_,n93⟩:=b_eq s[i] 93 93 rfl
    by_cases h93:s[i]=93
    ·rw[decide_eq_true h93]at n93
     have HN:Hid (hstN (s.data.toList.drop a)=i+1 - a):=by
      show _=_
      have e1:=HA.out.sp2 hai (by omega) (fun _=>by unfold notB;rw[h93];rfl)
      unfold hstN
      rw[if_pos HH.out,e1,if_pos (by rw[List.length_drop,len_list];omega)]
      omega
     clear HA h93 HH
     have hi1:i+1≤s.size:=hl
     go_upto_region 9 with fail
     clear n93
     obtain⟨t,ht⟩:∃t,t=s.extract a (i+1):=⟨_,rfl⟩
     have htx:s.extract a (i+1)=t:=ht.symm
     have htl:t.data.toList=(s.data.toList.drop a).take (i+1 - a):=by rw[ht,ext_list,List.drop_take]
     have hts:t.size=i+1 - a:=by
      rw[←len_list,htl,List.length_take,List.length_drop,len_list]
      omega
     have HX2:Hid (X=if (parse t.data.toList wide).2.1=0 then .ok ((parse t.data.toList wide).1,i+1 - a) else .error (parse t.data.toList wide).2):=by
      show _=_
      rw[HX.out]
      unfold hst
      rw[HN.out,←htl]
     obtain⟨b1,b2⟩:=back_text t.data.toList wide
     have HP1:Hid (Calls Tryz.prog 92 #[.string t,.bool wide] wA fun e w'=>e=.returned (.tuple #[hostV (parse t.data.toList wide).1,.agg (spotV (parse t.data.toList wide).2)])∧Below wA.heap.size wA w'):=HPA.out t wide _ KB.out
     obtain⟨x,er,p,hq⟩:∃x er p,parse t.data.toList wide=(x,(er,p)):=⟨_,_,_,rfl⟩
     rw[hq]at HX2 b1 b2 HP1
     dsimp only at HX2 b1 b2 HP1
     have hxl:x.a.length=16:=by
      by_cases he:er=0
      ·exact(b1 he).2.2.2.1.len
      ·rw[(b2 he).1];rfl
     have hpl:er≠0→p≤i+1 - a:=fun he=>by
      have:=(b2 he).2
      rw[len_list,hts]at this
      exact this
     have hp0:er=0→p=0:=fun he=>by
      have:=(b1 he).1
      injection this
     obtain⟨V,hV⟩:∃V,V=hostC x:=⟨_,rfl⟩
     have hVz:V.size=18:=by rw[hV];exact hostC_size x hxl
     have hVo:V.all (·.oneCell')=true:=by rw[hV];exact hostC_one x
     have HP2:Hid (Calls Tryz.prog 92 #[.string t,.bool wide] wA fun e w'=>e=.returned (.tuple #[.agg V,.agg #[.int .i64 (er:Int),.int .i64 (p:Int)]])∧Below wA.heap.size wA w'):=by
      rw[hV]
      exact HP1.out
     have HVX:Hid (V=hostC x):=hV
     have hae':(a:Int)≤((i:Int)+1):=by omega
     have hes':((i:Int)+1)≤(s.size:Int):=by omega
     clear b1 b2 HP1 hq hV htl hts ht HX HN HPA
     go_wp2_with fail
     refine HP2.out.mono ?_
     rintro e y ⟨rfl,hb2⟩
     have hgt:w.heap.size+1<y.heap.size:=Nat.lt_of_lt_of_le L2.out.lt hb2.size
     have A:Hid (Lies ((y.alloc (.cells #[.int .i64 0,.string ⟨#[]⟩,.int .u8 0,.int .u8 0,.int .u8 0,.int .u8 0,.int .u8 0,.int .u8 0,.int .u8 0,.int .u8 0,.int .u8 0,.int .u8 0,.int .u8 0,.int .u8 0,.int .u8 0,.int .u8 0,.int .u8 0,.int .u8 0] 25)).alloc (.cells #[.int .i64 0,.int .i64 0] 32)) y.heap.size #[.int .i64 0,.string ⟨#[]⟩,.int .u8 0,.int .u8 0,.int .u8 0,.int .u8 0,.int .u8 0,.int .u8 0,.int .u8 0,.int .u8 0,.int .u8 0,.int .u8 0,.int .u8 0,.int .u8 0,.int .u8 0,.int .u8 0,.int .u8 0,.int .u8 0] 25):=(Lies.new y _ _).alloc _
     have B:Hid (Lies ((y.alloc (.cells #[.int .i64 0,.string ⟨#[]⟩,.int .u8 0,.int .u8 0,.int .u8 0,.int .u8 0,.int .u8 0,.int .u8 0,.int .u8 0,.int .u8 0,.int .u8 0,.int .u8 0,.int .u8 0,.int .u8 0,.int .u8 0,.int .u8 0,.int .u8 0,.int .u8 0] 25)).alloc (.cells #[.int .i64 0,.int .i64 0] 32)) (y.heap.size+1) #[.int .i64 0,.int .i64 0] 32):=new_one y _ _ _
     have M1:Hid (Lies ((((y.alloc (.cells #[.int .i64 0,.string ⟨#[]⟩,.int .u8 0,.int .u8 0,.int .u8 0,.int .u8 0,.int .u8 0,.int .u8 0,.int .u8 0,.int .u8 0,.int .u8 0,.int .u8 0,.int .u8 0,.int .u8 0,.int .u8 0,.int .u8 0,.int .u8 0,.int .u8 0] 25)).alloc (.cells #[.int .i64 0,.int .i64 0] 32)).setRow y.heap.size V).setRow (y.heap.size+1) #[.int .i64 (er:Int),.int .i64 (p:Int)]) y.heap.size V 25):=(A.out.row _).row_other (by omega) _
     have N1:Hid (Lies ((((y.alloc (.cells #[.int .i64 0,.string ⟨#[]⟩,.int .u8 0,.int .u8 0,.int .u8 0,.int .u8 0,.int .u8 0,.int .u8 0,.int .u8 0,.int .u8 0,.int .u8 0,.int .u8 0,.int .u8 0,.int .u8 0,.int .u8 0,.int .u8 0,.int .u8 0,.int .u8 0] 25)).alloc (.cells #[.int .i64 0,.int .i64 0] 32)).setRow y.heap.size V).setRow (y.heap.size+1) #[.int .i64 (er:Int),.int .i64 (p:Int)]) (y.heap.size+1) #[.int .i64 (er:Int),.int .i64 (p:Int)] 32):=(B.out.row_other (by omega) _).row _
     have BB:Hid (Below y.heap.size y ((((y.alloc (.cells #[.int .i64 0,.string ⟨#[]⟩,.int .u8 0,.int .u8 0,.int .u8 0,.int .u8 0,.int .u8 0,.int .u8 0,.int .u8 0,.int .u8 0,.int .u8 0,.int .u8 0,.int .u8 0,.int .u8 0,.int .u8 0,.int .u8 0,.int .u8 0,.int .u8 0] 25)).alloc (.cells #[.int .i64 0,.int .i64 0] 32)).setRow y.heap.size V).setRow (y.heap.size+1) #[.int .i64 (er:Int),.int .i64 (p:Int)])):=below_row (below_row (((Below.refl _ _).alloc (Nat.le_refl _) _).alloc (by simp) _) (Nat.le_refl _) _) (by omega) _
     have K1:Hid (Lies ((((y.alloc (.cells #[.int .i64 0,.string ⟨#[]⟩,.int .u8 0,.int .u8 0,.int .u8 0,.int .u8 0,.int .u8 0,.int .u8 0,.int .u8 0,.int .u8 0,.int .u8 0,.int .u8 0,.int .u8 0,.int .u8 0,.int .u8 0,.int .u8 0,.int .u8 0,.int .u8 0] 25)).alloc (.cells #[.int .i64 0,.int .i64 0] 32)).setRow y.heap.size V).setRow (y.heap.size+1) #[.int .i64 (er:Int),.int .i64 (p:Int)]) w.heap.size #[.int .i64 0,.string ⟨#[]⟩,.int .u8 0,.int .u8 0,.int .u8 0,.int .u8 0,.int .u8 0,.int .u8 0,.int .u8 0,.int .u8 0,.int .u8 0,.int .u8 0,.int .u8 0,.int .u8 0,.int .u8 0,.int .u8 0,.int .u8 0,.int .u8 0] 25):=(L1.out.below hb2 L1.out.lt).below BB.out (by omega)
     have K2:Hid (Lies ((((y.alloc (.cells #[.int .i64 0,.string ⟨#[]⟩,.int .u8 0,.int .u8 0,.int .u8 0,.int .u8 0,.int .u8 0,.int .u8 0,.int .u8 0,.int .u8 0,.int .u8 0,.int .u8 0,.int .u8 0,.int .u8 0,.int .u8 0,.int .u8 0,.int .u8 0,.int .u8 0] 25)).alloc (.cells #[.int .i64 0,.int .i64 0] 32)).setRow y.heap.size V).setRow (y.heap.size+1) #[.int .i64 (er:Int),.int .i64 (p:Int)]) (w.heap.size+1) #[.int .i64 0,.int .i64 0] 32):=(L2.out.below hb2 L2.out.lt).below BB.out hgt
     have KX:Hid (Below w.heap.size w ((((y.alloc (.cells #[.int .i64 0,.string ⟨#[]⟩,.int .u8 0,.int .u8 0,.int .u8 0,.int .u8 0,.int .u8 0,.int .u8 0,.int .u8 0,.int .u8 0,.int .u8 0,.int .u8 0,.int .u8 0,.int .u8 0,.int .u8 0,.int .u8 0,.int .u8 0,.int .u8 0] 25)).alloc (.cells #[.int .i64 0,.int .i64 0] 32)).setRow y.heap.size V).setRow (y.heap.size+1) #[.int .i64 (er:Int),.int .i64 (p:Int)])):=(KB.out.trans (hb2.mono KB.out.size)).trans (BB.out.mono (by omega))
     clear hb2 HP2 L1 L2 KB
     go_upto_region 10 with(first|(refine wpList_store_row rfl 25 _ _ rfl y.heap.size rfl _ V rfl 25 A.out (by rw[hVz];exact infoHo) (by rw[hVz];rfl) hVo rfl ?_)|(refine wpList_store_row rfl 32 _ _ rfl (y.heap.size+1) rfl _ #[.int .i64 (er:Int),.int .i64 (p:Int)] rfl 32 (B.out.row_other (by omega) _) infoSp rfl (by simp[Value.oneCell']) rfl ?_))
     generalize hv:(((y.alloc (.cells #[.int .i64 0,.string ⟨#[]⟩,.int .u8 0,.int .u8 0,.int .u8 0,.int .u8 0,.int .u8 0,.int .u8 0,.int .u8 0,.int .u8 0,.int .u8 0,.int .u8 0,.int .u8 0,.int .u8 0,.int .u8 0,.int .u8 0,.int .u8 0,.int .u8 0] 25)).alloc (.cells #[.int .i64 0,.int .i64 0] 32)).setRow y.heap.size V).setRow (y.heap.size+1) #[.int .i64 (er:Int),.int .i64 (p:Int)]=v1 at M1 N1 K1 K2 KX ⊢
     clear hv A B BB
     generalize y.heap.size=g at hgt M1 N1 ⊢
     have c0:=N1.out.cell 0
     have c1:=N1.out.cell 1
     simp at c0 c1
     by_cases he:er=0
     ·have heb:((er:Int) != 0)=false:=by rw[he];rfl
      have hp1:=hp0 he
      have HXX:Hid (hsV a X=.tuple #[.agg V,.int .i64 ((i:Int)+1),.agg #[.int .i64 0,.int .i64 0]]):=by
       show _=_
       rw[HX2.out,if_pos he,hsV,HVX.out,show a+(i+1 - a)=i+1 from by omega]<;>rfl
      clear HX2 he hpl hp0 HVX hp1
      go_wp2_with (first|(refine wpList_load_row rfl 25 _ rfl g rfl V 25 _ M1.out Tryz.underlying25 rfl (by rw[hVz];exact infoHo) ?_)|(refine wpList_store_row rfl 25 _ _ rfl w.heap.size rfl _ V rfl 25 K1.out (by rw[hVz];exact infoHo) (by rw[hVz];rfl) hVo rfl ?_)|(refine wpList_store_row rfl 32 _ _ rfl (w.heap.size+1) rfl _ #[.int .i64 0,.int .i64 0] rfl 32 (K2.out.row_other (by omega) _) infoSp rfl (by simp[Value.oneCell']) rfl ?_))
      refine bodyPost_ret (results_cvc (p:=6) (q:=7) (r:=8) (by kernel_rfl) _ _ w.heap.size (w.heap.size+1) V #[.int .i64 0,.int .i64 0] _ _ (.int .i64 ((i:Int)+1)) rfl rfl rfl ((K1.out.row _).row_other (by omega) _) ((K2.out.row_other (by omega) _).row _) Tryz.underlying25 rfl (by rw[hVz];exact infoHo) Tryz.underlying32 rfl infoSp) rfl ⟨by rw[HXX.out],below_row (below_row KX.out (Nat.le_refl _) _) (by omega) _⟩
     ·have heb:((er:Int) != 0)=true:=by rw[bne_iff_ne];omega
      have hpb:=hpl he
      have HXX:Hid (hsV a X=.tuple #[.agg #[.int .i64 0,.string ⟨#[]⟩,.int .u8 0,.int .u8 0,.int .u8 0,.int .u8 0,.int .u8 0,.int .u8 0,.int .u8 0,.int .u8 0,.int .u8 0,.int .u8 0,.int .u8 0,.int .u8 0,.int .u8 0,.int .u8 0,.int .u8 0,.int .u8 0],.int .i64 0,.agg #[.int .i64 (er:Int),.int .i64 ((a:Int)+(p:Int))]]):=by
       show _=_
       rw[HX2.out,if_neg he,hsV]
       rfl
      clear HX2 he hpl hp0 HVX
      go_upto_region 11 with fail
      have hS0:v1.drew.cell? ⟨g+1,0,none⟩=some (.int .i64 (er:Int))∧v1.drew.cell? ⟨g+1,1,none⟩=some (.int .i64 (p:Int)):=⟨c0,c1⟩
      refine wp_region_late (fun wx=>wx.cell? ⟨g+1,0,none⟩=some (.int .i64 (er:Int))∧wx.cell? ⟨g+1,1,none⟩=some (.int .i64 (p:Int))) 11 (by kernel_rfl) hS0 (fun hHeld=>?_)
      refine tk9 0 (some 66) (.agg #[.int .i64 0,.string ⟨#[]⟩,.int .u8 0,.int .u8 0,.int .u8 0,.int .u8 0,.int .u8 0,.int .u8 0,.int .u8 0,.int .u8 0,.int .u8 0,.int .u8 0,.int .u8 0,.int .u8 0,.int .u8 0,.int .u8 0,.int .u8 0,.int .u8 0]) ?_
      simp only[Act.put,pA,pB,pC]
      refine tk9 1 (some 67) (.pointer (some ⟨g+1,0,none⟩)) ?_
      simp only[Act.put,pA,pB,pC]
      refine tk9 2 (some 68) (.int .i64 (er:Int)) ?_
      simp only[Act.put,pA,pB,pC]
      refine tk9 3 (some 69) (.int .i64 (a:Int)) ?_
      simp only[Act.put,pA,pB,pC]
      refine tk9 4 (some 70) (.pointer (some ⟨g+1,1,none⟩)) ?_
      simp only[Act.put,pA,pB,pC]
      refine tk9 5 (some 71) (.int .i64 (p:Int)) ?_
      simp only[Act.put,pA,pB,pC]
      refine tk9 6 (some 72) (.int .i64 ((a:Int)+(p:Int))) ?_ (hy:=?hy)
      case hy=>(intro w' hSw;(try dsimp only at hSw);go_simp<;>(first|with_reducible rfl|omega|(rw[IntKind.wrap_i64];omega)|skip))
      simp only[Act.put,pA,pB,pC]
      refine tk9 7 (some 73) (.agg #[.int .i64 (er:Int),.int .i64 ((a:Int)+(p:Int))]) ?_
      simp only[Act.put,pA,pB,pC]
      refine on9 8 ?_
      refine oper_store_row 25 _ _ rfl w.heap.size rfl #[.int .i64 0,.string ⟨#[]⟩,.int .u8 0,.int .u8 0,.int .u8 0,.int .u8 0,.int .u8 0,.int .u8 0,.int .u8 0,.int .u8 0,.int .u8 0,.int .u8 0,.int .u8 0,.int .u8 0,.int .u8 0,.int .u8 0,.int .u8 0,.int .u8 0] #[.int .i64 0,.string ⟨#[]⟩,.int .u8 0,.int .u8 0,.int .u8 0,.int .u8 0,.int .u8 0,.int .u8 0,.int .u8 0,.int .u8 0,.int .u8 0,.int .u8 0,.int .u8 0,.int .u8 0,.int .u8 0,.int .u8 0,.int .u8 0,.int .u8 0] rfl 25 K1.out.drew infoHo rfl (by simp[Value.oneCell']) rfl ?_
      have hS1:(v1.drew.setRow w.heap.size #[.int .i64 0,.string ⟨#[]⟩,.int .u8 0,.int .u8 0,.int .u8 0,.int .u8 0,.int .u8 0,.int .u8 0,.int .u8 0,.int .u8 0,.int .u8 0,.int .u8 0,.int .u8 0,.int .u8 0,.int .u8 0,.int .u8 0,.int .u8 0,.int .u8 0]).cell? ⟨g+1,0,none⟩=some (.int .i64 (er:Int))∧(v1.drew.setRow w.heap.size #[.int .i64 0,.string ⟨#[]⟩,.int .u8 0,.int .u8 0,.int .u8 0,.int .u8 0,.int .u8 0,.int .u8 0,.int .u8 0,.int .u8 0,.int .u8 0,.int .u8 0,.int .u8 0,.int .u8 0,.int .u8 0,.int .u8 0,.int .u8 0,.int .u8 0]).cell? ⟨g+1,1,none⟩=some (.int .i64 (p:Int)):=⟨(N1.out.drew.row_other (show g+1≠w.heap.size by omega) _).cell 0,(N1.out.drew.row_other (show g+1≠w.heap.size by omega) _).cell 1⟩
      refine⟨Or.inr hS1,?_⟩
      refine tk9 9 (some 7) (.int .i64 0) ?_
      simp only[Act.put,pA,pB,pC]
      refine on9 10 ?_
      refine oper_store_row 32 _ _ rfl (w.heap.size+1) rfl #[.int .i64 0,.int .i64 0] #[.int .i64 (er:Int),.int .i64 ((a:Int)+(p:Int))] rfl 32 (K2.out.drew.row_other (by omega) _) infoSp rfl (by simp[Value.oneCell']) rfl ?_
      refine⟨Or.inr ⟨((N1.out.drew.row_other (show g+1≠w.heap.size by omega) _).row_other (show g+1≠w.heap.size+1 by omega) _).cell 0,((N1.out.drew.row_other (show g+1≠w.heap.size by omega) _).row_other (show g+1≠w.heap.size+1 by omega) _).cell 1⟩,?_⟩
      refine wpAnyE_done (by kernel_rfl) ?_ _
      clear hHeld hS0 hS1
      go_wp2
      refine bodyPost_ret (results_cvc (p:=6) (q:=7) (r:=8) (by kernel_rfl) _ _ w.heap.size (w.heap.size+1) #[.int .i64 0,.string ⟨#[]⟩,.int .u8 0,.int .u8 0,.int .u8 0,.int .u8 0,.int .u8 0,.int .u8 0,.int .u8 0,.int .u8 0,.int .u8 0,.int .u8 0,.int .u8 0,.int .u8 0,.int .u8 0,.int .u8 0,.int .u8 0,.int .u8 0] #[.int .i64 (er:Int),.int .i64 ((a:Int)+(p:Int))] _ _ (.int .i64 0) rfl rfl rfl ((K1.out.drew.row _).row_other (by omega) _) ((K2.out.drew.row_other (by omega) _).row _) Tryz.underlying25 rfl infoHo Tryz.underlying32 rfl infoSp) rfl ⟨by rw[HXX.out],below_row (below_row KX.out.drew (Nat.le_refl _) _) (by omega) _⟩
    ·rw[decide_eq_false h93]at n93
     have HA2:Hid (AllF (notB (· ==93)) s a (i+1)):=HA.out.step hl (by unfold notB;rw[Bool.not_eq_true',beq_eq_false_iff_ne];exact h93)
     clear HA h93
     go_wp2_with fail
     go_roundw
     case rel=>exact⟨i+1,by omega,by omega,by go_num,HA2,trivial⟩
     case measure=>simp[intOf];omega
   ·have hl':¬(i:Int)<(s.size:Int):=by omega
    have HN:Hid (hstN (s.data.toList.drop a)=i - a):=by
     show _=_
     have e1:=HA.out.sp2 hai (by omega) (fun h=>absurd h hl)
     unfold hstN
     rw[if_pos HH.out,e1,if_neg (by rw[List.length_drop,len_list];omega)]
    clear HA HH
    go_upto_region 9 with fail
    obtain⟨t,ht⟩:∃t,t=s.extract a (i):=⟨_,rfl⟩
    have htx:s.extract a (i)=t:=ht.symm
    have htl:t.data.toList=(s.data.toList.drop a).take (i - a):=by rw[ht,ext_list,List.drop_take]
    have hts:t.size=i - a:=by
     rw[←len_list,htl,List.length_take,List.length_drop,len_list]
     omega
    have HX2:Hid (X=if (parse t.data.toList wide).2.1=0 then .ok ((parse t.data.toList wide).1,i - a) else .error (parse t.data.toList wide).2):=by
     show _=_
     rw[HX.out]
     unfold hst
     rw[HN.out,←htl]
    obtain⟨b1,b2⟩:=back_text t.data.toList wide
    have HP1:Hid (Calls Tryz.prog 92 #[.string t,.bool wide] wA fun e w'=>e=.returned (.tuple #[hostV (parse t.data.toList wide).1,.agg (spotV (parse t.data.toList wide).2)])∧Below wA.heap.size wA w'):=HPA.out t wide _ KB.out
    obtain⟨x,er,p,hq⟩:∃x er p,parse t.data.toList wide=(x,(er,p)):=⟨_,_,_,rfl⟩
    rw[hq]at HX2 b1 b2 HP1
    dsimp only at HX2 b1 b2 HP1
    have hxl:x.a.length=16:=by
     by_cases he:er=0
     ·exact(b1 he).2.2.2.1.len
     ·rw[(b2 he).1];rfl
    have hpl:er≠0→p≤i - a:=fun he=>by
     have:=(b2 he).2
     rw[len_list,hts]at this
     exact this
    have hp0:er=0→p=0:=fun he=>by
     have:=(b1 he).1
     injection this
    obtain⟨V,hV⟩:∃V,V=hostC x:=⟨_,rfl⟩
    have hVz:V.size=18:=by rw[hV];exact hostC_size x hxl
    have hVo:V.all (·.oneCell')=true:=by rw[hV];exact hostC_one x
    have HP2:Hid (Calls Tryz.prog 92 #[.string t,.bool wide] wA fun e w'=>e=.returned (.tuple #[.agg V,.agg #[.int .i64 (er:Int),.int .i64 (p:Int)]])∧Below wA.heap.size wA w'):=by
     rw[hV]
     exact HP1.out
    have HVX:Hid (V=hostC x):=hV
    have hae':(a:Int)≤(i:Int):=by omega
    have hes':(i:Int)≤(s.size:Int):=by omega
    clear b1 b2 HP1 hq hV htl hts ht HX HN HPA
    go_wp2_with fail
    refine HP2.out.mono ?_
    rintro e y ⟨rfl,hb2⟩
    have hgt:w.heap.size+1<y.heap.size:=Nat.lt_of_lt_of_le L2.out.lt hb2.size
    have A:Hid (Lies ((y.alloc (.cells #[.int .i64 0,.string ⟨#[]⟩,.int .u8 0,.int .u8 0,.int .u8 0,.int .u8 0,.int .u8 0,.int .u8 0,.int .u8 0,.int .u8 0,.int .u8 0,.int .u8 0,.int .u8 0,.int .u8 0,.int .u8 0,.int .u8 0,.int .u8 0,.int .u8 0] 25)).alloc (.cells #[.int .i64 0,.int .i64 0] 32)) y.heap.size #[.int .i64 0,.string ⟨#[]⟩,.int .u8 0,.int .u8 0,.int .u8 0,.int .u8 0,.int .u8 0,.int .u8 0,.int .u8 0,.int .u8 0,.int .u8 0,.int .u8 0,.int .u8 0,.int .u8 0,.int .u8 0,.int .u8 0,.int .u8 0,.int .u8 0] 25):=(Lies.new y _ _).alloc _
    have B:Hid (Lies ((y.alloc (.cells #[.int .i64 0,.string ⟨#[]⟩,.int .u8 0,.int .u8 0,.int .u8 0,.int .u8 0,.int .u8 0,.int .u8 0,.int .u8 0,.int .u8 0,.int .u8 0,.int .u8 0,.int .u8 0,.int .u8 0,.int .u8 0,.int .u8 0,.int .u8 0,.int .u8 0] 25)).alloc (.cells #[.int .i64 0,.int .i64 0] 32)) (y.heap.size+1) #[.int .i64 0,.int .i64 0] 32):=new_one y _ _ _
    have M1:Hid (Lies ((((y.alloc (.cells #[.int .i64 0,.string ⟨#[]⟩,.int .u8 0,.int .u8 0,.int .u8 0,.int .u8 0,.int .u8 0,.int .u8 0,.int .u8 0,.int .u8 0,.int .u8 0,.int .u8 0,.int .u8 0,.int .u8 0,.int .u8 0,.int .u8 0,.int .u8 0,.int .u8 0] 25)).alloc (.cells #[.int .i64 0,.int .i64 0] 32)).setRow y.heap.size V).setRow (y.heap.size+1) #[.int .i64 (er:Int),.int .i64 (p:Int)]) y.heap.size V 25):=(A.out.row _).row_other (by omega) _
    have N1:Hid (Lies ((((y.alloc (.cells #[.int .i64 0,.string ⟨#[]⟩,.int .u8 0,.int .u8 0,.int .u8 0,.int .u8 0,.int .u8 0,.int .u8 0,.int .u8 0,.int .u8 0,.int .u8 0,.int .u8 0,.int .u8 0,.int .u8 0,.int .u8 0,.int .u8 0,.int .u8 0,.int .u8 0] 25)).alloc (.cells #[.int .i64 0,.int .i64 0] 32)).setRow y.heap.size V).setRow (y.heap.size+1) #[.int .i64 (er:Int),.int .i64 (p:Int)]) (y.heap.size+1) #[.int .i64 (er:Int),.int .i64 (p:Int)] 32):=(B.out.row_other (by omega) _).row _
    have BB:Hid (Below y.heap.size y ((((y.alloc (.cells #[.int .i64 0,.string ⟨#[]⟩,.int .u8 0,.int .u8 0,.int .u8 0,.int .u8 0,.int .u8 0,.int .u8 0,.int .u8 0,.int .u8 0,.int .u8 0,.int .u8 0,.int .u8 0,.int .u8 0,.int .u8 0,.int .u8 0,.int .u8 0,.int .u8 0] 25)).alloc (.cells #[.int .i64 0,.int .i64 0] 32)).setRow y.heap.size V).setRow (y.heap.size+1) #[.int .i64 (er:Int),.int .i64 (p:Int)])):=below_row (below_row (((Below.refl _ _).alloc (Nat.le_refl _) _).alloc (by simp) _) (Nat.le_refl _) _) (by omega) _
    have K1:Hid (Lies ((((y.alloc (.cells #[.int .i64 0,.string ⟨#[]⟩,.int .u8 0,.int .u8 0,.int .u8 0,.int .u8 0,.int .u8 0,.int .u8 0,.int .u8 0,.int .u8 0,.int .u8 0,.int .u8 0,.int .u8 0,.int .u8 0,.int .u8 0,.int .u8 0,.int .u8 0,.int .u8 0] 25)).alloc (.cells #[.int .i64 0,.int .i64 0] 32)).setRow y.heap.size V).setRow (y.heap.size+1) #[.int .i64 (er:Int),.int .i64 (p:Int)]) w.heap.size #[.int .i64 0,.string ⟨#[]⟩,.int .u8 0,.int .u8 0,.int .u8 0,.int .u8 0,.int .u8 0,.int .u8 0,.int .u8 0,.int .u8 0,.int .u8 0,.int .u8 0,.int .u8 0,.int .u8 0,.int .u8 0,.int .u8 0,.int .u8 0,.int .u8 0] 25):=(L1.out.below hb2 L1.out.lt).below BB.out (by omega)
    have K2:Hid (Lies ((((y.alloc (.cells #[.int .i64 0,.string ⟨#[]⟩,.int .u8 0,.int .u8 0,.int .u8 0,.int .u8 0,.int .u8 0,.int .u8 0,.int .u8 0,.int .u8 0,.int .u8 0,.int .u8 0,.int .u8 0,.int .u8 0,.int .u8 0,.int .u8 0,.int .u8 0,.int .u8 0] 25)).alloc (.cells #[.int .i64 0,.int .i64 0] 32)).setRow y.heap.size V).setRow (y.heap.size+1) #[.int .i64 (er:Int),.int .i64 (p:Int)]) (w.heap.size+1) #[.int .i64 0,.int .i64 0] 32):=(L2.out.below hb2 L2.out.lt).below BB.out hgt
    have KX:Hid (Below w.heap.size w ((((y.alloc (.cells #[.int .i64 0,.string ⟨#[]⟩,.int .u8 0,.int .u8 0,.int .u8 0,.int .u8 0,.int .u8 0,.int .u8 0,.int .u8 0,.int .u8 0,.int .u8 0,.int .u8 0,.int .u8 0,.int .u8 0,.int .u8 0,.int .u8 0,.int .u8 0,.int .u8 0] 25)).alloc (.cells #[.int .i64 0,.int .i64 0] 32)).setRow y.heap.size V).setRow (y.heap.size+1) #[.int .i64 (er:Int),.int .i64 (p:Int)])):=(KB.out.trans (hb2.mono KB.out.size)).trans (BB.out.mono (by omega))
    clear hb2 HP2 L1 L2 KB
    go_upto_region 10 with(first|(refine wpList_store_row rfl 25 _ _ rfl y.heap.size rfl _ V rfl 25 A.out (by rw[hVz];exact infoHo) (by rw[hVz];rfl) hVo rfl ?_)|(refine wpList_store_row rfl 32 _ _ rfl (y.heap.size+1) rfl _ #[.int .i64 (er:Int),.int .i64 (p:Int)] rfl 32 (B.out.row_other (by omega) _) infoSp rfl (by simp[Value.oneCell']) rfl ?_))
    generalize hv:(((y.alloc (.cells #[.int .i64 0,.string ⟨#[]⟩,.int .u8 0,.int .u8 0,.int .u8 0,.int .u8 0,.int .u8 0,.int .u8 0,.int .u8 0,.int .u8 0,.int .u8 0,.int .u8 0,.int .u8 0,.int .u8 0,.int .u8 0,.int .u8 0,.int .u8 0,.int .u8 0] 25)).alloc (.cells #[.int .i64 0,.int .i64 0] 32)).setRow y.heap.size V).setRow (y.heap.size+1) #[.int .i64 (er:Int),.int .i64 (p:Int)]=v1 at M1 N1 K1 K2 KX ⊢
    clear hv A B BB
    generalize y.heap.size=g at hgt M1 N1 ⊢
    have c0:=N1.out.cell 0
    have c1:=N1.out.cell 1
    simp at c0 c1
    by_cases he:er=0
    ·have heb:((er:Int) != 0)=false:=by rw[he];rfl
     have hp1:=hp0 he
     have HXX:Hid (hsV a X=.tuple #[.agg V,.int .i64 (i:Int),.agg #[.int .i64 0,.int .i64 0]]):=by
      show _=_
      rw[HX2.out,if_pos he,hsV,HVX.out,show a+(i - a)=i from by omega]<;>rfl
     clear HX2 he hpl hp0 HVX hp1
     go_wp2_with (first|(refine wpList_load_row rfl 25 _ rfl g rfl V 25 _ M1.out Tryz.underlying25 rfl (by rw[hVz];exact infoHo) ?_)|(refine wpList_store_row rfl 25 _ _ rfl w.heap.size rfl _ V rfl 25 K1.out (by rw[hVz];exact infoHo) (by rw[hVz];rfl) hVo rfl ?_)|(refine wpList_store_row rfl 32 _ _ rfl (w.heap.size+1) rfl _ #[.int .i64 0,.int .i64 0] rfl 32 (K2.out.row_other (by omega) _) infoSp rfl (by simp[Value.oneCell']) rfl ?_))
     refine bodyPost_ret (results_cvc (p:=6) (q:=7) (r:=8) (by kernel_rfl) _ _ w.heap.size (w.heap.size+1) V #[.int .i64 0,.int .i64 0] _ _ (.int .i64 (i:Int)) rfl rfl rfl ((K1.out.row _).row_other (by omega) _) ((K2.out.row_other (by omega) _).row _) Tryz.underlying25 rfl (by rw[hVz];exact infoHo) Tryz.underlying32 rfl infoSp) rfl ⟨by rw[HXX.out],below_row (below_row KX.out (Nat.le_refl _) _) (by omega) _⟩
    ·have heb:((er:Int) != 0)=true:=by rw[bne_iff_ne];omega
     have hpb:=hpl he
     have HXX:Hid (hsV a X=.tuple #[.agg #[.int .i64 0,.string ⟨#[]⟩,.int .u8 0,.int .u8 0,.int .u8 0,.int .u8 0,.int .u8 0,.int .u8 0,.int .u8 0,.int .u8 0,.int .u8 0,.int .u8 0,.int .u8 0,.int .u8 0,.int .u8 0,.int .u8 0,.int .u8 0,.int .u8 0],.int .i64 0,.agg #[.int .i64 (er:Int),.int .i64 ((a:Int)+(p:Int))]]):=by
      show _=_
      rw[HX2.out,if_neg he,hsV]
      rfl
     clear HX2 he hpl hp0 HVX
     go_upto_region 11 with fail
     have hS0:v1.drew.cell? ⟨g+1,0,none⟩=some (.int .i64 (er:Int))∧v1.drew.cell? ⟨g+1,1,none⟩=some (.int .i64 (p:Int)):=⟨c0,c1⟩
     refine wp_region_late (fun wx=>wx.cell? ⟨g+1,0,none⟩=some (.int .i64 (er:Int))∧wx.cell? ⟨g+1,1,none⟩=some (.int .i64 (p:Int))) 11 (by kernel_rfl) hS0 (fun hHeld=>?_)
     refine tk9 0 (some 66) (.agg #[.int .i64 0,.string ⟨#[]⟩,.int .u8 0,.int .u8 0,.int .u8 0,.int .u8 0,.int .u8 0,.int .u8 0,.int .u8 0,.int .u8 0,.int .u8 0,.int .u8 0,.int .u8 0,.int .u8 0,.int .u8 0,.int .u8 0,.int .u8 0,.int .u8 0]) ?_
     simp only[Act.put,pA,pB,pC]
     refine tk9 1 (some 67) (.pointer (some ⟨g+1,0,none⟩)) ?_
     simp only[Act.put,pA,pB,pC]
     refine tk9 2 (some 68) (.int .i64 (er:Int)) ?_
     simp only[Act.put,pA,pB,pC]
     refine tk9 3 (some 69) (.int .i64 (a:Int)) ?_
     simp only[Act.put,pA,pB,pC]
     refine tk9 4 (some 70) (.pointer (some ⟨g+1,1,none⟩)) ?_
     simp only[Act.put,pA,pB,pC]
     refine tk9 5 (some 71) (.int .i64 (p:Int)) ?_
     simp only[Act.put,pA,pB,pC]
     refine tk9 6 (some 72) (.int .i64 ((a:Int)+(p:Int))) ?_ (hy:=?hy)
     case hy=>(intro w' hSw;(try dsimp only at hSw);go_simp<;>(first|with_reducible rfl|omega|(rw[IntKind.wrap_i64];omega)|skip))
     simp only[Act.put,pA,pB,pC]
     refine tk9 7 (some 73) (.agg #[.int .i64 (er:Int),.int .i64 ((a:Int)+(p:Int))]) ?_
     simp only[Act.put,pA,pB,pC]
     refine on9 8 ?_
     refine oper_store_row 25 _ _ rfl w.heap.size rfl #[.int .i64 0,.string ⟨#[]⟩,.int .u8 0,.int .u8 0,.int .u8 0,.int .u8 0,.int .u8 0,.int .u8 0,.int .u8 0,.int .u8 0,.int .u8 0,.int .u8 0,.int .u8 0,.int .u8 0,.int .u8 0,.int .u8 0,.int .u8 0,.int .u8 0] #[.int .i64 0,.string ⟨#[]⟩,.int .u8 0,.int .u8 0,.int .u8 0,.int .u8 0,.int .u8 0,.int .u8 0,.int .u8 0,.int .u8 0,.int .u8 0,.int .u8 0,.int .u8 0,.int .u8 0,.int .u8 0,.int .u8 0,.int .u8 0,.int .u8 0] rfl 25 K1.out.drew infoHo rfl (by simp[Value.oneCell']) rfl ?_
     have hS1:(v1.drew.setRow w.heap.size #[.int .i64 0,.string ⟨#[]⟩,.int .u8 0,.int .u8 0,.int .u8 0,.int .u8 0,.int .u8 0,.int .u8 0,.int .u8 0,.int .u8 0,.int .u8 0,.int .u8 0,.int .u8 0,.int .u8 0,.int .u8 0,.int .u8 0,.int .u8 0,.int .u8 0]).cell? ⟨g+1,0,none⟩=some (.int .i64 (er:Int))∧(v1.drew.setRow w.heap.size #[.int .i64 0,.string ⟨#[]⟩,.int .u8 0,.int .u8 0,.int .u8 0,.int .u8 0,.int .u8 0,.int .u8 0,.int .u8 0,.int .u8 0,.int .u8 0,.int .u8 0,.int .u8 0,.int .u8 0,.int .u8 0,.int .u8 0,.int .u8 0,.int .u8 0]).cell? ⟨g+1,1,none⟩=some (.int .i64 (p:Int)):=⟨(N1.out.drew.row_other (show g+1≠w.heap.size by omega) _).cell 0,(N1.out.drew.row_other (show g+1≠w.heap.size by omega) _).cell 1⟩
     refine⟨Or.inr hS1,?_⟩
     refine tk9 9 (some 7) (.int .i64 0) ?_
     simp only[Act.put,pA,pB,pC]
     refine on9 10 ?_
     refine oper_store_row 32 _ _ rfl (w.heap.size+1) rfl #[.int .i64 0,.int .i64 0] #[.int .i64 (er:Int),.int .i64 ((a:Int)+(p:Int))] rfl 32 (K2.out.drew.row_other (by omega) _) infoSp rfl (by simp[Value.oneCell']) rfl ?_
     refine⟨Or.inr ⟨((N1.out.drew.row_other (show g+1≠w.heap.size by omega) _).row_other (show g+1≠w.heap.size+1 by omega) _).cell 0,((N1.out.drew.row_other (show g+1≠w.heap.size by omega) _).row_other (show g+1≠w.heap.size+1 by omega) _).cell 1⟩,?_⟩
     refine wpAnyE_done (by kernel_rfl) ?_ _
     clear hHeld hS0 hS1
     go_wp2
     refine bodyPost_ret (results_cvc (p:=6) (q:=7) (r:=8) (by kernel_rfl) _ _ w.heap.size (w.heap.size+1) #[.int .i64 0,.string ⟨#[]⟩,.int .u8 0,.int .u8 0,.int .u8 0,.int .u8 0,.int .u8 0,.int .u8 0,.int .u8 0,.int .u8 0,.int .u8 0,.int .u8 0,.int .u8 0,.int .u8 0,.int .u8 0,.int .u8 0,.int .u8 0,.int .u8 0] #[.int .i64 (er:Int),.int .i64 ((a:Int)+(p:Int))] _ _ (.int .i64 0) rfl rfl rfl ((K1.out.drew.row _).row_other (by omega) _) ((K2.out.drew.row_other (by omega) _).row _) Tryz.underlying25 rfl infoHo Tryz.underlying32 rfl infoSp) rfl ⟨by rw[HXX.out],below_row (below_row KX.out.drew (Nat.le_refl _) _) (by omega) _⟩
 ·have HH:Hid ((s.data.toList.drop a).head?≠some 91):=fun h=>by
   apply h91
   rcases Nat.lt_or_ge a s.size with hl|hl
   ·rw[drop_at s a hl,List.head?_cons]at h
    injection h with h
    exact⟨hl,h⟩
   ·rw[drop_past s a hl]at h
    cases h
  have HHAS:Hid (∀c:UInt8,∀w:World,Calls Tryz.prog 91 #[.string ⟨#[60,62,44,58,64,32]⟩,.int .u8 (c.toNat:Int)] w fun e w'=>e=.returned (.bool (stopB c))∧w'=w):=fun c w=>by
   have:=has_any ⟨#[60,62,44,58,64,32]⟩ (c.toNat:Int) w (by unfold maxLen;decide)
   rw[show(⟨#[60,62,44,58,64,32]⟩:ByteArray).data.toList=[60,62,44,58,64,32] from rfl,stop_has]at this
   exact this
  have pre:(∃h:a<s.size,((s[a].toNat:Int)==91)=false)∨s.size≤a:=by
   rcases Nat.lt_or_ge a s.size with hl|hl
   ·left
    refine⟨hl,?_⟩
    rw[(b_eq s[a] 91 91 rfl).1,decide_eq_false (fun h=>h91 ⟨hl,h⟩)]
   ·exact .inr hl
  clear h91
  rcases pre with⟨hl0,e91⟩|hl0
  ·have hl0':(a:Int)<(s.size:Int):=by omega
   go_wp2_with fail
   go_loopw [9] (fun c wr=>∃i:Nat,a≤i∧i≤s.size∧c=.int .i64 i∧Hid (AllF (notB stopB) s a i)∧Hid (wr=wA)) (fun c _=>s.size - (intOf c).toNat)
   case atStart=>exact⟨a,Nat.le_refl _,ha,rfl,AllF.none _ _ _,rfl⟩
   case round=>
    obtain⟨i,hai,hi,rfl,HA,HV⟩:=hrel
    obtain rfl:wA=wr:=HV.out.symm
    clear HV
    by_cases hl:i<s.size
    ·have hl':(i:Int)<(s.size:Int):=by omega
     have HS1:=HHAS.out s[i] wA
     cases hst':stopB s[i]with
     |true=>
      rw[hst']at HS1
      have HN:Hid (hstN (s.data.toList.drop a)=i - a):=by
       show _=_
       unfold hstN
       rw[if_neg HH.out]
       exact HA.out.sp2 hai (by omega) (fun _=>by unfold notB;rw[hst'];rfl)
      have HS2:Hid (Calls Tryz.prog 91 #[.string ⟨#[60,62,44,58,64,32]⟩,.int .u8 (s[i].toNat:Int)] wA fun e w'=>e=.returned (.bool true)∧w'=wA):=HS1
      clear HA HH HS1 hst' HHAS
      go_wp2_with fail
      refine HS2.out.mono ?_
      rintro e w1 ⟨rfl,rfl⟩
      clear HS2
      go_upto_region 9 with fail
      obtain⟨t,ht⟩:∃t,t=s.extract a (i):=⟨_,rfl⟩
      have htx:s.extract a (i)=t:=ht.symm
      have htl:t.data.toList=(s.data.toList.drop a).take (i - a):=by rw[ht,ext_list,List.drop_take]
      have hts:t.size=i - a:=by
       rw[←len_list,htl,List.length_take,List.length_drop,len_list]
       omega
      have HX2:Hid (X=if (parse t.data.toList wide).2.1=0 then .ok ((parse t.data.toList wide).1,i - a) else .error (parse t.data.toList wide).2):=by
       show _=_
       rw[HX.out]
       unfold hst
       rw[HN.out,←htl]
      obtain⟨b1,b2⟩:=back_text t.data.toList wide
      have HP1:Hid (Calls Tryz.prog 92 #[.string t,.bool wide] w1 fun e w'=>e=.returned (.tuple #[hostV (parse t.data.toList wide).1,.agg (spotV (parse t.data.toList wide).2)])∧Below w1.heap.size w1 w'):=HPA.out t wide _ KB.out
      obtain⟨x,er,p,hq⟩:∃x er p,parse t.data.toList wide=(x,(er,p)):=⟨_,_,_,rfl⟩
      rw[hq]at HX2 b1 b2 HP1
      dsimp only at HX2 b1 b2 HP1
      have hxl:x.a.length=16:=by
       by_cases he:er=0
       ·exact(b1 he).2.2.2.1.len
       ·rw[(b2 he).1];rfl
      have hpl:er≠0→p≤i - a:=fun he=>by
       have:=(b2 he).2
       rw[len_list,hts]at this
       exact this
      have hp0:er=0→p=0:=fun he=>by
       have:=(b1 he).1
       injection this
      obtain⟨V,hV⟩:∃V,V=hostC x:=⟨_,rfl⟩
      have hVz:V.size=18:=by rw[hV];exact hostC_size x hxl
      have hVo:V.all (·.oneCell')=true:=by rw[hV];exact hostC_one x
      have HP2:Hid (Calls Tryz.prog 92 #[.string t,.bool wide] w1 fun e w'=>e=.returned (.tuple #[.agg V,.agg #[.int .i64 (er:Int),.int .i64 (p:Int)]])∧Below w1.heap.size w1 w'):=by
       rw[hV]
       exact HP1.out
      have HVX:Hid (V=hostC x):=hV
      have hae':(a:Int)≤(i:Int):=by omega
      have hes':(i:Int)≤(s.size:Int):=by omega
      clear b1 b2 HP1 hq hV htl hts ht HX HN HPA
      go_wp2_with fail
      refine HP2.out.mono ?_
      rintro e y ⟨rfl,hb2⟩
      have hgt:w.heap.size+1<y.heap.size:=Nat.lt_of_lt_of_le L2.out.lt hb2.size
      have A:Hid (Lies ((y.alloc (.cells #[.int .i64 0,.string ⟨#[]⟩,.int .u8 0,.int .u8 0,.int .u8 0,.int .u8 0,.int .u8 0,.int .u8 0,.int .u8 0,.int .u8 0,.int .u8 0,.int .u8 0,.int .u8 0,.int .u8 0,.int .u8 0,.int .u8 0,.int .u8 0,.int .u8 0] 25)).alloc (.cells #[.int .i64 0,.int .i64 0] 32)) y.heap.size #[.int .i64 0,.string ⟨#[]⟩,.int .u8 0,.int .u8 0,.int .u8 0,.int .u8 0,.int .u8 0,.int .u8 0,.int .u8 0,.int .u8 0,.int .u8 0,.int .u8 0,.int .u8 0,.int .u8 0,.int .u8 0,.int .u8 0,.int .u8 0,.int .u8 0] 25):=(Lies.new y _ _).alloc _
      have B:Hid (Lies ((y.alloc (.cells #[.int .i64 0,.string ⟨#[]⟩,.int .u8 0,.int .u8 0,.int .u8 0,.int .u8 0,.int .u8 0,.int .u8 0,.int .u8 0,.int .u8 0,.int .u8 0,.int .u8 0,.int .u8 0,.int .u8 0,.int .u8 0,.int .u8 0,.int .u8 0,.int .u8 0] 25)).alloc (.cells #[.int .i64 0,.int .i64 0] 32)) (y.heap.size+1) #[.int .i64 0,.int .i64 0] 32):=new_one y _ _ _
      have M1:Hid (Lies ((((y.alloc (.cells #[.int .i64 0,.string ⟨#[]⟩,.int .u8 0,.int .u8 0,.int .u8 0,.int .u8 0,.int .u8 0,.int .u8 0,.int .u8 0,.int .u8 0,.int .u8 0,.int .u8 0,.int .u8 0,.int .u8 0,.int .u8 0,.int .u8 0,.int .u8 0,.int .u8 0] 25)).alloc (.cells #[.int .i64 0,.int .i64 0] 32)).setRow y.heap.size V).setRow (y.heap.size+1) #[.int .i64 (er:Int),.int .i64 (p:Int)]) y.heap.size V 25):=(A.out.row _).row_other (by omega) _
      have N1:Hid (Lies ((((y.alloc (.cells #[.int .i64 0,.string ⟨#[]⟩,.int .u8 0,.int .u8 0,.int .u8 0,.int .u8 0,.int .u8 0,.int .u8 0,.int .u8 0,.int .u8 0,.int .u8 0,.int .u8 0,.int .u8 0,.int .u8 0,.int .u8 0,.int .u8 0,.int .u8 0,.int .u8 0] 25)).alloc (.cells #[.int .i64 0,.int .i64 0] 32)).setRow y.heap.size V).setRow (y.heap.size+1) #[.int .i64 (er:Int),.int .i64 (p:Int)]) (y.heap.size+1) #[.int .i64 (er:Int),.int .i64 (p:Int)] 32):=(B.out.row_other (by omega) _).row _
      have BB:Hid (Below y.heap.size y ((((y.alloc (.cells #[.int .i64 0,.string ⟨#[]⟩,.int .u8 0,.int .u8 0,.int .u8 0,.int .u8 0,.int .u8 0,.int .u8 0,.int .u8 0,.int .u8 0,.int .u8 0,.int .u8 0,.int .u8 0,.int .u8 0,.int .u8 0,.int .u8 0,.int .u8 0,.int .u8 0] 25)).alloc (.cells #[.int .i64 0,.int .i64 0] 32)).setRow y.heap.size V).setRow (y.heap.size+1) #[.int .i64 (er:Int),.int .i64 (p:Int)])):=below_row (below_row (((Below.refl _ _).alloc (Nat.le_refl _) _).alloc (by simp) _) (Nat.le_refl _) _) (by omega) _
      have K1:Hid (Lies ((((y.alloc (.cells #[.int .i64 0,.string ⟨#[]⟩,.int .u8 0,.int .u8 0,.int .u8 0,.int .u8 0,.int .u8 0,.int .u8 0,.int .u8 0,.int .u8 0,.int .u8 0,.int .u8 0,.int .u8 0,.int .u8 0,.int .u8 0,.int .u8 0,.int .u8 0,.int .u8 0] 25)).alloc (.cells #[.int .i64 0,.int .i64 0] 32)).setRow y.heap.size V).setRow (y.heap.size+1) #[.int .i64 (er:Int),.int .i64 (p:Int)]) w.heap.size #[.int .i64 0,.string ⟨#[]⟩,.int .u8 0,.int .u8 0,.int .u8 0,.int .u8 0,.int .u8 0,.int .u8 0,.int .u8 0,.int .u8 0,.int .u8 0,.int .u8 0,.int .u8 0,.int .u8 0,.int .u8 0,.int .u8 0,.int .u8 0,.int .u8 0] 25):=(L1.out.below hb2 L1.out.lt).below BB.out (by omega)
      have K2:Hid (Lies ((((y.alloc (.cells #[.int .i64 0,.string ⟨#[]⟩,.int .u8 0,.int .u8 0,.int .u8 0,.int .u8 0,.int .u8 0,.int .u8 0,.int .u8 0,.int .u8 0,.int .u8 0,.int .u8 0,.int .u8 0,.int .u8 0,.int .u8 0,.int .u8 0,.int .u8 0,.int .u8 0] 25)).alloc (.cells #[.int .i64 0,.int .i64 0] 32)).setRow y.heap.size V).setRow (y.heap.size+1) #[.int .i64 (er:Int),.int .i64 (p:Int)]) (w.heap.size+1) #[.int .i64 0,.int .i64 0] 32):=(L2.out.below hb2 L2.out.lt).below BB.out hgt
      have KX:Hid (Below w.heap.size w ((((y.alloc (.cells #[.int .i64 0,.string ⟨#[]⟩,.int .u8 0,.int .u8 0,.int .u8 0,.int .u8 0,.int .u8 0,.int .u8 0,.int .u8 0,.int .u8 0,.int .u8 0,.int .u8 0,.int .u8 0,.int .u8 0,.int .u8 0,.int .u8 0,.int .u8 0,.int .u8 0] 25)).alloc (.cells #[.int .i64 0,.int .i64 0] 32)).setRow y.heap.size V).setRow (y.heap.size+1) #[.int .i64 (er:Int),.int .i64 (p:Int)])):=(KB.out.trans (hb2.mono KB.out.size)).trans (BB.out.mono (by omega))
      clear hb2 HP2 L1 L2 KB
      go_upto_region 10 with(first|(refine wpList_store_row rfl 25 _ _ rfl y.heap.size rfl _ V rfl 25 A.out (by rw[hVz];exact infoHo) (by rw[hVz];rfl) hVo rfl ?_)|(refine wpList_store_row rfl 32 _ _ rfl (y.heap.size+1) rfl _ #[.int .i64 (er:Int),.int .i64 (p:Int)] rfl 32 (B.out.row_other (by omega) _) infoSp rfl (by simp[Value.oneCell']) rfl ?_))
      generalize hv:(((y.alloc (.cells #[.int .i64 0,.string ⟨#[]⟩,.int .u8 0,.int .u8 0,.int .u8 0,.int .u8 0,.int .u8 0,.int .u8 0,.int .u8 0,.int .u8 0,.int .u8 0,.int .u8 0,.int .u8 0,.int .u8 0,.int .u8 0,.int .u8 0,.int .u8 0,.int .u8 0] 25)).alloc (.cells #[.int .i64 0,.int .i64 0] 32)).setRow y.heap.size V).setRow (y.heap.size+1) #[.int .i64 (er:Int),.int .i64 (p:Int)]=v1 at M1 N1 K1 K2 KX ⊢
      clear hv A B BB
      generalize y.heap.size=g at hgt M1 N1 ⊢
      have c0:=N1.out.cell 0
      have c1:=N1.out.cell 1
      simp at c0 c1
      by_cases he:er=0
      ·have heb:((er:Int) != 0)=false:=by rw[he];rfl
       have hp1:=hp0 he
       have HXX:Hid (hsV a X=.tuple #[.agg V,.int .i64 (i:Int),.agg #[.int .i64 0,.int .i64 0]]):=by
        show _=_
        rw[HX2.out,if_pos he,hsV,HVX.out,show a+(i - a)=i from by omega]<;>rfl
       clear HX2 he hpl hp0 HVX hp1
       go_wp2_with (first|(refine wpList_load_row rfl 25 _ rfl g rfl V 25 _ M1.out Tryz.underlying25 rfl (by rw[hVz];exact infoHo) ?_)|(refine wpList_store_row rfl 25 _ _ rfl w.heap.size rfl _ V rfl 25 K1.out (by rw[hVz];exact infoHo) (by rw[hVz];rfl) hVo rfl ?_)|(refine wpList_store_row rfl 32 _ _ rfl (w.heap.size+1) rfl _ #[.int .i64 0,.int .i64 0] rfl 32 (K2.out.row_other (by omega) _) infoSp rfl (by simp[Value.oneCell']) rfl ?_))
       refine bodyPost_ret (results_cvc (p:=6) (q:=7) (r:=8) (by kernel_rfl) _ _ w.heap.size (w.heap.size+1) V #[.int .i64 0,.int .i64 0] _ _ (.int .i64 (i:Int)) rfl rfl rfl ((K1.out.row _).row_other (by omega) _) ((K2.out.row_other (by omega) _).row _) Tryz.underlying25 rfl (by rw[hVz];exact infoHo) Tryz.underlying32 rfl infoSp) rfl ⟨by rw[HXX.out],below_row (below_row KX.out (Nat.le_refl _) _) (by omega) _⟩
      ·have heb:((er:Int) != 0)=true:=by rw[bne_iff_ne];omega
       have hpb:=hpl he
       have HXX:Hid (hsV a X=.tuple #[.agg #[.int .i64 0,.string ⟨#[]⟩,.int .u8 0,.int .u8 0,.int .u8 0,.int .u8 0,.int .u8 0,.int .u8 0,.int .u8 0,.int .u8 0,.int .u8 0,.int .u8 0,.int .u8 0,.int .u8 0,.int .u8 0,.int .u8 0,.int .u8 0,.int .u8 0],.int .i64 0,.agg #[.int .i64 (er:Int),.int .i64 ((a:Int)+(p:Int))]]):=by
        show _=_
        rw[HX2.out,if_neg he,hsV]
        rfl
       clear HX2 he hpl hp0 HVX
       go_upto_region 11 with fail
       have hS0:v1.drew.cell? ⟨g+1,0,none⟩=some (.int .i64 (er:Int))∧v1.drew.cell? ⟨g+1,1,none⟩=some (.int .i64 (p:Int)):=⟨c0,c1⟩
       refine wp_region_late (fun wx=>wx.cell? ⟨g+1,0,none⟩=some (.int .i64 (er:Int))∧wx.cell? ⟨g+1,1,none⟩=some (.int .i64 (p:Int))) 11 (by kernel_rfl) hS0 (fun hHeld=>?_)
       refine tk9 0 (some 66) (.agg #[.int .i64 0,.string ⟨#[]⟩,.int .u8 0,.int .u8 0,.int .u8 0,.int .u8 0,.int .u8 0,.int .u8 0,.int .u8 0,.int .u8 0,.int .u8 0,.int .u8 0,.int .u8 0,.int .u8 0,.int .u8 0,.int .u8 0,.int .u8 0,.int .u8 0]) ?_
       simp only[Act.put,pA,pB,pC]
       refine tk9 1 (some 67) (.pointer (some ⟨g+1,0,none⟩)) ?_
       simp only[Act.put,pA,pB,pC]
       refine tk9 2 (some 68) (.int .i64 (er:Int)) ?_
       simp only[Act.put,pA,pB,pC]
       refine tk9 3 (some 69) (.int .i64 (a:Int)) ?_
       simp only[Act.put,pA,pB,pC]
       refine tk9 4 (some 70) (.pointer (some ⟨g+1,1,none⟩)) ?_
       simp only[Act.put,pA,pB,pC]
       refine tk9 5 (some 71) (.int .i64 (p:Int)) ?_
       simp only[Act.put,pA,pB,pC]
       refine tk9 6 (some 72) (.int .i64 ((a:Int)+(p:Int))) ?_ (hy:=?hy)
       case hy=>(intro w' hSw;(try dsimp only at hSw);go_simp<;>(first|with_reducible rfl|omega|(rw[IntKind.wrap_i64];omega)|skip))
       simp only[Act.put,pA,pB,pC]
       refine tk9 7 (some 73) (.agg #[.int .i64 (er:Int),.int .i64 ((a:Int)+(p:Int))]) ?_
       simp only[Act.put,pA,pB,pC]
       refine on9 8 ?_
       refine oper_store_row 25 _ _ rfl w.heap.size rfl #[.int .i64 0,.string ⟨#[]⟩,.int .u8 0,.int .u8 0,.int .u8 0,.int .u8 0,.int .u8 0,.int .u8 0,.int .u8 0,.int .u8 0,.int .u8 0,.int .u8 0,.int .u8 0,.int .u8 0,.int .u8 0,.int .u8 0,.int .u8 0,.int .u8 0] #[.int .i64 0,.string ⟨#[]⟩,.int .u8 0,.int .u8 0,.int .u8 0,.int .u8 0,.int .u8 0,.int .u8 0,.int .u8 0,.int .u8 0,.int .u8 0,.int .u8 0,.int .u8 0,.int .u8 0,.int .u8 0,.int .u8 0,.int .u8 0,.int .u8 0] rfl 25 K1.out.drew infoHo rfl (by simp[Value.oneCell']) rfl ?_
       have hS1:(v1.drew.setRow w.heap.size #[.int .i64 0,.string ⟨#[]⟩,.int .u8 0,.int .u8 0,.int .u8 0,.int .u8 0,.int .u8 0,.int .u8 0,.int .u8 0,.int .u8 0,.int .u8 0,.int .u8 0,.int .u8 0,.int .u8 0,.int .u8 0,.int .u8 0,.int .u8 0,.int .u8 0]).cell? ⟨g+1,0,none⟩=some (.int .i64 (er:Int))∧(v1.drew.setRow w.heap.size #[.int .i64 0,.string ⟨#[]⟩,.int .u8 0,.int .u8 0,.int .u8 0,.int .u8 0,.int .u8 0,.int .u8 0,.int .u8 0,.int .u8 0,.int .u8 0,.int .u8 0,.int .u8 0,.int .u8 0,.int .u8 0,.int .u8 0,.int .u8 0,.int .u8 0]).cell? ⟨g+1,1,none⟩=some (.int .i64 (p:Int)):=⟨(N1.out.drew.row_other (show g+1≠w.heap.size by omega) _).cell 0,(N1.out.drew.row_other (show g+1≠w.heap.size by omega) _).cell 1⟩
       refine⟨Or.inr hS1,?_⟩
       refine tk9 9 (some 7) (.int .i64 0) ?_
       simp only[Act.put,pA,pB,pC]
       refine on9 10 ?_
       refine oper_store_row 32 _ _ rfl (w.heap.size+1) rfl #[.int .i64 0,.int .i64 0] #[.int .i64 (er:Int),.int .i64 ((a:Int)+(p:Int))] rfl 32 (K2.out.drew.row_other (by omega) _) infoSp rfl (by simp[Value.oneCell']) rfl ?_
       refine⟨Or.inr ⟨((N1.out.drew.row_other (show g+1≠w.heap.size by omega) _).row_other (show g+1≠w.heap.size+1 by omega) _).cell 0,((N1.out.drew.row_other (show g+1≠w.heap.size by omega) _).row_other (show g+1≠w.heap.size+1 by omega) _).cell 1⟩,?_⟩
       refine wpAnyE_done (by kernel_rfl) ?_ _
       clear hHeld hS0 hS1
       go_wp2
       refine bodyPost_ret (results_cvc (p:=6) (q:=7) (r:=8) (by kernel_rfl) _ _ w.heap.size (w.heap.size+1) #[.int .i64 0,.string ⟨#[]⟩,.int .u8 0,.int .u8 0,.int .u8 0,.int .u8 0,.int .u8 0,.int .u8 0,.int .u8 0,.int .u8 0,.int .u8 0,.int .u8 0,.int .u8 0,.int .u8 0,.int .u8 0,.int .u8 0,.int .u8 0,.int .u8 0] #[.int .i64 (er:Int),.int .i64 ((a:Int)+(p:Int))] _ _ (.int .i64 0) rfl rfl rfl ((K1.out.drew.row _).row_other (by omega) _) ((K2.out.drew.row_other (by omega) _).row _) Tryz.underlying25 rfl infoHo Tryz.underlying32 rfl infoSp) rfl ⟨by rw[HXX.out],below_row (below_row KX.out.drew (Nat.le_refl _) _) (by omega) _⟩
     |false=>
      rw[hst']at HS1
      have HA2:Hid (AllF (notB stopB) s a (i+1)):=HA.out.step hl (by unfold notB;rw[hst'];rfl)
      have HS2:Hid (Calls Tryz.prog 91 #[.string ⟨#[60,62,44,58,64,32]⟩,.int .u8 (s[i].toNat:Int)] wA fun e w'=>e=.returned (.bool false)∧w'=wA):=HS1
      clear HA HS1 hst'
      go_wp2_with fail
      refine HS2.out.mono ?_
      rintro e w1 ⟨rfl,rfl⟩
      go_wp2_with fail
      go_roundw
      case rel=>exact⟨i+1,by omega,by omega,by go_num,HA2,trivial⟩
      case measure=>simp[intOf];omega
    ·have hl':¬(i:Int)<(s.size:Int):=by omega
     have HN:Hid (hstN (s.data.toList.drop a)=i - a):=by
      show _=_
      unfold hstN
      rw[if_neg HH.out]
      exact HA.out.sp2 hai (by omega) (fun h=>absurd h hl)
     clear HA HH HHAS
     go_upto_region 9 with fail
     obtain⟨t,ht⟩:∃t,t=s.extract a (i):=⟨_,rfl⟩
     have htx:s.extract a (i)=t:=ht.symm
     have htl:t.data.toList=(s.data.toList.drop a).take (i - a):=by rw[ht,ext_list,List.drop_take]
     have hts:t.size=i - a:=by
      rw[←len_list,htl,List.length_take,List.length_drop,len_list]
      omega
     have HX2:Hid (X=if (parse t.data.toList wide).2.1=0 then .ok ((parse t.data.toList wide).1,i - a) else .error (parse t.data.toList wide).2):=by
      show _=_
      rw[HX.out]
      unfold hst
      rw[HN.out,←htl]
     obtain⟨b1,b2⟩:=back_text t.data.toList wide
     have HP1:Hid (Calls Tryz.prog 92 #[.string t,.bool wide] wA fun e w'=>e=.returned (.tuple #[hostV (parse t.data.toList wide).1,.agg (spotV (parse t.data.toList wide).2)])∧Below wA.heap.size wA w'):=HPA.out t wide _ KB.out
     obtain⟨x,er,p,hq⟩:∃x er p,parse t.data.toList wide=(x,(er,p)):=⟨_,_,_,rfl⟩
     rw[hq]at HX2 b1 b2 HP1
     dsimp only at HX2 b1 b2 HP1
     have hxl:x.a.length=16:=by
      by_cases he:er=0
      ·exact(b1 he).2.2.2.1.len
      ·rw[(b2 he).1];rfl
     have hpl:er≠0→p≤i - a:=fun he=>by
      have:=(b2 he).2
      rw[len_list,hts]at this
      exact this
     have hp0:er=0→p=0:=fun he=>by
      have:=(b1 he).1
      injection this
     obtain⟨V,hV⟩:∃V,V=hostC x:=⟨_,rfl⟩
     have hVz:V.size=18:=by rw[hV];exact hostC_size x hxl
     have hVo:V.all (·.oneCell')=true:=by rw[hV];exact hostC_one x
     have HP2:Hid (Calls Tryz.prog 92 #[.string t,.bool wide] wA fun e w'=>e=.returned (.tuple #[.agg V,.agg #[.int .i64 (er:Int),.int .i64 (p:Int)]])∧Below wA.heap.size wA w'):=by
      rw[hV]
      exact HP1.out
     have HVX:Hid (V=hostC x):=hV
     have hae':(a:Int)≤(i:Int):=by omega
     have hes':(i:Int)≤(s.size:Int):=by omega
     clear b1 b2 HP1 hq hV htl hts ht HX HN HPA
     go_wp2_with fail
     refine HP2.out.mono ?_
     rintro e y ⟨rfl,hb2⟩
     have hgt:w.heap.size+1<y.heap.size:=Nat.lt_of_lt_of_le L2.out.lt hb2.size
     have A:Hid (Lies ((y.alloc (.cells #[.int .i64 0,.string ⟨#[]⟩,.int .u8 0,.int .u8 0,.int .u8 0,.int .u8 0,.int .u8 0,.int .u8 0,.int .u8 0,.int .u8 0,.int .u8 0,.int .u8 0,.int .u8 0,.int .u8 0,.int .u8 0,.int .u8 0,.int .u8 0,.int .u8 0] 25)).alloc (.cells #[.int .i64 0,.int .i64 0] 32)) y.heap.size #[.int .i64 0,.string ⟨#[]⟩,.int .u8 0,.int .u8 0,.int .u8 0,.int .u8 0,.int .u8 0,.int .u8 0,.int .u8 0,.int .u8 0,.int .u8 0,.int .u8 0,.int .u8 0,.int .u8 0,.int .u8 0,.int .u8 0,.int .u8 0,.int .u8 0] 25):=(Lies.new y _ _).alloc _
     have B:Hid (Lies ((y.alloc (.cells #[.int .i64 0,.string ⟨#[]⟩,.int .u8 0,.int .u8 0,.int .u8 0,.int .u8 0,.int .u8 0,.int .u8 0,.int .u8 0,.int .u8 0,.int .u8 0,.int .u8 0,.int .u8 0,.int .u8 0,.int .u8 0,.int .u8 0,.int .u8 0,.int .u8 0] 25)).alloc (.cells #[.int .i64 0,.int .i64 0] 32)) (y.heap.size+1) #[.int .i64 0,.int .i64 0] 32):=new_one y _ _ _
     have M1:Hid (Lies ((((y.alloc (.cells #[.int .i64 0,.string ⟨#[]⟩,.int .u8 0,.int .u8 0,.int .u8 0,.int .u8 0,.int .u8 0,.int .u8 0,.int .u8 0,.int .u8 0,.int .u8 0,.int .u8 0,.int .u8 0,.int .u8 0,.int .u8 0,.int .u8 0,.int .u8 0,.int .u8 0] 25)).alloc (.cells #[.int .i64 0,.int .i64 0] 32)).setRow y.heap.size V).setRow (y.heap.size+1) #[.int .i64 (er:Int),.int .i64 (p:Int)]) y.heap.size V 25):=(A.out.row _).row_other (by omega) _
     have N1:Hid (Lies ((((y.alloc (.cells #[.int .i64 0,.string ⟨#[]⟩,.int .u8 0,.int .u8 0,.int .u8 0,.int .u8 0,.int .u8 0,.int .u8 0,.int .u8 0,.int .u8 0,.int .u8 0,.int .u8 0,.int .u8 0,.int .u8 0,.int .u8 0,.int .u8 0,.int .u8 0,.int .u8 0] 25)).alloc (.cells #[.int .i64 0,.int .i64 0] 32)).setRow y.heap.size V).setRow (y.heap.size+1) #[.int .i64 (er:Int),.int .i64 (p:Int)]) (y.heap.size+1) #[.int .i64 (er:Int),.int .i64 (p:Int)] 32):=(B.out.row_other (by omega) _).row _
     have BB:Hid (Below y.heap.size y ((((y.alloc (.cells #[.int .i64 0,.string ⟨#[]⟩,.int .u8 0,.int .u8 0,.int .u8 0,.int .u8 0,.int .u8 0,.int .u8 0,.int .u8 0,.int .u8 0,.int .u8 0,.int .u8 0,.int .u8 0,.int .u8 0,.int .u8 0,.int .u8 0,.int .u8 0,.int .u8 0] 25)).alloc (.cells #[.int .i64 0,.int .i64 0] 32)).setRow y.heap.size V).setRow (y.heap.size+1) #[.int .i64 (er:Int),.int .i64 (p:Int)])):=below_row (below_row (((Below.refl _ _).alloc (Nat.le_refl _) _).alloc (by simp) _) (Nat.le_refl _) _) (by omega) _
     have K1:Hid (Lies ((((y.alloc (.cells #[.int .i64 0,.string ⟨#[]⟩,.int .u8 0,.int .u8 0,.int .u8 0,.int .u8 0,.int .u8 0,.int .u8 0,.int .u8 0,.int .u8 0,.int .u8 0,.int .u8 0,.int .u8 0,.int .u8 0,.int .u8 0,.int .u8 0,.int .u8 0,.int .u8 0] 25)).alloc (.cells #[.int .i64 0,.int .i64 0] 32)).setRow y.heap.size V).setRow (y.heap.size+1) #[.int .i64 (er:Int),.int .i64 (p:Int)]) w.heap.size #[.int .i64 0,.string ⟨#[]⟩,.int .u8 0,.int .u8 0,.int .u8 0,.int .u8 0,.int .u8 0,.int .u8 0,.int .u8 0,.int .u8 0,.int .u8 0,.int .u8 0,.int .u8 0,.int .u8 0,.int .u8 0,.int .u8 0,.int .u8 0,.int .u8 0] 25):=(L1.out.below hb2 L1.out.lt).below BB.out (by omega)
     have K2:Hid (Lies ((((y.alloc (.cells #[.int .i64 0,.string ⟨#[]⟩,.int .u8 0,.int .u8 0,.int .u8 0,.int .u8 0,.int .u8 0,.int .u8 0,.int .u8 0,.int .u8 0,.int .u8 0,.int .u8 0,.int .u8 0,.int .u8 0,.int .u8 0,.int .u8 0,.int .u8 0,.int .u8 0] 25)).alloc (.cells #[.int .i64 0,.int .i64 0] 32)).setRow y.heap.size V).setRow (y.heap.size+1) #[.int .i64 (er:Int),.int .i64 (p:Int)]) (w.heap.size+1) #[.int .i64 0,.int .i64 0] 32):=(L2.out.below hb2 L2.out.lt).below BB.out hgt
     have KX:Hid (Below w.heap.size w ((((y.alloc (.cells #[.int .i64 0,.string ⟨#[]⟩,.int .u8 0,.int .u8 0,.int .u8 0,.int .u8 0,.int .u8 0,.int .u8 0,.int .u8 0,.int .u8 0,.int .u8 0,.int .u8 0,.int .u8 0,.int .u8 0,.int .u8 0,.int .u8 0,.int .u8 0,.int .u8 0] 25)).alloc (.cells #[.int .i64 0,.int .i64 0] 32)).setRow y.heap.size V).setRow (y.heap.size+1) #[.int .i64 (er:Int),.int .i64 (p:Int)])):=(KB.out.trans (hb2.mono KB.out.size)).trans (BB.out.mono (by omega))
     clear hb2 HP2 L1 L2 KB
     go_upto_region 10 with(first|(refine wpList_store_row rfl 25 _ _ rfl y.heap.size rfl _ V rfl 25 A.out (by rw[hVz];exact infoHo) (by rw[hVz];rfl) hVo rfl ?_)|(refine wpList_store_row rfl 32 _ _ rfl (y.heap.size+1) rfl _ #[.int .i64 (er:Int),.int .i64 (p:Int)] rfl 32 (B.out.row_other (by omega) _) infoSp rfl (by simp[Value.oneCell']) rfl ?_))
     generalize hv:(((y.alloc (.cells #[.int .i64 0,.string ⟨#[]⟩,.int .u8 0,.int .u8 0,.int .u8 0,.int .u8 0,.int .u8 0,.int .u8 0,.int .u8 0,.int .u8 0,.int .u8 0,.int .u8 0,.int .u8 0,.int .u8 0,.int .u8 0,.int .u8 0,.int .u8 0,.int .u8 0] 25)).alloc (.cells #[.int .i64 0,.int .i64 0] 32)).setRow y.heap.size V).setRow (y.heap.size+1) #[.int .i64 (er:Int),.int .i64 (p:Int)]=v1 at M1 N1 K1 K2 KX ⊢
     clear hv A B BB
     generalize y.heap.size=g at hgt M1 N1 ⊢
     have c0:=N1.out.cell 0
     have c1:=N1.out.cell 1
     simp at c0 c1
     by_cases he:er=0
     ·have heb:((er:Int) != 0)=false:=by rw[he];rfl
      have hp1:=hp0 he
      have HXX:Hid (hsV a X=.tuple #[.agg V,.int .i64 (i:Int),.agg #[.int .i64 0,.int .i64 0]]):=by
       show _=_
       rw[HX2.out,if_pos he,hsV,HVX.out,show a+(i - a)=i from by omega]<;>rfl
      clear HX2 he hpl hp0 HVX hp1
      go_wp2_with (first|(refine wpList_load_row rfl 25 _ rfl g rfl V 25 _ M1.out Tryz.underlying25 rfl (by rw[hVz];exact infoHo) ?_)|(refine wpList_store_row rfl 25 _ _ rfl w.heap.size rfl _ V rfl 25 K1.out (by rw[hVz];exact infoHo) (by rw[hVz];rfl) hVo rfl ?_)|(refine wpList_store_row rfl 32 _ _ rfl (w.heap.size+1) rfl _ #[.int .i64 0,.int .i64 0] rfl 32 (K2.out.row_other (by omega) _) infoSp rfl (by simp[Value.oneCell']) rfl ?_))
      refine bodyPost_ret (results_cvc (p:=6) (q:=7) (r:=8) (by kernel_rfl) _ _ w.heap.size (w.heap.size+1) V #[.int .i64 0,.int .i64 0] _ _ (.int .i64 (i:Int)) rfl rfl rfl ((K1.out.row _).row_other (by omega) _) ((K2.out.row_other (by omega) _).row _) Tryz.underlying25 rfl (by rw[hVz];exact infoHo) Tryz.underlying32 rfl infoSp) rfl ⟨by rw[HXX.out],below_row (below_row KX.out (Nat.le_refl _) _) (by omega) _⟩
     ·have heb:((er:Int) != 0)=true:=by rw[bne_iff_ne];omega
      have hpb:=hpl he
      have HXX:Hid (hsV a X=.tuple #[.agg #[.int .i64 0,.string ⟨#[]⟩,.int .u8 0,.int .u8 0,.int .u8 0,.int .u8 0,.int .u8 0,.int .u8 0,.int .u8 0,.int .u8 0,.int .u8 0,.int .u8 0,.int .u8 0,.int .u8 0,.int .u8 0,.int .u8 0,.int .u8 0,.int .u8 0],.int .i64 0,.agg #[.int .i64 (er:Int),.int .i64 ((a:Int)+(p:Int))]]):=by
       show _=_
       rw[HX2.out,if_neg he,hsV]
       rfl
      clear HX2 he hpl hp0 HVX
      go_upto_region 11 with fail
      have hS0:v1.drew.cell? ⟨g+1,0,none⟩=some (.int .i64 (er:Int))∧v1.drew.cell? ⟨g+1,1,none⟩=some (.int .i64 (p:Int)):=⟨c0,c1⟩
      refine wp_region_late (fun wx=>wx.cell? ⟨g+1,0,none⟩=some (.int .i64 (er:Int))∧wx.cell? ⟨g+1,1,none⟩=some (.int .i64 (p:Int))) 11 (by kernel_rfl) hS0 (fun hHeld=>?_)
      refine tk9 0 (some 66) (.agg #[.int .i64 0,.string ⟨#[]⟩,.int .u8 0,.int .u8 0,.int .u8 0,.int .u8 0,.int .u8 0,.int .u8 0,.int .u8 0,.int .u8 0,.int .u8 0,.int .u8 0,.int .u8 0,.int .u8 0,.int .u8 0,.int .u8 0,.int .u8 0,.int .u8 0]) ?_
      simp only[Act.put,pA,pB,pC]
      refine tk9 1 (some 67) (.pointer (some ⟨g+1,0,none⟩)) ?_
      simp only[Act.put,pA,pB,pC]
      refine tk9 2 (some 68) (.int .i64 (er:Int)) ?_
      simp only[Act.put,pA,pB,pC]
      refine tk9 3 (some 69) (.int .i64 (a:Int)) ?_
      simp only[Act.put,pA,pB,pC]
      refine tk9 4 (some 70) (.pointer (some ⟨g+1,1,none⟩)) ?_
      simp only[Act.put,pA,pB,pC]
      refine tk9 5 (some 71) (.int .i64 (p:Int)) ?_
      simp only[Act.put,pA,pB,pC]
      refine tk9 6 (some 72) (.int .i64 ((a:Int)+(p:Int))) ?_ (hy:=?hy)
      case hy=>(intro w' hSw;(try dsimp only at hSw);go_simp<;>(first|with_reducible rfl|omega|(rw[IntKind.wrap_i64];omega)|skip))
      simp only[Act.put,pA,pB,pC]
      refine tk9 7 (some 73) (.agg #[.int .i64 (er:Int),.int .i64 ((a:Int)+(p:Int))]) ?_
      simp only[Act.put,pA,pB,pC]
      refine on9 8 ?_
      refine oper_store_row 25 _ _ rfl w.heap.size rfl #[.int .i64 0,.string ⟨#[]⟩,.int .u8 0,.int .u8 0,.int .u8 0,.int .u8 0,.int .u8 0,.int .u8 0,.int .u8 0,.int .u8 0,.int .u8 0,.int .u8 0,.int .u8 0,.int .u8 0,.int .u8 0,.int .u8 0,.int .u8 0,.int .u8 0] #[.int .i64 0,.string ⟨#[]⟩,.int .u8 0,.int .u8 0,.int .u8 0,.int .u8 0,.int .u8 0,.int .u8 0,.int .u8 0,.int .u8 0,.int .u8 0,.int .u8 0,.int .u8 0,.int .u8 0,.int .u8 0,.int .u8 0,.int .u8 0,.int .u8 0] rfl 25 K1.out.drew infoHo rfl (by simp[Value.oneCell']) rfl ?_
      have hS1:(v1.drew.setRow w.heap.size #[.int .i64 0,.string ⟨#[]⟩,.int .u8 0,.int .u8 0,.int .u8 0,.int .u8 0,.int .u8 0,.int .u8 0,.int .u8 0,.int .u8 0,.int .u8 0,.int .u8 0,.int .u8 0,.int .u8 0,.int .u8 0,.int .u8 0,.int .u8 0,.int .u8 0]).cell? ⟨g+1,0,none⟩=some (.int .i64 (er:Int))∧(v1.drew.setRow w.heap.size #[.int .i64 0,.string ⟨#[]⟩,.int .u8 0,.int .u8 0,.int .u8 0,.int .u8 0,.int .u8 0,.int .u8 0,.int .u8 0,.int .u8 0,.int .u8 0,.int .u8 0,.int .u8 0,.int .u8 0,.int .u8 0,.int .u8 0,.int .u8 0,.int .u8 0]).cell? ⟨g+1,1,none⟩=some (.int .i64 (p:Int)):=⟨(N1.out.drew.row_other (show g+1≠w.heap.size by omega) _).cell 0,(N1.out.drew.row_other (show g+1≠w.heap.size by omega) _).cell 1⟩
      refine⟨Or.inr hS1,?_⟩
      refine tk9 9 (some 7) (.int .i64 0) ?_
      simp only[Act.put,pA,pB,pC]
      refine on9 10 ?_
      refine oper_store_row 32 _ _ rfl (w.heap.size+1) rfl #[.int .i64 0,.int .i64 0] #[.int .i64 (er:Int),.int .i64 ((a:Int)+(p:Int))] rfl 32 (K2.out.drew.row_other (by omega) _) infoSp rfl (by simp[Value.oneCell']) rfl ?_
      refine⟨Or.inr ⟨((N1.out.drew.row_other (show g+1≠w.heap.size by omega) _).row_other (show g+1≠w.heap.size+1 by omega) _).cell 0,((N1.out.drew.row_other (show g+1≠w.heap.size by omega) _).row_other (show g+1≠w.heap.size+1 by omega) _).cell 1⟩,?_⟩
      refine wpAnyE_done (by kernel_rfl) ?_ _
      clear hHeld hS0 hS1
      go_wp2
      refine bodyPost_ret (results_cvc (p:=6) (q:=7) (r:=8) (by kernel_rfl) _ _ w.heap.size (w.heap.size+1) #[.int .i64 0,.string ⟨#[]⟩,.int .u8 0,.int .u8 0,.int .u8 0,.int .u8 0,.int .u8 0,.int .u8 0,.int .u8 0,.int .u8 0,.int .u8 0,.int .u8 0,.int .u8 0,.int .u8 0,.int .u8 0,.int .u8 0,.int .u8 0,.int .u8 0] #[.int .i64 (er:Int),.int .i64 ((a:Int)+(p:Int))] _ _ (.int .i64 0) rfl rfl rfl ((K1.out.drew.row _).row_other (by omega) _) ((K2.out.drew.row_other (by omega) _).row _) Tryz.underlying25 rfl infoHo Tryz.underlying32 rfl infoSp) rfl ⟨by rw[HXX.out],below_row (below_row KX.out.drew (Nat.le_refl _) _) (by omega) _⟩
  ·have hl0':¬(a:Int)<(s.size:Int):=by omega
   go_wp2_with fail
   go_loopw [9] (fun c wr=>∃i:Nat,a≤i∧i≤s.size∧c=.int .i64 i∧Hid (AllF (notB stopB) s a i)∧Hid (wr=wA)) (fun c _=>s.size - (intOf c).toNat)
   case atStart=>exact⟨a,Nat.le_refl _,ha,rfl,AllF.none _ _ _,rfl⟩
   case round=>
    obtain⟨i,hai,hi,rfl,HA,HV⟩:=hrel
    obtain rfl:wA=wr:=HV.out.symm
    clear HV
    by_cases hl:i<s.size
    ·exact absurd hl (by omega)
    ·have hl':¬(i:Int)<(s.size:Int):=by omega
     have HN:Hid (hstN (s.data.toList.drop a)=i - a):=by
      show _=_
      unfold hstN
      rw[if_neg HH.out]
      exact HA.out.sp2 hai (by omega) (fun h=>absurd h hl)
     clear HA HH HHAS
     go_upto_region 9 with fail
     obtain⟨t,ht⟩:∃t,t=s.extract a (i):=⟨_,rfl⟩
     have htx:s.extract a (i)=t:=ht.symm
     have htl:t.data.toList=(s.data.toList.drop a).take (i - a):=by rw[ht,ext_list,List.drop_take]
     have hts:t.size=i - a:=by
      rw[←len_list,htl,List.length_take,List.length_drop,len_list]
      omega
     have HX2:Hid (X=if (parse t.data.toList wide).2.1=0 then .ok ((parse t.data.toList wide).1,i - a) else .error (parse t.data.toList wide).2):=by
      show _=_
      rw[HX.out]
      unfold hst
      rw[HN.out,←htl]
     obtain⟨b1,b2⟩:=back_text t.data.toList wide
     have HP1:Hid (Calls Tryz.prog 92 #[.string t,.bool wide] wA fun e w'=>e=.returned (.tuple #[hostV (parse t.data.toList wide).1,.agg (spotV (parse t.data.toList wide).2)])∧Below wA.heap.size wA w'):=HPA.out t wide _ KB.out
     obtain⟨x,er,p,hq⟩:∃x er p,parse t.data.toList wide=(x,(er,p)):=⟨_,_,_,rfl⟩
     rw[hq]at HX2 b1 b2 HP1
     dsimp only at HX2 b1 b2 HP1
     have hxl:x.a.length=16:=by
      by_cases he:er=0
      ·exact(b1 he).2.2.2.1.len
      ·rw[(b2 he).1];rfl
     have hpl:er≠0→p≤i - a:=fun he=>by
      have:=(b2 he).2
      rw[len_list,hts]at this
      exact this
     have hp0:er=0→p=0:=fun he=>by
      have:=(b1 he).1
      injection this
     obtain⟨V,hV⟩:∃V,V=hostC x:=⟨_,rfl⟩
     have hVz:V.size=18:=by rw[hV];exact hostC_size x hxl
     have hVo:V.all (·.oneCell')=true:=by rw[hV];exact hostC_one x
     have HP2:Hid (Calls Tryz.prog 92 #[.string t,.bool wide] wA fun e w'=>e=.returned (.tuple #[.agg V,.agg #[.int .i64 (er:Int),.int .i64 (p:Int)]])∧Below wA.heap.size wA w'):=by
      rw[hV]
      exact HP1.out
     have HVX:Hid (V=hostC x):=hV
     have hae':(a:Int)≤(i:Int):=by omega
     have hes':(i:Int)≤(s.size:Int):=by omega
     clear b1 b2 HP1 hq hV htl hts ht HX HN HPA
     go_wp2_with fail
     refine HP2.out.mono ?_
     rintro e y ⟨rfl,hb2⟩
     have hgt:w.heap.size+1<y.heap.size:=Nat.lt_of_lt_of_le L2.out.lt hb2.size
     have A:Hid (Lies ((y.alloc (.cells #[.int .i64 0,.string ⟨#[]⟩,.int .u8 0,.int .u8 0,.int .u8 0,.int .u8 0,.int .u8 0,.int .u8 0,.int .u8 0,.int .u8 0,.int .u8 0,.int .u8 0,.int .u8 0,.int .u8 0,.int .u8 0,.int .u8 0,.int .u8 0,.int .u8 0] 25)).alloc (.cells #[.int .i64 0,.int .i64 0] 32)) y.heap.size #[.int .i64 0,.string ⟨#[]⟩,.int .u8 0,.int .u8 0,.int .u8 0,.int .u8 0,.int .u8 0,.int .u8 0,.int .u8 0,.int .u8 0,.int .u8 0,.int .u8 0,.int .u8 0,.int .u8 0,.int .u8 0,.int .u8 0,.int .u8 0,.int .u8 0] 25):=(Lies.new y _ _).alloc _
     have B:Hid (Lies ((y.alloc (.cells #[.int .i64 0,.string ⟨#[]⟩,.int .u8 0,.int .u8 0,.int .u8 0,.int .u8 0,.int .u8 0,.int .u8 0,.int .u8 0,.int .u8 0,.int .u8 0,.int .u8 0,.int .u8 0,.int .u8 0,.int .u8 0,.int .u8 0,.int .u8 0,.int .u8 0] 25)).alloc (.cells #[.int .i64 0,.int .i64 0] 32)) (y.heap.size+1) #[.int .i64 0,.int .i64 0] 32):=new_one y _ _ _
     have M1:Hid (Lies ((((y.alloc (.cells #[.int .i64 0,.string ⟨#[]⟩,.int .u8 0,.int .u8 0,.int .u8 0,.int .u8 0,.int .u8 0,.int .u8 0,.int .u8 0,.int .u8 0,.int .u8 0,.int .u8 0,.int .u8 0,.int .u8 0,.int .u8 0,.int .u8 0,.int .u8 0,.int .u8 0] 25)).alloc (.cells #[.int .i64 0,.int .i64 0] 32)).setRow y.heap.size V).setRow (y.heap.size+1) #[.int .i64 (er:Int),.int .i64 (p:Int)]) y.heap.size V 25):=(A.out.row _).row_other (by omega) _
     have N1:Hid (Lies ((((y.alloc (.cells #[.int .i64 0,.string ⟨#[]⟩,.int .u8 0,.int .u8 0,.int .u8 0,.int .u8 0,.int .u8 0,.int .u8 0,.int .u8 0,.int .u8 0,.int .u8 0,.int .u8 0,.int .u8 0,.int .u8 0,.int .u8 0,.int .u8 0,.int .u8 0,.int .u8 0] 25)).alloc (.cells #[.int .i64 0,.int .i64 0] 32)).setRow y.heap.size V).setRow (y.heap.size+1) #[.int .i64 (er:Int),.int .i64 (p:Int)]) (y.heap.size+1) #[.int .i64 (er:Int),.int .i64 (p:Int)] 32):=(B.out.row_other (by omega) _).row _
     have BB:Hid (Below y.heap.size y ((((y.alloc (.cells #[.int .i64 0,.string ⟨#[]⟩,.int .u8 0,.int .u8 0,.int .u8 0,.int .u8 0,.int .u8 0,.int .u8 0,.int .u8 0,.int .u8 0,.int .u8 0,.int .u8 0,.int .u8 0,.int .u8 0,.int .u8 0,.int .u8 0,.int .u8 0,.int .u8 0] 25)).alloc (.cells #[.int .i64 0,.int .i64 0] 32)).setRow y.heap.size V).setRow (y.heap.size+1) #[.int .i64 (er:Int),.int .i64 (p:Int)])):=below_row (below_row (((Below.refl _ _).alloc (Nat.le_refl _) _).alloc (by simp) _) (Nat.le_refl _) _) (by omega) _
     have K1:Hid (Lies ((((y.alloc (.cells #[.int .i64 0,.string ⟨#[]⟩,.int .u8 0,.int .u8 0,.int .u8 0,.int .u8 0,.int .u8 0,.int .u8 0,.int .u8 0,.int .u8 0,.int .u8 0,.int .u8 0,.int .u8 0,.int .u8 0,.int .u8 0,.int .u8 0,.int .u8 0,.int .u8 0] 25)).alloc (.cells #[.int .i64 0,.int .i64 0] 32)).setRow y.heap.size V).setRow (y.heap.size+1) #[.int .i64 (er:Int),.int .i64 (p:Int)]) w.heap.size #[.int .i64 0,.string ⟨#[]⟩,.int .u8 0,.int .u8 0,.int .u8 0,.int .u8 0,.int .u8 0,.int .u8 0,.int .u8 0,.int .u8 0,.int .u8 0,.int .u8 0,.int .u8 0,.int .u8 0,.int .u8 0,.int .u8 0,.int .u8 0,.int .u8 0] 25):=(L1.out.below hb2 L1.out.lt).below BB.out (by omega)
     have K2:Hid (Lies ((((y.alloc (.cells #[.int .i64 0,.string ⟨#[]⟩,.int .u8 0,.int .u8 0,.int .u8 0,.int .u8 0,.int .u8 0,.int .u8 0,.int .u8 0,.int .u8 0,.int .u8 0,.int .u8 0,.int .u8 0,.int .u8 0,.int .u8 0,.int .u8 0,.int .u8 0,.int .u8 0] 25)).alloc (.cells #[.int .i64 0,.int .i64 0] 32)).setRow y.heap.size V).setRow (y.heap.size+1) #[.int .i64 (er:Int),.int .i64 (p:Int)]) (w.heap.size+1) #[.int .i64 0,.int .i64 0] 32):=(L2.out.below hb2 L2.out.lt).below BB.out hgt
     have KX:Hid (Below w.heap.size w ((((y.alloc (.cells #[.int .i64 0,.string ⟨#[]⟩,.int .u8 0,.int .u8 0,.int .u8 0,.int .u8 0,.int .u8 0,.int .u8 0,.int .u8 0,.int .u8 0,.int .u8 0,.int .u8 0,.int .u8 0,.int .u8 0,.int .u8 0,.int .u8 0,.int .u8 0,.int .u8 0] 25)).alloc (.cells #[.int .i64 0,.int .i64 0] 32)).setRow y.heap.size V).setRow (y.heap.size+1) #[.int .i64 (er:Int),.int .i64 (p:Int)])):=(KB.out.trans (hb2.mono KB.out.size)).trans (BB.out.mono (by omega))
     clear hb2 HP2 L1 L2 KB
     go_upto_region 10 with(first|(refine wpList_store_row rfl 25 _ _ rfl y.heap.size rfl _ V rfl 25 A.out (by rw[hVz];exact infoHo) (by rw[hVz];rfl) hVo rfl ?_)|(refine wpList_store_row rfl 32 _ _ rfl (y.heap.size+1) rfl _ #[.int .i64 (er:Int),.int .i64 (p:Int)] rfl 32 (B.out.row_other (by omega) _) infoSp rfl (by simp[Value.oneCell']) rfl ?_))
     generalize hv:(((y.alloc (.cells #[.int .i64 0,.string ⟨#[]⟩,.int .u8 0,.int .u8 0,.int .u8 0,.int .u8 0,.int .u8 0,.int .u8 0,.int .u8 0,.int .u8 0,.int .u8 0,.int .u8 0,.int .u8 0,.int .u8 0,.int .u8 0,.int .u8 0,.int .u8 0,.int .u8 0] 25)).alloc (.cells #[.int .i64 0,.int .i64 0] 32)).setRow y.heap.size V).setRow (y.heap.size+1) #[.int .i64 (er:Int),.int .i64 (p:Int)]=v1 at M1 N1 K1 K2 KX ⊢
     clear hv A B BB
     generalize y.heap.size=g at hgt M1 N1 ⊢
     have c0:=N1.out.cell 0
     have c1:=N1.out.cell 1
     simp at c0 c1
     by_cases he:er=0
     ·have heb:((er:Int) != 0)=false:=by rw[he];rfl
      have hp1:=hp0 he
      have HXX:Hid (hsV a X=.tuple #[.agg V,.int .i64 (i:Int),.agg #[.int .i64 0,.int .i64 0]]):=by
       show _=_
       rw[HX2.out,if_pos he,hsV,HVX.out,show a+(i - a)=i from by omega]<;>rfl
      clear HX2 he hpl hp0 HVX hp1
      go_wp2_with (first|(refine wpList_load_row rfl 25 _ rfl g rfl V 25 _ M1.out Tryz.underlying25 rfl (by rw[hVz];exact infoHo) ?_)|(refine wpList_store_row rfl 25 _ _ rfl w.heap.size rfl _ V rfl 25 K1.out (by rw[hVz];exact infoHo) (by rw[hVz];rfl) hVo rfl ?_)|(refine wpList_store_row rfl 32 _ _ rfl (w.heap.size+1) rfl _ #[.int .i64 0,.int .i64 0] rfl 32 (K2.out.row_other (by omega) _) infoSp rfl (by simp[Value.oneCell']) rfl ?_))
      refine bodyPost_ret (results_cvc (p:=6) (q:=7) (r:=8) (by kernel_rfl) _ _ w.heap.size (w.heap.size+1) V #[.int .i64 0,.int .i64 0] _ _ (.int .i64 (i:Int)) rfl rfl rfl ((K1.out.row _).row_other (by omega) _) ((K2.out.row_other (by omega) _).row _) Tryz.underlying25 rfl (by rw[hVz];exact infoHo) Tryz.underlying32 rfl infoSp) rfl ⟨by rw[HXX.out],below_row (below_row KX.out (Nat.le_refl _) _) (by omega) _⟩
     ·have heb:((er:Int) != 0)=true:=by rw[bne_iff_ne];omega
      have hpb:=hpl he
      have HXX:Hid (hsV a X=.tuple #[.agg #[.int .i64 0,.string ⟨#[]⟩,.int .u8 0,.int .u8 0,.int .u8 0,.int .u8 0,.int .u8 0,.int .u8 0,.int .u8 0,.int .u8 0,.int .u8 0,.int .u8 0,.int .u8 0,.int .u8 0,.int .u8 0,.int .u8 0,.int .u8 0,.int .u8 0],.int .i64 0,.agg #[.int .i64 (er:Int),.int .i64 ((a:Int)+(p:Int))]]):=by
       show _=_
       rw[HX2.out,if_neg he,hsV]
       rfl
      clear HX2 he hpl hp0 HVX
      go_upto_region 11 with fail
      have hS0:v1.drew.cell? ⟨g+1,0,none⟩=some (.int .i64 (er:Int))∧v1.drew.cell? ⟨g+1,1,none⟩=some (.int .i64 (p:Int)):=⟨c0,c1⟩
      refine wp_region_late (fun wx=>wx.cell? ⟨g+1,0,none⟩=some (.int .i64 (er:Int))∧wx.cell? ⟨g+1,1,none⟩=some (.int .i64 (p:Int))) 11 (by kernel_rfl) hS0 (fun hHeld=>?_)
      refine tk9 0 (some 66) (.agg #[.int .i64 0,.string ⟨#[]⟩,.int .u8 0,.int .u8 0,.int .u8 0,.int .u8 0,.int .u8 0,.int .u8 0,.int .u8 0,.int .u8 0,.int .u8 0,.int .u8 0,.int .u8 0,.int .u8 0,.int .u8 0,.int .u8 0,.int .u8 0,.int .u8 0]) ?_
      simp only[Act.put,pA,pB,pC]
      refine tk9 1 (some 67) (.pointer (some ⟨g+1,0,none⟩)) ?_
      simp only[Act.put,pA,pB,pC]
      refine tk9 2 (some 68) (.int .i64 (er:Int)) ?_
      simp only[Act.put,pA,pB,pC]
      refine tk9 3 (some 69) (.int .i64 (a:Int)) ?_
      simp only[Act.put,pA,pB,pC]
      refine tk9 4 (some 70) (.pointer (some ⟨g+1,1,none⟩)) ?_
      simp only[Act.put,pA,pB,pC]
      refine tk9 5 (some 71) (.int .i64 (p:Int)) ?_
      simp only[Act.put,pA,pB,pC]
      refine tk9 6 (some 72) (.int .i64 ((a:Int)+(p:Int))) ?_ (hy:=?hy)
      case hy=>(intro w' hSw;(try dsimp only at hSw);go_simp<;>(first|with_reducible rfl|omega|(rw[IntKind.wrap_i64];omega)|skip))
      simp only[Act.put,pA,pB,pC]
      refine tk9 7 (some 73) (.agg #[.int .i64 (er:Int),.int .i64 ((a:Int)+(p:Int))]) ?_
      simp only[Act.put,pA,pB,pC]
      refine on9 8 ?_
      refine oper_store_row 25 _ _ rfl w.heap.size rfl #[.int .i64 0,.string ⟨#[]⟩,.int .u8 0,.int .u8 0,.int .u8 0,.int .u8 0,.int .u8 0,.int .u8 0,.int .u8 0,.int .u8 0,.int .u8 0,.int .u8 0,.int .u8 0,.int .u8 0,.int .u8 0,.int .u8 0,.int .u8 0,.int .u8 0] #[.int .i64 0,.string ⟨#[]⟩,.int .u8 0,.int .u8 0,.int .u8 0,.int .u8 0,.int .u8 0,.int .u8 0,.int .u8 0,.int .u8 0,.int .u8 0,.int .u8 0,.int .u8 0,.int .u8 0,.int .u8 0,.int .u8 0,.int .u8 0,.int .u8 0] rfl 25 K1.out.drew infoHo rfl (by simp[Value.oneCell']) rfl ?_
      have hS1:(v1.drew.setRow w.heap.size #[.int .i64 0,.string ⟨#[]⟩,.int .u8 0,.int .u8 0,.int .u8 0,.int .u8 0,.int .u8 0,.int .u8 0,.int .u8 0,.int .u8 0,.int .u8 0,.int .u8 0,.int .u8 0,.int .u8 0,.int .u8 0,.int .u8 0,.int .u8 0,.int .u8 0]).cell? ⟨g+1,0,none⟩=some (.int .i64 (er:Int))∧(v1.drew.setRow w.heap.size #[.int .i64 0,.string ⟨#[]⟩,.int .u8 0,.int .u8 0,.int .u8 0,.int .u8 0,.int .u8 0,.int .u8 0,.int .u8 0,.int .u8 0,.int .u8 0,.int .u8 0,.int .u8 0,.int .u8 0,.int .u8 0,.int .u8 0,.int .u8 0,.int .u8 0]).cell? ⟨g+1,1,none⟩=some (.int .i64 (p:Int)):=⟨(N1.out.drew.row_other (show g+1≠w.heap.size by omega) _).cell 0,(N1.out.drew.row_other (show g+1≠w.heap.size by omega) _).cell 1⟩
      refine⟨Or.inr hS1,?_⟩
      refine tk9 9 (some 7) (.int .i64 0) ?_
      simp only[Act.put,pA,pB,pC]
      refine on9 10 ?_
      refine oper_store_row 32 _ _ rfl (w.heap.size+1) rfl #[.int .i64 0,.int .i64 0] #[.int .i64 (er:Int),.int .i64 ((a:Int)+(p:Int))] rfl 32 (K2.out.drew.row_other (by omega) _) infoSp rfl (by simp[Value.oneCell']) rfl ?_
      refine⟨Or.inr ⟨((N1.out.drew.row_other (show g+1≠w.heap.size by omega) _).row_other (show g+1≠w.heap.size+1 by omega) _).cell 0,((N1.out.drew.row_other (show g+1≠w.heap.size by omega) _).row_other (show g+1≠w.heap.size+1 by omega) _).cell 1⟩,?_⟩
      refine wpAnyE_done (by kernel_rfl) ?_ _
      clear hHeld hS0 hS1
      go_wp2
      refine bodyPost_ret (results_cvc (p:=6) (q:=7) (r:=8) (by kernel_rfl) _ _ w.heap.size (w.heap.size+1) #[.int .i64 0,.string ⟨#[]⟩,.int .u8 0,.int .u8 0,.int .u8 0,.int .u8 0,.int .u8 0,.int .u8 0,.int .u8 0,.int .u8 0,.int .u8 0,.int .u8 0,.int .u8 0,.int .u8 0,.int .u8 0,.int .u8 0,.int .u8 0,.int .u8 0] #[.int .i64 (er:Int),.int .i64 ((a:Int)+(p:Int))] _ _ (.int .i64 0) rfl rfl rfl ((K1.out.drew.row _).row_other (by omega) _) ((K2.out.drew.row_other (by omega) _).row _) Tryz.underlying25 rfl infoHo Tryz.underlying32 rfl infoSp) rfl ⟨by rw[HXX.out],below_row (below_row KX.out.drew (Nat.le_refl _) _) (by omega) _⟩
end Go.Proofs.YtfjpkfhbmldmfaaGreatDoor
