/-
  The document's box.
-/
import Derived.Test.YtfjpkfhbmldmfaaGreatDoorQe9
namespace Go.Proofs.YtfjpkfhbmldmfaaGreatDoor
open Go.RowKit
theorem infoBx:(Tryz.prog.info? 27).map (·.size)=some 19:=by kernel_rfl
def boxC (l:List UInt8) (h:Ho):Array Value:=#[.string (txt l)]++hostC h
theorem boxC_size (l:List UInt8) (h:Ho) (ha:h.a.length=16):(boxC l h).size=19:=by
 unfold boxC
 rw[Array.size_append,hostC_size h ha]
 rfl
theorem boxC_one (l:List UInt8) (h:Ho):(boxC l h).all (·.oneCell')=true:=by
 have:=hostC_one h
 unfold boxC
 rw[Array.all_append,this]
 simp[Value.oneCell']
theorem boxC_zero:boxC [] ho0=#[.string ⟨#[]⟩,.int .i64 0,.string ⟨#[]⟩,.int .u8 0,.int .u8 0,.int .u8 0,.int .u8 0,.int .u8 0,.int .u8 0,.int .u8 0,.int .u8 0,.int .u8 0,.int .u8 0,.int .u8 0,.int .u8 0,.int .u8 0,.int .u8 0,.int .u8 0,.int .u8 0]:=rfl
set_option maxHeartbeats 8000000 in
set_option maxRecDepth 100000 in
theorem build_box (M:ByteArray) (V:Array Value) (hV:V.size=18):Array.foldl (fun (cs:Array Value) (x:Value×Nat)=>cs.setIfInBounds (1+x.snd) x.fst) #[.string M,.int .i64 0,.string ⟨#[]⟩,.int .u8 0,.int .u8 0,.int .u8 0,.int .u8 0,.int .u8 0,.int .u8 0,.int .u8 0,.int .u8 0,.int .u8 0,.int .u8 0,.int .u8 0,.int .u8 0,.int .u8 0,.int .u8 0,.int .u8 0,.int .u8 0] V.zipIdx 0 18=#[.string M]++V:=by
 obtain⟨l⟩:=V
 match l,hV with
 |[a0,a1,a2,a3,a4,a5,a6,a7,a8,a9,a10,a11,a12,a13,a14,a15,a16,a17],_=>first|kernel_rfl|(simp)
def bxV (a:Nat):Except (Nat×Nat) ((List UInt8×Ho)×Nat)→Value
 | .ok ((l,h),n)=>.tuple #[.agg (boxC l h),.int .i64 (a+n:Nat),.agg #[.int .i64 0,.int .i64 0]]
 | .error (e,p)=>.tuple #[.agg #[.string ⟨#[]⟩,.int .i64 0,.string ⟨#[]⟩,.int .u8 0,.int .u8 0,.int .u8 0,.int .u8 0,.int .u8 0,.int .u8 0,.int .u8 0,.int .u8 0,.int .u8 0,.int .u8 0,.int .u8 0,.int .u8 0,.int .u8 0,.int .u8 0,.int .u8 0,.int .u8 0],.int .i64 0,.agg #[.int .i64 (e:Nat),.int .i64 (a+p:Nat)]]
set_option maxHeartbeats 16000000 in
set_option maxRecDepth 100000 in
theorem qbox_any (hbad:DBadOk) (s:ByteArray) (a:Nat) (ha:a≤s.size) (hs:s.size≤140737488351232) (wide:Bool) (w:World) (hpa:RParseOk w):
  Calls Tryz.prog 39 #[.string s,.int .i64 (a:Nat),.bool wide] w fun e w'=>e=.returned (bxV a (bx wide (s.data.toList.drop a)))∧Below w.heap.size w w':=by
 have HLC:Hid (∀wx,Below w.heap.size w wx→Calls Tryz.prog 66 #[.string s,.int .i64 (a:Nat),.bool wide] wx fun e w'=>e=.returned (lcV a (lcl wide (s.data.toList.drop a)))∧Below wx.heap.size wx w'):=fun wx _=>qlocal_any hbad s a ha hs wide wx
 have HHO:Hid (∀b,b≤s.size→∀wx,Below w.heap.size w wx→Calls Tryz.prog 67 #[.string s,.int .i64 (b:Nat),.bool wide] wx fun e w'=>e=.returned (hsV b (hst wide (s.data.toList.drop b)))∧Below wx.heap.size wx w'):=fun b hb wx hx=>qhost_any s b hb hs wide wx (hpa.later hx)
 obtain⟨X,hX⟩:∃X,X=bx wide (s.data.toList.drop a):=⟨_,rfl⟩
 rw[←hX]
 have HX:Hid (X=bx wide (s.data.toList.drop a)):=hX
 have L1:Hid (Lies ((w.alloc (.cells #[.string ⟨#[]⟩,.int .i64 0,.string ⟨#[]⟩,.int .u8 0,.int .u8 0,.int .u8 0,.int .u8 0,.int .u8 0,.int .u8 0,.int .u8 0,.int .u8 0,.int .u8 0,.int .u8 0,.int .u8 0,.int .u8 0,.int .u8 0,.int .u8 0,.int .u8 0,.int .u8 0] 27)).alloc (.cells #[.int .i64 0,.int .i64 0] 32)) w.heap.size #[.string ⟨#[]⟩,.int .i64 0,.string ⟨#[]⟩,.int .u8 0,.int .u8 0,.int .u8 0,.int .u8 0,.int .u8 0,.int .u8 0,.int .u8 0,.int .u8 0,.int .u8 0,.int .u8 0,.int .u8 0,.int .u8 0,.int .u8 0,.int .u8 0,.int .u8 0,.int .u8 0] 27):=(Lies.new w _ _).alloc _
 have L2:Hid (Lies ((w.alloc (.cells #[.string ⟨#[]⟩,.int .i64 0,.string ⟨#[]⟩,.int .u8 0,.int .u8 0,.int .u8 0,.int .u8 0,.int .u8 0,.int .u8 0,.int .u8 0,.int .u8 0,.int .u8 0,.int .u8 0,.int .u8 0,.int .u8 0,.int .u8 0,.int .u8 0,.int .u8 0,.int .u8 0] 27)).alloc (.cells #[.int .i64 0,.int .i64 0] 32)) (w.heap.size+1) #[.int .i64 0,.int .i64 0] 32):=new_one w _ _ _
 have KB:Hid (Below w.heap.size w ((w.alloc (.cells #[.string ⟨#[]⟩,.int .i64 0,.string ⟨#[]⟩,.int .u8 0,.int .u8 0,.int .u8 0,.int .u8 0,.int .u8 0,.int .u8 0,.int .u8 0,.int .u8 0,.int .u8 0,.int .u8 0,.int .u8 0,.int .u8 0,.int .u8 0,.int .u8 0,.int .u8 0,.int .u8 0] 27)).alloc (.cells #[.int .i64 0,.int .i64 0] 32))):=((Below.refl _ _).alloc (Nat.le_refl _) _).alloc (by simp) _
 clear hX hpa hbad
 go_enter Tryz.func39,Tryz.ntmps39
 go_upto_region 1 with fail
 generalize (w.alloc (.cells #[.string ⟨#[]⟩,.int .i64 0,.string ⟨#[]⟩,.int .u8 0,.int .u8 0,.int .u8 0,.int .u8 0,.int .u8 0,.int .u8 0,.int .u8 0,.int .u8 0,.int .u8 0,.int .u8 0,.int .u8 0,.int .u8 0,.int .u8 0,.int .u8 0,.int .u8 0,.int .u8 0] 27)).alloc (.cells #[.int .i64 0,.int .i64 0] 32)=wA at L1 L2 KB ⊢
 cases hl:lcl wide (s.data.toList.drop a) with
 |error x=>
  obtain⟨er,p0⟩:=x
  have he:=(lcl_err hl).1
  obtain⟨p,hp⟩:∃p,p=a+p0:=⟨_,rfl⟩
  have HXX:Hid (bxV a X=.tuple #[.agg #[.string ⟨#[]⟩,.int .i64 0,.string ⟨#[]⟩,.int .u8 0,.int .u8 0,.int .u8 0,.int .u8 0,.int .u8 0,.int .u8 0,.int .u8 0,.int .u8 0,.int .u8 0,.int .u8 0,.int .u8 0,.int .u8 0,.int .u8 0,.int .u8 0,.int .u8 0,.int .u8 0],.int .i64 0,.agg #[.int .i64 (er:Int),.int .i64 (p:Int)]]):=by
   show _=_
   rw[HX.out]
   unfold bx
   rw[hl]
   dsimp only
   rw[bxV,hp]
  have HL1:Hid (Calls Tryz.prog 66 #[.string s,.int .i64 (a:Nat),.bool wide] wA fun e w'=>e=.returned (.tuple #[.string ⟨#[]⟩,.int .i64 0,.agg #[.int .i64 (er:Int),.int .i64 (p:Int)]])∧Below wA.heap.size wA w'):=by
   have:=HLC.out wA KB.out
   rw[hl,lcV,←hp]at this
   exact this
  have heb:((er:Int) != 0)=true:=by rw[bne_iff_ne];omega
  clear HX HLC HHO hl hp he
  go_wp2_with fail
  refine HL1.out.mono ?_
  rintro e w2 ⟨rfl,hb2⟩
  clear HL1
  have L1n:Hid (Lies (w2.alloc (.cells #[.int .i64 (er:Int),.int .i64 (p:Int)] 32)) w.heap.size #[.string ⟨#[]⟩,.int .i64 0,.string ⟨#[]⟩,.int .u8 0,.int .u8 0,.int .u8 0,.int .u8 0,.int .u8 0,.int .u8 0,.int .u8 0,.int .u8 0,.int .u8 0,.int .u8 0,.int .u8 0,.int .u8 0,.int .u8 0,.int .u8 0,.int .u8 0,.int .u8 0] 27):=(L1.out.below hb2 L1.out.lt).alloc _
  have L2n:Hid (Lies (w2.alloc (.cells #[.int .i64 (er:Int),.int .i64 (p:Int)] 32)) (w.heap.size+1) #[.int .i64 0,.int .i64 0] 32):=(L2.out.below hb2 L2.out.lt).alloc _
  have K3:Hid (Lies (w2.alloc (.cells #[.int .i64 (er:Int),.int .i64 (p:Int)] 32)) w2.heap.size #[.int .i64 (er:Int),.int .i64 (p:Int)] 32):=Lies.new w2 _ _
  have KBn:Hid (Below w.heap.size w (w2.alloc (.cells #[.int .i64 (er:Int),.int .i64 (p:Int)] 32))):=(KB.out.trans (hb2.mono KB.out.size)).alloc (Nat.le_trans KB.out.size hb2.size) _
  have hz2:w.heap.size+1<w2.heap.size:=Nat.lt_of_lt_of_le L2.out.lt hb2.size
  clear hb2 L1 L2 KB
  have L1:=L1n
  have L2:=L2n
  have KB:=KBn
  clear L1n L2n KBn
  go_upto_region 2 with fail
  generalize (w2.alloc (.cells #[.int .i64 (er:Int),.int .i64 (p:Int)] 32))=w3 at L1 L2 K3 KB ⊢
  generalize w2.heap.size=g at hz2 K3 ⊢
  have hc1:=K3.out.cell 0
  have hc2:=K3.out.cell 1
  simp at hc1 hc2
  go_upto_region 3 with fail
  have hS0:w3.drew.cell? ⟨g,0,none⟩=some (.int .i64 (er:Int))∧w3.drew.cell? ⟨g,1,none⟩=some (.int .i64 (p:Int)):=⟨hc1,hc2⟩
  refine wp_region_late (fun wx=>wx.cell? ⟨g,0,none⟩=some (.int .i64 (er:Int))∧wx.cell? ⟨g,1,none⟩=some (.int .i64 (p:Int))) 5 (by kernel_rfl) hS0 (fun hHeld=>?_)
  refine tk9 0 (some 25) (.agg #[.string ⟨#[]⟩,.int .i64 0,.string ⟨#[]⟩,.int .u8 0,.int .u8 0,.int .u8 0,.int .u8 0,.int .u8 0,.int .u8 0,.int .u8 0,.int .u8 0,.int .u8 0,.int .u8 0,.int .u8 0,.int .u8 0,.int .u8 0,.int .u8 0,.int .u8 0,.int .u8 0]) ?_
  simp only[Act.put,pA,pB,pC]
  refine tk9 1 (some 26) (.agg #[.int .i64 (er:Int),.int .i64 (p:Int)]) ?_
  simp only[Act.put,pA,pB,pC]
  refine on9 2 ?_
  refine oper_store_row 27 _ _ rfl w.heap.size rfl #[.string ⟨#[]⟩,.int .i64 0,.string ⟨#[]⟩,.int .u8 0,.int .u8 0,.int .u8 0,.int .u8 0,.int .u8 0,.int .u8 0,.int .u8 0,.int .u8 0,.int .u8 0,.int .u8 0,.int .u8 0,.int .u8 0,.int .u8 0,.int .u8 0,.int .u8 0,.int .u8 0] #[.string ⟨#[]⟩,.int .i64 0,.string ⟨#[]⟩,.int .u8 0,.int .u8 0,.int .u8 0,.int .u8 0,.int .u8 0,.int .u8 0,.int .u8 0,.int .u8 0,.int .u8 0,.int .u8 0,.int .u8 0,.int .u8 0,.int .u8 0,.int .u8 0,.int .u8 0,.int .u8 0] rfl 27 L1.out.drew infoBx rfl (by simp[Value.oneCell']) rfl ?_
  have hS1:(w3.drew.setRow w.heap.size #[.string ⟨#[]⟩,.int .i64 0,.string ⟨#[]⟩,.int .u8 0,.int .u8 0,.int .u8 0,.int .u8 0,.int .u8 0,.int .u8 0,.int .u8 0,.int .u8 0,.int .u8 0,.int .u8 0,.int .u8 0,.int .u8 0,.int .u8 0,.int .u8 0,.int .u8 0,.int .u8 0]).cell? ⟨g,0,none⟩=some (.int .i64 (er:Int))∧(w3.drew.setRow w.heap.size #[.string ⟨#[]⟩,.int .i64 0,.string ⟨#[]⟩,.int .u8 0,.int .u8 0,.int .u8 0,.int .u8 0,.int .u8 0,.int .u8 0,.int .u8 0,.int .u8 0,.int .u8 0,.int .u8 0,.int .u8 0,.int .u8 0,.int .u8 0,.int .u8 0,.int .u8 0,.int .u8 0]).cell? ⟨g,1,none⟩=some (.int .i64 (p:Int)):=⟨(K3.out.drew.row_other (show g≠w.heap.size by omega) _).cell 0,(K3.out.drew.row_other (show g≠w.heap.size by omega) _).cell 1⟩
  refine⟨Or.inr hS1,?_⟩
  refine tk9 3 (some 7) (.int .i64 0) ?_
  simp only[Act.put,pA,pB,pC]
  refine on9 4 ?_
  refine oper_store_row 32 _ _ rfl (w.heap.size+1) rfl #[.int .i64 0,.int .i64 0] #[.int .i64 (er:Int),.int .i64 (p:Int)] rfl 32 (L2.out.drew.row_other (by omega) _) infoSp rfl (by simp[Value.oneCell']) rfl ?_
  refine⟨Or.inr ⟨((K3.out.drew.row_other (show g≠w.heap.size by omega) _).row_other (show g≠w.heap.size+1 by omega) _).cell 0,((K3.out.drew.row_other (show g≠w.heap.size by omega) _).row_other (show g≠w.heap.size+1 by omega) _).cell 1⟩,?_⟩
  refine wpAnyE_done (by kernel_rfl) ?_ _
  clear hHeld hS0 hS1
  go_wp2
  refine bodyPost_ret (results_cvc (p:=6) (q:=7) (r:=8) (by kernel_rfl) _ _ w.heap.size (w.heap.size+1) #[.string ⟨#[]⟩,.int .i64 0,.string ⟨#[]⟩,.int .u8 0,.int .u8 0,.int .u8 0,.int .u8 0,.int .u8 0,.int .u8 0,.int .u8 0,.int .u8 0,.int .u8 0,.int .u8 0,.int .u8 0,.int .u8 0,.int .u8 0,.int .u8 0,.int .u8 0,.int .u8 0] #[.int .i64 (er:Int),.int .i64 (p:Int)] _ _ (.int .i64 0) rfl rfl rfl ((L1.out.drew.row _).row_other (by omega) _) ((L2.out.drew.row_other (by omega) _).row _) Tryz.underlying27 rfl infoBx Tryz.underlying32 rfl infoSp) rfl ⟨by rw[HXX.out],below_row (below_row KB.out.drew (Nat.le_refl _) _) (by omega) _⟩
 |ok x=>
  obtain⟨l,n⟩:=x
  have hn:=(lcl_is hl).1
  rw[List.length_drop,len_list]at hn
  obtain⟨E,hE⟩:∃E,E=a+n:=⟨_,rfl⟩
  have hEs:E≤s.size:=by omega
  obtain⟨M,hM⟩:∃M,M=txt l:=⟨_,rfl⟩
  have HL1:Hid (Calls Tryz.prog 66 #[.string s,.int .i64 (a:Nat),.bool wide] wA fun e w'=>e=.returned (.tuple #[.string M,.int .i64 (E:Int),.agg #[.int .i64 0,.int .i64 0]])∧Below wA.heap.size wA w'):=by
   have:=HLC.out wA KB.out
   rw[hl,lcV,←hE,←hM]at this
   exact this
  have HX2:Hid (X=if (s.data.toList.drop E).head?=some 64 then (match hst wide (s.data.toList.drop (E+1)) with
    | .error (e,p)=>.error (e,n+1+p)
    | .ok (h,k)=>.ok ((l,h),n+1+k)) else .error (93,n)):=by
   show _=_
   rw[HX.out]
   unfold bx
   rw[hl]
   dsimp only
   rw[List.drop_drop,List.drop_drop,hE,Nat.add_assoc]
   rfl
  have HE:Hid (E=a+n):=hE
  have HM:Hid (M=txt l):=hM
  clear HX HLC hl hE hM hn
  go_wp2_with fail
  refine HL1.out.mono ?_
  rintro e w2 ⟨rfl,hb2⟩
  clear HL1
  have L1n:Hid (Lies (w2.alloc (.cells #[.int .i64 0,.int .i64 0] 32)) w.heap.size #[.string ⟨#[]⟩,.int .i64 0,.string ⟨#[]⟩,.int .u8 0,.int .u8 0,.int .u8 0,.int .u8 0,.int .u8 0,.int .u8 0,.int .u8 0,.int .u8 0,.int .u8 0,.int .u8 0,.int .u8 0,.int .u8 0,.int .u8 0,.int .u8 0,.int .u8 0,.int .u8 0] 27):=(L1.out.below hb2 L1.out.lt).alloc _
  have L2n:Hid (Lies (w2.alloc (.cells #[.int .i64 0,.int .i64 0] 32)) (w.heap.size+1) #[.int .i64 0,.int .i64 0] 32):=(L2.out.below hb2 L2.out.lt).alloc _
  have K3:Hid (Lies (w2.alloc (.cells #[.int .i64 0,.int .i64 0] 32)) w2.heap.size #[.int .i64 0,.int .i64 0] 32):=Lies.new w2 _ _
  have KBn:Hid (Below w.heap.size w (w2.alloc (.cells #[.int .i64 0,.int .i64 0] 32))):=(KB.out.trans (hb2.mono KB.out.size)).alloc (Nat.le_trans KB.out.size hb2.size) _
  have hz2:w.heap.size+1<w2.heap.size:=Nat.lt_of_lt_of_le L2.out.lt hb2.size
  clear hb2 L1 L2 KB
  have L1:=L1n
  have L2:=L2n
  have KB:=KBn
  clear L1n L2n KBn
  go_upto_region 2 with fail
  generalize (w2.alloc (.cells #[.int .i64 0,.int .i64 0] 32))=w3 at L1 L2 K3 KB ⊢
  generalize w2.heap.size=g at hz2 K3 ⊢
  have hc1:=K3.out.cell 0
  have hc2:=K3.out.cell 1
  simp at hc1 hc2
  by_cases h64:∃h:E<s.size,s[E]=64
  ·obtain⟨hlt,hc⟩:=h64
   have hlt':¬(s.size:Int)≤(E:Int):=by omega
   obtain⟨_,n64⟩:=b_eq s[E] 64 64 rfl
   rw[decide_eq_true hc]at n64
   have HX3:Hid (X=match hst wide (s.data.toList.drop (E+1)) with
    | .error (e,p)=>.error (e,n+1+p)
    | .ok (h,k)=>.ok ((l,h),n+1+k)):=by
    show _=_
    rw[HX2.out,if_pos (by rw[drop_at s E hlt,List.head?_cons,hc])]
   clear HX2 hc
   go_upto_region 6 with fail
   clear n64 hc1 hc2
   have HH1:=HHO.out (E+1) hlt w3 KB.out
   cases hh:hst wide (s.data.toList.drop (E+1)) with
   |error x=>
    obtain⟨er,p0⟩:=x
    have he:=(hst_err hh).1
    obtain⟨p,hp⟩:∃p,p=E+1+p0:=⟨_,rfl⟩
    have HXX:Hid (bxV a X=.tuple #[.agg #[.string ⟨#[]⟩,.int .i64 0,.string ⟨#[]⟩,.int .u8 0,.int .u8 0,.int .u8 0,.int .u8 0,.int .u8 0,.int .u8 0,.int .u8 0,.int .u8 0,.int .u8 0,.int .u8 0,.int .u8 0,.int .u8 0,.int .u8 0,.int .u8 0,.int .u8 0,.int .u8 0],.int .i64 0,.agg #[.int .i64 (er:Int),.int .i64 (p:Int)]]):=by
     show _=_
     rw[HX3.out,hh]
     dsimp only
     rw[bxV,hp,HE.out,show a+(n+1+p0)=a+n+1+p0 from by omega]
    obtain⟨V,hV⟩:∃V,V=hostC ho0:=⟨_,rfl⟩
    have hVz:V.size=18:=by rw[hV];rfl
    have hVo:V.all (·.oneCell')=true:=by rw[hV];exact hostC_one ho0
    have HH2:Hid (Calls Tryz.prog 67 #[.string s,.int .i64 ((E:Int)+1),.bool wide] w3 fun e w'=>e=.returned (.tuple #[.agg V,.int .i64 0,.agg #[.int .i64 (er:Int),.int .i64 (p:Int)]])∧Below w3.heap.size w3 w'):=by
     rw[hh,hsV,←hp]at HH1
     rw[hV]
     exact HH1
    have heb:((er:Int) != 0)=true:=by rw[bne_iff_ne];omega
    clear HX3 HH1 HHO hh hp he hV
    go_wp2_with fail
    refine HH2.out.mono ?_
    rintro e y ⟨rfl,hb2⟩
    clear HH2
    have gy:g<y.heap.size:=Nat.lt_of_lt_of_le K3.out.lt hb2.size
    have A:Hid (Lies (y.alloc (.cells #[.int .i64 0,.string ⟨#[]⟩,.int .u8 0,.int .u8 0,.int .u8 0,.int .u8 0,.int .u8 0,.int .u8 0,.int .u8 0,.int .u8 0,.int .u8 0,.int .u8 0,.int .u8 0,.int .u8 0,.int .u8 0,.int .u8 0,.int .u8 0,.int .u8 0] 25)) y.heap.size #[.int .i64 0,.string ⟨#[]⟩,.int .u8 0,.int .u8 0,.int .u8 0,.int .u8 0,.int .u8 0,.int .u8 0,.int .u8 0,.int .u8 0,.int .u8 0,.int .u8 0,.int .u8 0,.int .u8 0,.int .u8 0,.int .u8 0,.int .u8 0,.int .u8 0] 25):=Lies.new y _ _
    have GB:Hid (Lies ((y.alloc (.cells #[.int .i64 0,.string ⟨#[]⟩,.int .u8 0,.int .u8 0,.int .u8 0,.int .u8 0,.int .u8 0,.int .u8 0,.int .u8 0,.int .u8 0,.int .u8 0,.int .u8 0,.int .u8 0,.int .u8 0,.int .u8 0,.int .u8 0,.int .u8 0,.int .u8 0] 25)).setRow y.heap.size V) g #[.int .i64 0,.int .i64 0] 32):=((K3.out.below hb2 K3.out.lt).alloc _).row_other (by omega) _
    have M1:Hid (Lies (((y.alloc (.cells #[.int .i64 0,.string ⟨#[]⟩,.int .u8 0,.int .u8 0,.int .u8 0,.int .u8 0,.int .u8 0,.int .u8 0,.int .u8 0,.int .u8 0,.int .u8 0,.int .u8 0,.int .u8 0,.int .u8 0,.int .u8 0,.int .u8 0,.int .u8 0,.int .u8 0] 25)).setRow y.heap.size V).setRow g #[.int .i64 (er:Int),.int .i64 (p:Int)]) y.heap.size V 25):=(A.out.row _).row_other (by omega) _
    have K3n:Hid (Lies (((y.alloc (.cells #[.int .i64 0,.string ⟨#[]⟩,.int .u8 0,.int .u8 0,.int .u8 0,.int .u8 0,.int .u8 0,.int .u8 0,.int .u8 0,.int .u8 0,.int .u8 0,.int .u8 0,.int .u8 0,.int .u8 0,.int .u8 0,.int .u8 0,.int .u8 0,.int .u8 0] 25)).setRow y.heap.size V).setRow g #[.int .i64 (er:Int),.int .i64 (p:Int)]) g #[.int .i64 (er:Int),.int .i64 (p:Int)] 32):=GB.out.row _
    have L1n:Hid (Lies (((y.alloc (.cells #[.int .i64 0,.string ⟨#[]⟩,.int .u8 0,.int .u8 0,.int .u8 0,.int .u8 0,.int .u8 0,.int .u8 0,.int .u8 0,.int .u8 0,.int .u8 0,.int .u8 0,.int .u8 0,.int .u8 0,.int .u8 0,.int .u8 0,.int .u8 0,.int .u8 0] 25)).setRow y.heap.size V).setRow g #[.int .i64 (er:Int),.int .i64 (p:Int)]) w.heap.size #[.string ⟨#[]⟩,.int .i64 0,.string ⟨#[]⟩,.int .u8 0,.int .u8 0,.int .u8 0,.int .u8 0,.int .u8 0,.int .u8 0,.int .u8 0,.int .u8 0,.int .u8 0,.int .u8 0,.int .u8 0,.int .u8 0,.int .u8 0,.int .u8 0,.int .u8 0,.int .u8 0] 27):=(((L1.out.below hb2 L1.out.lt).alloc _).row_other (by omega) _).row_other (by omega) _
    have L2n:Hid (Lies (((y.alloc (.cells #[.int .i64 0,.string ⟨#[]⟩,.int .u8 0,.int .u8 0,.int .u8 0,.int .u8 0,.int .u8 0,.int .u8 0,.int .u8 0,.int .u8 0,.int .u8 0,.int .u8 0,.int .u8 0,.int .u8 0,.int .u8 0,.int .u8 0,.int .u8 0,.int .u8 0] 25)).setRow y.heap.size V).setRow g #[.int .i64 (er:Int),.int .i64 (p:Int)]) (w.heap.size+1) #[.int .i64 0,.int .i64 0] 32):=(((L2.out.below hb2 L2.out.lt).alloc _).row_other (by omega) _).row_other (by omega) _
    have KBn:Hid (Below w.heap.size w (((y.alloc (.cells #[.int .i64 0,.string ⟨#[]⟩,.int .u8 0,.int .u8 0,.int .u8 0,.int .u8 0,.int .u8 0,.int .u8 0,.int .u8 0,.int .u8 0,.int .u8 0,.int .u8 0,.int .u8 0,.int .u8 0,.int .u8 0,.int .u8 0,.int .u8 0,.int .u8 0] 25)).setRow y.heap.size V).setRow g #[.int .i64 (er:Int),.int .i64 (p:Int)])):=below_row (below_row ((KB.out.trans (hb2.mono KB.out.size)).alloc (Nat.le_trans KB.out.size hb2.size) _) (by omega) _) (by omega) _
    clear hb2 L1 L2 KB K3
    have L1:=L1n
    have L2:=L2n
    have KB:=KBn
    have K3:=K3n
    clear L1n L2n KBn K3n
    go_upto_region 7 with(first|(refine wpList_store_row rfl 25 _ _ rfl y.heap.size rfl _ V rfl 25 A.out (by rw[hVz];exact infoHo) (by rw[hVz];rfl) hVo rfl ?_)|(refine wpList_store_row rfl 32 _ _ rfl g rfl _ #[.int .i64 (er:Int),.int .i64 (p:Int)] rfl 32 GB.out infoSp rfl (by simp[Value.oneCell']) rfl ?_))
    generalize hv:(((y.alloc (.cells #[.int .i64 0,.string ⟨#[]⟩,.int .u8 0,.int .u8 0,.int .u8 0,.int .u8 0,.int .u8 0,.int .u8 0,.int .u8 0,.int .u8 0,.int .u8 0,.int .u8 0,.int .u8 0,.int .u8 0,.int .u8 0,.int .u8 0,.int .u8 0,.int .u8 0] 25)).setRow y.heap.size V).setRow g #[.int .i64 (er:Int),.int .i64 (p:Int)])=v1 at M1 K3 L1 L2 KB ⊢
    clear hv A GB
    generalize y.heap.size=gh at gy M1 ⊢
    have hc1:=K3.out.cell 0
    have hc2:=K3.out.cell 1
    simp at hc1 hc2
    go_upto_region 8 with fail
    have hS0:v1.drew.cell? ⟨g,0,none⟩=some (.int .i64 (er:Int))∧v1.drew.cell? ⟨g,1,none⟩=some (.int .i64 (p:Int)):=⟨hc1,hc2⟩
    refine wp_region_late (fun wx=>wx.cell? ⟨g,0,none⟩=some (.int .i64 (er:Int))∧wx.cell? ⟨g,1,none⟩=some (.int .i64 (p:Int))) 5 (by kernel_rfl) hS0 (fun hHeld=>?_)
    refine tk9 0 (some 52) (.agg #[.string ⟨#[]⟩,.int .i64 0,.string ⟨#[]⟩,.int .u8 0,.int .u8 0,.int .u8 0,.int .u8 0,.int .u8 0,.int .u8 0,.int .u8 0,.int .u8 0,.int .u8 0,.int .u8 0,.int .u8 0,.int .u8 0,.int .u8 0,.int .u8 0,.int .u8 0,.int .u8 0]) ?_
    simp only[Act.put,pA,pB,pC]
    refine tk9 1 (some 53) (.agg #[.int .i64 (er:Int),.int .i64 (p:Int)]) ?_
    simp only[Act.put,pA,pB,pC]
    refine on9 2 ?_
    refine oper_store_row 27 _ _ rfl w.heap.size rfl #[.string ⟨#[]⟩,.int .i64 0,.string ⟨#[]⟩,.int .u8 0,.int .u8 0,.int .u8 0,.int .u8 0,.int .u8 0,.int .u8 0,.int .u8 0,.int .u8 0,.int .u8 0,.int .u8 0,.int .u8 0,.int .u8 0,.int .u8 0,.int .u8 0,.int .u8 0,.int .u8 0] #[.string ⟨#[]⟩,.int .i64 0,.string ⟨#[]⟩,.int .u8 0,.int .u8 0,.int .u8 0,.int .u8 0,.int .u8 0,.int .u8 0,.int .u8 0,.int .u8 0,.int .u8 0,.int .u8 0,.int .u8 0,.int .u8 0,.int .u8 0,.int .u8 0,.int .u8 0,.int .u8 0] rfl 27 L1.out.drew infoBx rfl (by simp[Value.oneCell']) rfl ?_
    have hS1:(v1.drew.setRow w.heap.size #[.string ⟨#[]⟩,.int .i64 0,.string ⟨#[]⟩,.int .u8 0,.int .u8 0,.int .u8 0,.int .u8 0,.int .u8 0,.int .u8 0,.int .u8 0,.int .u8 0,.int .u8 0,.int .u8 0,.int .u8 0,.int .u8 0,.int .u8 0,.int .u8 0,.int .u8 0,.int .u8 0]).cell? ⟨g,0,none⟩=some (.int .i64 (er:Int))∧(v1.drew.setRow w.heap.size #[.string ⟨#[]⟩,.int .i64 0,.string ⟨#[]⟩,.int .u8 0,.int .u8 0,.int .u8 0,.int .u8 0,.int .u8 0,.int .u8 0,.int .u8 0,.int .u8 0,.int .u8 0,.int .u8 0,.int .u8 0,.int .u8 0,.int .u8 0,.int .u8 0,.int .u8 0,.int .u8 0]).cell? ⟨g,1,none⟩=some (.int .i64 (p:Int)):=⟨(K3.out.drew.row_other (show g≠w.heap.size by omega) _).cell 0,(K3.out.drew.row_other (show g≠w.heap.size by omega) _).cell 1⟩
    refine⟨Or.inr hS1,?_⟩
    refine tk9 3 (some 7) (.int .i64 0) ?_
    simp only[Act.put,pA,pB,pC]
    refine on9 4 ?_
    refine oper_store_row 32 _ _ rfl (w.heap.size+1) rfl #[.int .i64 0,.int .i64 0] #[.int .i64 (er:Int),.int .i64 (p:Int)] rfl 32 (L2.out.drew.row_other (by omega) _) infoSp rfl (by simp[Value.oneCell']) rfl ?_
    refine⟨Or.inr ⟨((K3.out.drew.row_other (show g≠w.heap.size by omega) _).row_other (show g≠w.heap.size+1 by omega) _).cell 0,((K3.out.drew.row_other (show g≠w.heap.size by omega) _).row_other (show g≠w.heap.size+1 by omega) _).cell 1⟩,?_⟩
    refine wpAnyE_done (by kernel_rfl) ?_ _
    clear hHeld hS0 hS1
    go_wp2
    refine bodyPost_ret (results_cvc (p:=6) (q:=7) (r:=8) (by kernel_rfl) _ _ w.heap.size (w.heap.size+1) #[.string ⟨#[]⟩,.int .i64 0,.string ⟨#[]⟩,.int .u8 0,.int .u8 0,.int .u8 0,.int .u8 0,.int .u8 0,.int .u8 0,.int .u8 0,.int .u8 0,.int .u8 0,.int .u8 0,.int .u8 0,.int .u8 0,.int .u8 0,.int .u8 0,.int .u8 0,.int .u8 0] #[.int .i64 (er:Int),.int .i64 (p:Int)] _ _ (.int .i64 0) rfl rfl rfl ((L1.out.drew.row _).row_other (by omega) _) ((L2.out.drew.row_other (by omega) _).row _) Tryz.underlying27 rfl infoBx Tryz.underlying32 rfl infoSp) rfl ⟨by rw[HXX.out],below_row (below_row KB.out.drew (Nat.le_refl _) _) (by omega) _⟩
   |ok x=>
    obtain⟨h,k⟩:=x
    obtain⟨_,hk,hpp,_⟩:=hst_is hh
    have hhl:=(host_ok hpp).1.len
    obtain⟨V,hV⟩:∃V,V=hostC h:=⟨_,rfl⟩
    have hVz:V.size=18:=by rw[hV];exact hostC_size h hhl
    have hVo:V.all (·.oneCell')=true:=by rw[hV];exact hostC_one h
    obtain⟨F,hF⟩:∃F,F=E+1+k:=⟨_,rfl⟩
    have HXX:Hid (bxV a X=.tuple #[.agg (#[.string M]++V),.int .i64 (F:Int),.agg #[.int .i64 0,.int .i64 0]]):=by
     show _=_
     rw[HX3.out,hh]
     dsimp only
     rw[bxV,hF,HE.out,show a+(n+1+k)=a+n+1+k from by omega,hV,HM.out]
     rfl
    have HH2:Hid (Calls Tryz.prog 67 #[.string s,.int .i64 ((E:Int)+1),.bool wide] w3 fun e w'=>e=.returned (.tuple #[.agg V,.int .i64 (F:Int),.agg #[.int .i64 0,.int .i64 0]])∧Below w3.heap.size w3 w'):=by
     rw[hh,hsV,←hF]at HH1
     rw[hV]
     exact HH1
    have HBB:Hid (Array.foldl (fun (cs:Array Value) (x:Value×Nat)=>cs.setIfInBounds (1+x.snd) x.fst) #[.string M,.int .i64 0,.string ⟨#[]⟩,.int .u8 0,.int .u8 0,.int .u8 0,.int .u8 0,.int .u8 0,.int .u8 0,.int .u8 0,.int .u8 0,.int .u8 0,.int .u8 0,.int .u8 0,.int .u8 0,.int .u8 0,.int .u8 0,.int .u8 0,.int .u8 0] V.zipIdx 0 18=#[.string M]++V):=build_box M V hVz
    obtain⟨D,hD⟩:∃D,D=#[.string M]++V:=⟨_,rfl⟩
    have hDz:D.size=19:=by rw[hD,Array.size_append,hVz];rfl
    have hDo:D.all (·.oneCell')=true:=by rw[hD,Array.all_append,hVo];simp[Value.oneCell']
    rw[←hD]at HXX HBB
    clear HX3 HH1 HHO hh hV hF hpp hhl hk hD
    go_wp2_with fail
    refine HH2.out.mono ?_
    rintro e y ⟨rfl,hb2⟩
    clear HH2
    have gy:g<y.heap.size:=Nat.lt_of_lt_of_le K3.out.lt hb2.size
    have A:Hid (Lies (y.alloc (.cells #[.int .i64 0,.string ⟨#[]⟩,.int .u8 0,.int .u8 0,.int .u8 0,.int .u8 0,.int .u8 0,.int .u8 0,.int .u8 0,.int .u8 0,.int .u8 0,.int .u8 0,.int .u8 0,.int .u8 0,.int .u8 0,.int .u8 0,.int .u8 0,.int .u8 0] 25)) y.heap.size #[.int .i64 0,.string ⟨#[]⟩,.int .u8 0,.int .u8 0,.int .u8 0,.int .u8 0,.int .u8 0,.int .u8 0,.int .u8 0,.int .u8 0,.int .u8 0,.int .u8 0,.int .u8 0,.int .u8 0,.int .u8 0,.int .u8 0,.int .u8 0,.int .u8 0] 25):=Lies.new y _ _
    have GB:Hid (Lies ((y.alloc (.cells #[.int .i64 0,.string ⟨#[]⟩,.int .u8 0,.int .u8 0,.int .u8 0,.int .u8 0,.int .u8 0,.int .u8 0,.int .u8 0,.int .u8 0,.int .u8 0,.int .u8 0,.int .u8 0,.int .u8 0,.int .u8 0,.int .u8 0,.int .u8 0,.int .u8 0] 25)).setRow y.heap.size V) g #[.int .i64 0,.int .i64 0] 32):=((K3.out.below hb2 K3.out.lt).alloc _).row_other (by omega) _
    have M1:Hid (Lies (((y.alloc (.cells #[.int .i64 0,.string ⟨#[]⟩,.int .u8 0,.int .u8 0,.int .u8 0,.int .u8 0,.int .u8 0,.int .u8 0,.int .u8 0,.int .u8 0,.int .u8 0,.int .u8 0,.int .u8 0,.int .u8 0,.int .u8 0,.int .u8 0,.int .u8 0,.int .u8 0] 25)).setRow y.heap.size V).setRow g #[.int .i64 0,.int .i64 0]) y.heap.size V 25):=(A.out.row _).row_other (by omega) _
    have K3n:Hid (Lies (((y.alloc (.cells #[.int .i64 0,.string ⟨#[]⟩,.int .u8 0,.int .u8 0,.int .u8 0,.int .u8 0,.int .u8 0,.int .u8 0,.int .u8 0,.int .u8 0,.int .u8 0,.int .u8 0,.int .u8 0,.int .u8 0,.int .u8 0,.int .u8 0,.int .u8 0,.int .u8 0] 25)).setRow y.heap.size V).setRow g #[.int .i64 0,.int .i64 0]) g #[.int .i64 0,.int .i64 0] 32):=GB.out.row _
    have L1n:Hid (Lies (((y.alloc (.cells #[.int .i64 0,.string ⟨#[]⟩,.int .u8 0,.int .u8 0,.int .u8 0,.int .u8 0,.int .u8 0,.int .u8 0,.int .u8 0,.int .u8 0,.int .u8 0,.int .u8 0,.int .u8 0,.int .u8 0,.int .u8 0,.int .u8 0,.int .u8 0,.int .u8 0] 25)).setRow y.heap.size V).setRow g #[.int .i64 0,.int .i64 0]) w.heap.size #[.string ⟨#[]⟩,.int .i64 0,.string ⟨#[]⟩,.int .u8 0,.int .u8 0,.int .u8 0,.int .u8 0,.int .u8 0,.int .u8 0,.int .u8 0,.int .u8 0,.int .u8 0,.int .u8 0,.int .u8 0,.int .u8 0,.int .u8 0,.int .u8 0,.int .u8 0,.int .u8 0] 27):=(((L1.out.below hb2 L1.out.lt).alloc _).row_other (by omega) _).row_other (by omega) _
    have L2n:Hid (Lies (((y.alloc (.cells #[.int .i64 0,.string ⟨#[]⟩,.int .u8 0,.int .u8 0,.int .u8 0,.int .u8 0,.int .u8 0,.int .u8 0,.int .u8 0,.int .u8 0,.int .u8 0,.int .u8 0,.int .u8 0,.int .u8 0,.int .u8 0,.int .u8 0,.int .u8 0,.int .u8 0] 25)).setRow y.heap.size V).setRow g #[.int .i64 0,.int .i64 0]) (w.heap.size+1) #[.int .i64 0,.int .i64 0] 32):=(((L2.out.below hb2 L2.out.lt).alloc _).row_other (by omega) _).row_other (by omega) _
    have KBn:Hid (Below w.heap.size w (((y.alloc (.cells #[.int .i64 0,.string ⟨#[]⟩,.int .u8 0,.int .u8 0,.int .u8 0,.int .u8 0,.int .u8 0,.int .u8 0,.int .u8 0,.int .u8 0,.int .u8 0,.int .u8 0,.int .u8 0,.int .u8 0,.int .u8 0,.int .u8 0,.int .u8 0,.int .u8 0] 25)).setRow y.heap.size V).setRow g #[.int .i64 0,.int .i64 0])):=below_row (below_row ((KB.out.trans (hb2.mono KB.out.size)).alloc (Nat.le_trans KB.out.size hb2.size) _) (by omega) _) (by omega) _
    clear hb2 L1 L2 KB K3
    have L1:=L1n
    have L2:=L2n
    have KB:=KBn
    have K3:=K3n
    clear L1n L2n KBn K3n
    go_upto_region 7 with(first|(refine wpList_store_row rfl 25 _ _ rfl y.heap.size rfl _ V rfl 25 A.out (by rw[hVz];exact infoHo) (by rw[hVz];rfl) hVo rfl ?_)|(refine wpList_store_row rfl 32 _ _ rfl g rfl _ #[.int .i64 0,.int .i64 0] rfl 32 GB.out infoSp rfl (by simp[Value.oneCell']) rfl ?_))
    generalize hv:(((y.alloc (.cells #[.int .i64 0,.string ⟨#[]⟩,.int .u8 0,.int .u8 0,.int .u8 0,.int .u8 0,.int .u8 0,.int .u8 0,.int .u8 0,.int .u8 0,.int .u8 0,.int .u8 0,.int .u8 0,.int .u8 0,.int .u8 0,.int .u8 0,.int .u8 0,.int .u8 0] 25)).setRow y.heap.size V).setRow g #[.int .i64 0,.int .i64 0])=v1 at M1 K3 L1 L2 KB ⊢
    clear hv A GB
    generalize y.heap.size=gh at gy M1 ⊢
    have hc1:=K3.out.cell 0
    have hc2:=K3.out.cell 1
    simp at hc1 hc2
    go_wp2_with (first|(refine wpList_load_row rfl 25 _ rfl gh rfl V 25 _ M1.out Tryz.underlying25 rfl (by rw[hVz];exact infoHo) ?_)|(rw[HBB.out];refine wpList_store_row rfl 27 _ _ rfl w.heap.size rfl _ D rfl 27 L1.out (by rw[hDz];exact infoBx) (by rw[hDz];rfl) hDo rfl ?_)|(refine wpList_store_row rfl 32 _ _ rfl (w.heap.size+1) rfl _ #[.int .i64 0,.int .i64 0] rfl 32 (L2.out.row_other (by omega) _) infoSp rfl (by simp[Value.oneCell']) rfl ?_))
    refine bodyPost_ret (results_cvc (p:=6) (q:=7) (r:=8) (by kernel_rfl) _ _ w.heap.size (w.heap.size+1) D #[.int .i64 0,.int .i64 0] _ _ (.int .i64 (F:Int)) rfl rfl rfl ((L1.out.row _).row_other (by omega) _) ((L2.out.row_other (by omega) _).row _) Tryz.underlying27 rfl (by rw[hDz];exact infoBx) Tryz.underlying32 rfl infoSp) rfl ⟨by rw[HXX.out],below_row (below_row KB.out (Nat.le_refl _) _) (by omega) _⟩
  ·have HXX:Hid (bxV a X=.tuple #[.agg #[.string ⟨#[]⟩,.int .i64 0,.string ⟨#[]⟩,.int .u8 0,.int .u8 0,.int .u8 0,.int .u8 0,.int .u8 0,.int .u8 0,.int .u8 0,.int .u8 0,.int .u8 0,.int .u8 0,.int .u8 0,.int .u8 0,.int .u8 0,.int .u8 0,.int .u8 0,.int .u8 0],.int .i64 0,.agg #[.int .i64 93,.int .i64 (E:Int)]]):=by
    show _=_
    rw[HX2.out,if_neg,bxV,HE.out]
    ·rfl
    ·intro h
     apply h64
     rcases Nat.lt_or_ge E s.size with hl|hl
     ·rw[drop_at s E hl,List.head?_cons]at h
      injection h with h
      exact⟨hl,h⟩
     ·rw[drop_past s E hl]at h
      cases h
   have pre:(∃h:E<s.size,((s[E].toNat:Int) != 64)=true)∨s.size≤E:=by
    rcases Nat.lt_or_ge E s.size with hl|hl
    ·left
     refine⟨hl,?_⟩
     rw[(b_eq s[E] 64 64 rfl).2,decide_eq_false (fun h=>h64 ⟨hl,h⟩)]
     rfl
    ·exact .inr hl
   clear HX2 HHO h64
   rcases pre with⟨hl,n64⟩|hl
   ·have hl':¬(s.size:Int)≤(E:Int):=by omega
    go_wp2_with (first|(refine wpList_store_row rfl 27 _ _ rfl w.heap.size rfl _ #[.string ⟨#[]⟩,.int .i64 0,.string ⟨#[]⟩,.int .u8 0,.int .u8 0,.int .u8 0,.int .u8 0,.int .u8 0,.int .u8 0,.int .u8 0,.int .u8 0,.int .u8 0,.int .u8 0,.int .u8 0,.int .u8 0,.int .u8 0,.int .u8 0,.int .u8 0,.int .u8 0] rfl 27 L1.out infoBx rfl (by simp[Value.oneCell']) rfl ?_)|(refine wpList_store_row rfl 32 _ _ rfl (w.heap.size+1) rfl _ #[.int .i64 93,.int .i64 (E:Int)] rfl 32 (L2.out.row_other (by omega) _) infoSp rfl (by simp[Value.oneCell']) rfl ?_))
    refine bodyPost_ret (results_cvc (p:=6) (q:=7) (r:=8) (by kernel_rfl) _ _ w.heap.size (w.heap.size+1) #[.string ⟨#[]⟩,.int .i64 0,.string ⟨#[]⟩,.int .u8 0,.int .u8 0,.int .u8 0,.int .u8 0,.int .u8 0,.int .u8 0,.int .u8 0,.int .u8 0,.int .u8 0,.int .u8 0,.int .u8 0,.int .u8 0,.int .u8 0,.int .u8 0,.int .u8 0,.int .u8 0] #[.int .i64 93,.int .i64 (E:Int)] _ _ (.int .i64 0) rfl rfl rfl ((L1.out.row _).row_other (by omega) _) ((L2.out.row_other (by omega) _).row _) Tryz.underlying27 rfl infoBx Tryz.underlying32 rfl infoSp) rfl ⟨by rw[HXX.out],below_row (below_row KB.out (Nat.le_refl _) _) (by omega) _⟩
   ·have hl':(s.size:Int)≤(E:Int):=by omega
    go_wp2_with (first|(refine wpList_store_row rfl 27 _ _ rfl w.heap.size rfl _ #[.string ⟨#[]⟩,.int .i64 0,.string ⟨#[]⟩,.int .u8 0,.int .u8 0,.int .u8 0,.int .u8 0,.int .u8 0,.int .u8 0,.int .u8 0,.int .u8 0,.int .u8 0,.int .u8 0,.int .u8 0,.int .u8 0,.int .u8 0,.int .u8 0,.int .u8 0,.int .u8 0] rfl 27 L1.out infoBx rfl (by simp[Value.oneCell']) rfl ?_)|(refine wpList_store_row rfl 32 _ _ rfl (w.heap.size+1) rfl _ #[.int .i64 93,.int .i64 (E:Int)] rfl 32 (L2.out.row_other (by omega) _) infoSp rfl (by simp[Value.oneCell']) rfl ?_))
    refine bodyPost_ret (results_cvc (p:=6) (q:=7) (r:=8) (by kernel_rfl) _ _ w.heap.size (w.heap.size+1) #[.string ⟨#[]⟩,.int .i64 0,.string ⟨#[]⟩,.int .u8 0,.int .u8 0,.int .u8 0,.int .u8 0,.int .u8 0,.int .u8 0,.int .u8 0,.int .u8 0,.int .u8 0,.int .u8 0,.int .u8 0,.int .u8 0,.int .u8 0,.int .u8 0,.int .u8 0,.int .u8 0] #[.int .i64 93,.int .i64 (E:Int)] _ _ (.int .i64 0) rfl rfl rfl ((L1.out.row _).row_other (by omega) _) ((L2.out.row_other (by omega) _).row _) Tryz.underlying27 rfl infoBx Tryz.underlying32 rfl infoSp) rfl ⟨by rw[HXX.out],below_row (below_row KB.out (Nat.le_refl _) _) (by omega) _⟩
end Go.Proofs.YtfjpkfhbmldmfaaGreatDoor
