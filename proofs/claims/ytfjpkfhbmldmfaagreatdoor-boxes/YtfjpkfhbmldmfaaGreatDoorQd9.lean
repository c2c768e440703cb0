/-
  The document's local.
-/
import Derived.Test.YtfjpkfhbmldmfaaGreatDoorQc9
import Derived.Lib.ConvBytes
namespace Go.Proofs.YtfjpkfhbmldmfaaGreatDoor
open Go.RowKit
def DBadOk:Prop:=∀(a:Option Addr) (l:List UInt8) (cap:Nat) (w:World),Bts a l w→l.length≤cap→l.length≤9223372036854775000→Calls Tryz.prog 90 #[.slice a l.length cap] w fun e w'=>e=.returned (.int .i64 (badU l))∧Below w.heap.size w w'
def lcV (a:Nat):Except (Nat×Nat) (List UInt8×Nat)→Value
 | .ok (l,n)=>.tuple #[.string (txt l),.int .i64 (a+n:Nat),.agg #[.int .i64 0,.int .i64 0]]
 | .error (e,p)=>.tuple #[.string ⟨#[]⟩,.int .i64 0,.agg #[.int .i64 (e:Nat),.int .i64 (a+p:Nat)]]
theorem conv_b9 (w:World) (s:ByteArray):∃c w',(convert 9 98 (.string s)).run Tryz.prog w=.ok (.slice (some ⟨w.heap.size,0,none⟩) s.size c) w'∧RowL s.data.toList w.heap.size 0 w'∧s.size≤c∧Below w.heap.size w w'∧w.heap.size<w'.heap.size:=by
 refine⟨_,_,Lib.run_convert_string_bytes w 9 98 5 s Tryz.underlying9 Tryz.underlying98 Tryz.underlying5,fun j hj=>?_,grownCap_ge _ _ _ _,?_,?_⟩
 ·rw[Nat.zero_add,Lib.bytesWorld_cell w 5 s j (by rw[len_list]at hj;exact hj)]
  congr 3
  rw[List.getD_eq_getElem?_getD,List.getElem?_eq_getElem hj]
  rfl
 ·exact⟨rfl,rfl,rfl,by rw[Lib.bytesWorld_size];omega,fun k hk=>Lib.bytesWorld_at_old w 5 s k hk⟩
 ·rw[Lib.bytesWorld_size]
  omega
theorem body_len {s:ByteArray} {F T:Nat} (h:T≤s.size):((s.data.toList.drop F).take (T - F)).length=T - F:=by
 rw[List.length_take,List.length_drop,len_list]
 omega
theorem body_sp {f:UInt8→Bool} {s:ByteArray} {F T i:Nat} (h:AllF f s F i) (h1:F≤i) (h2:i≤T) (h3:T≤s.size) (h4:∀h:i<T,f (s[i]'(by omega))=false):spB f ((s.data.toList.drop F).take (T - F))=i - F:=
 spB_eq f _ _ (by rw[body_len h3];omega) (fun j hj hk=>by
  rw[body_len h3]at hj
  rw[List.getElem_take,List.getElem_drop,get_list]
  exact h (F+j) (by omega) (by omega) (by omega)) (fun hj=>by
  rw[body_len h3]at hj
  rw[List.getElem_take,List.getElem_drop,get_list]
  have:=h4 (by omega)
  simp only[show F+(i - F)=i from by omega]
  exact this)
set_option maxHeartbeats 16000000 in
set_option maxRecDepth 100000 in
theorem qlocal_any (hbad:DBadOk) (s:ByteArray) (a:Nat) (ha:a≤s.size) (hs:s.size≤140737488351232) (wide:Bool) (w:World):
  Calls Tryz.prog 66 #[.string s,.int .i64 (a:Nat),.bool wide] w fun e w'=>e=.returned (lcV a (lcl wide (s.data.toList.drop a)))∧Below w.heap.size w w':=by
 have HBAD:Hid DBadOk:=hbad
 obtain⟨X,hX⟩:∃X,X=lcl wide (s.data.toList.drop a):=⟨_,rfl⟩
 rw[←hX]
 have HL:Hid (Lies (w.alloc (.cells #[.int .i64 0,.int .i64 0] 32)) w.heap.size #[.int .i64 0,.int .i64 0] 32):=Lies.new w _ _
 have KB:Hid (Below w.heap.size w (w.alloc (.cells #[.int .i64 0,.int .i64 0] 32))):=(Below.refl _ _).alloc (Nat.le_refl _) _
 by_cases h34:∃h:a<s.size,s[a]=34
 ·obtain⟨hlt,hc⟩:=h34
  have hlt':(a:Int)<(s.size:Int):=by omega
  obtain⟨e34,_⟩:=b_eq s[a] 34 34 rfl
  rw[decide_eq_true hc]at e34
  have HQ:Hid (∀wx,Below w.heap.size w wx→Calls Tryz.prog 88 #[.string s,.int .i64 (a:Nat)] wx fun e w'=>e=.returned (qtV a (shQ a (qtM 1 false (s.data.toList.drop (a+1)))))∧Below wx.heap.size wx w'):=fun wx _=>by
   have:=qquoted_any s a hlt hs wx
   rw[show a+1=1+a from by omega,qtM_shift a _ 1 false (Nat.le_refl _)]at this
   rw[show a+1=1+a from by omega]
   exact this
  have HXQ:Hid (X=match qtM 1 false (s.data.toList.drop (a+1)) with
   | .error none=>.error (91,0)
   | .error (some p)=>.error (90,p)
   | .ok (m,n)=>finL wide ((s.data.toList.drop (a+1)).take (n - 2)) 1 m n):=by
   show _=_
   rw[hX,drop_at s a hlt]
   unfold lcl
   rw[if_pos (by rw[List.head?_cons,hc]),List.drop_succ_cons,List.drop_zero]
   rfl
  have hfr:∀m n,qtM 1 false (s.data.toList.drop (a+1))=.ok (m,n)→2≤n∧n≤1+(s.size - (a+1)):=fun m n h=>by
   obtain⟨h1,h2,_⟩:=qtM_front _ _ _ _ _ h
   rw[List.length_drop,len_list]at h2
   exact⟨h1,h2⟩
  clear hX hc hbad
  go_enter Tryz.func66,Tryz.ntmps66
  go_upto_region 1 with fail
  generalize w.alloc (.cells #[.int .i64 0,.int .i64 0] 32)=v0 at HL KB ⊢
  cases hq:qtM 1 false (s.data.toList.drop (a+1)) with
  |error o=>
   clear hfr
   cases o with
   |none=>
    have HXX:Hid (lcV a X=.tuple #[.string ⟨#[]⟩,.int .i64 0,.agg #[.int .i64 91,.int .i64 (a:Int)]]):=by
     show _=_
     rw[HXQ.out,hq]
     rfl
    have HQ2:Hid (∀wx,Below w.heap.size w wx→Calls Tryz.prog 88 #[.string s,.int .i64 (a:Nat)] wx fun e w'=>e=.returned (.tuple #[.string ⟨#[]⟩,.int .i64 0,.agg #[.int .i64 91,.int .i64 (a:Int)]])∧Below wx.heap.size wx w'):=fun wx hx=>by
     have:=HQ.out wx hx
     rw[hq]at this
     exact this
    clear HQ HXQ hq HBAD
    skip
    go_wp2_with fail
    refine(HQ2.out _ KB.out).mono ?_
    rintro e w2 ⟨rfl,hb2⟩
    have K1:Hid (Lies (w2.alloc (.cells #[.int .i64 91,.int .i64 (a:Int)] 32)) w.heap.size #[.int .i64 0,.int .i64 0] 32):=(HL.out.below hb2 HL.out.lt).alloc _
    have K3:Hid (Lies (w2.alloc (.cells #[.int .i64 91,.int .i64 (a:Int)] 32)) w2.heap.size #[.int .i64 91,.int .i64 (a:Int)] 32):=Lies.new w2 _ _
    have KX:Hid (Below w.heap.size w (w2.alloc (.cells #[.int .i64 91,.int .i64 (a:Int)] 32))):=(KB.out.trans (hb2.mono KB.out.size)).alloc (Nat.le_trans KB.out.size hb2.size) _
    have hz2:w.heap.size<w2.heap.size:=Nat.lt_of_lt_of_le HL.out.lt hb2.size
    clear hb2 HQ2 HL KB
    go_upto_region 7 with fail
    generalize (w2.alloc (.cells #[.int .i64 91,.int .i64 (a:Int)] 32))=w3 at K1 K3 KX ⊢
    generalize w2.heap.size=g at hz2 K3 ⊢
    have hc1:=K3.out.cell 0
    have hc2:=K3.out.cell 1
    simp at hc1 hc2
    go_upto_region 8 with fail
    have hS0:w3.drew.cell? ⟨g,0,none⟩=some (.int .i64 91)∧w3.drew.cell? ⟨g,1,none⟩=some (.int .i64 (a:Int)):=⟨hc1,hc2⟩
    refine wp_region_late (fun wx=>wx.cell? ⟨g,0,none⟩=some (.int .i64 91)∧wx.cell? ⟨g,1,none⟩=some (.int .i64 (a:Int))) 4 (by kernel_rfl) hS0 (fun hHeld=>?_)
    refine tk9 0 (some 41) (.agg #[.int .i64 91,.int .i64 (a:Int)]) ?_
    simp only[Act.put,pA,pB,pC]
    refine tk9 1 (some 6) (.string ⟨#[]⟩) ?_
    simp only[Act.put,pA,pB,pC]
    refine tk9 2 (some 7) (.int .i64 0) ?_
    simp only[Act.put,pA,pB,pC]
    refine on9 3 ?_
    refine oper_store_row 32 _ _ rfl w.heap.size rfl #[.int .i64 0,.int .i64 0] #[.int .i64 91,.int .i64 (a:Int)] rfl 32 K1.out.drew infoSp rfl (by simp[Value.oneCell']) rfl ?_
    refine⟨Or.inr ⟨(K3.out.drew.row_other (show g≠w.heap.size by omega) _).cell 0,(K3.out.drew.row_other (show g≠w.heap.size by omega) _).cell 1⟩,?_⟩
    refine wpAnyE_done (by kernel_rfl) ?_ _
    clear hHeld hS0
    go_wp2
    refine bodyPost_ret (results_vvc (p:=6) (q:=7) (r:=8) (by kernel_rfl) _ _ w.heap.size #[.int .i64 91,.int .i64 (a:Int)] _ (.string ⟨#[]⟩) (.int .i64 0) rfl rfl rfl (K1.out.drew.row _) Tryz.underlying32 rfl infoSp) rfl ⟨by rw[HXX.out],below_row KX.out.drew (Nat.le_refl _) _⟩
   |some p=>
    obtain⟨q,hqp⟩:∃q,q=p+a:=⟨_,rfl⟩
    have HXX:Hid (lcV a X=.tuple #[.string ⟨#[]⟩,.int .i64 0,.agg #[.int .i64 90,.int .i64 (q:Int)]]):=by
     show _=_
     rw[HXQ.out,hq]
     show lcV a (.error (90,p))=_
     rw[lcV,Nat.add_comm a p,←hqp]
     rfl
    have HQ2:Hid (∀wx,Below w.heap.size w wx→Calls Tryz.prog 88 #[.string s,.int .i64 (a:Nat)] wx fun e w'=>e=.returned (.tuple #[.string ⟨#[]⟩,.int .i64 0,.agg #[.int .i64 90,.int .i64 (q:Int)]])∧Below wx.heap.size wx w'):=fun wx hx=>by
     have:=HQ.out wx hx
     rw[hq,shQ,qtV,←hqp]at this
     exact this
    clear HQ HXQ hq HBAD
    clear hqp
    go_wp2_with fail
    refine(HQ2.out _ KB.out).mono ?_
    rintro e w2 ⟨rfl,hb2⟩
    have K1:Hid (Lies (w2.alloc (.cells #[.int .i64 90,.int .i64 (q:Int)] 32)) w.heap.size #[.int .i64 0,.int .i64 0] 32):=(HL.out.below hb2 HL.out.lt).alloc _
    have K3:Hid (Lies (w2.alloc (.cells #[.int .i64 90,.int .i64 (q:Int)] 32)) w2.heap.size #[.int .i64 90,.int .i64 (q:Int)] 32):=Lies.new w2 _ _
    have KX:Hid (Below w.heap.size w (w2.alloc (.cells #[.int .i64 90,.int .i64 (q:Int)] 32))):=(KB.out.trans (hb2.mono KB.out.size)).alloc (Nat.le_trans KB.out.size hb2.size) _
    have hz2:w.heap.size<w2.heap.size:=Nat.lt_of_lt_of_le HL.out.lt hb2.size
    clear hb2 HQ2 HL KB
    go_upto_region 7 with fail
    generalize (w2.alloc (.cells #[.int .i64 90,.int .i64 (q:Int)] 32))=w3 at K1 K3 KX ⊢
    generalize w2.heap.size=g at hz2 K3 ⊢
    have hc1:=K3.out.cell 0
    have hc2:=K3.out.cell 1
    simp at hc1 hc2
    go_upto_region 8 with fail
    have hS0:w3.drew.cell? ⟨g,0,none⟩=some (.int .i64 90)∧w3.drew.cell? ⟨g,1,none⟩=some (.int .i64 (q:Int)):=⟨hc1,hc2⟩
    refine wp_region_late (fun wx=>wx.cell? ⟨g,0,none⟩=some (.int .i64 90)∧wx.cell? ⟨g,1,none⟩=some (.int .i64 (q:Int))) 4 (by kernel_rfl) hS0 (fun hHeld=>?_)
    refine tk9 0 (some 41) (.agg #[.int .i64 90,.int .i64 (q:Int)]) ?_
    simp only[Act.put,pA,pB,pC]
    refine tk9 1 (some 6) (.string ⟨#[]⟩) ?_
    simp only[Act.put,pA,pB,pC]
    refine tk9 2 (some 7) (.int .i64 0) ?_
    simp only[Act.put,pA,pB,pC]
    refine on9 3 ?_
    refine oper_store_row 32 _ _ rfl w.heap.size rfl #[.int .i64 0,.int .i64 0] #[.int .i64 90,.int .i64 (q:Int)] rfl 32 K1.out.drew infoSp rfl (by simp[Value.oneCell']) rfl ?_
    refine⟨Or.inr ⟨(K3.out.drew.row_other (show g≠w.heap.size by omega) _).cell 0,(K3.out.drew.row_other (show g≠w.heap.size by omega) _).cell 1⟩,?_⟩
    refine wpAnyE_done (by kernel_rfl) ?_ _
    clear hHeld hS0
    go_wp2
    refine bodyPost_ret (results_vvc (p:=6) (q:=7) (r:=8) (by kernel_rfl) _ _ w.heap.size #[.int .i64 90,.int .i64 (q:Int)] _ (.string ⟨#[]⟩) (.int .i64 0) rfl rfl rfl (K1.out.drew.row _) Tryz.underlying32 rfl infoSp) rfl ⟨by rw[HXX.out],below_row KX.out.drew (Nat.le_refl _) _⟩
  |ok x=>
   obtain⟨m,n⟩:=x
   obtain⟨hn2,hnl⟩:=hfr m n hq
   obtain⟨t,ht⟩:∃t,n+a=t+1:=⟨n+a - 1,by omega⟩
   obtain⟨M,hM⟩:∃M,M=txt m:=⟨_,rfl⟩
   have HF:Hid (X=finL wide ((s.data.toList.drop (a+1)).take (t - (a+1))) (a+1 - a) M.data.toList (t+1 - a)):=by
    show _=_
    rw[HXQ.out,hq,hM,txt_list,show t - (a+1)=n - 2 from by omega,show a+1 - a=1 from by omega,show t+1 - a=n from by omega]
   have HQ2:Hid (∀wx,Below w.heap.size w wx→Calls Tryz.prog 88 #[.string s,.int .i64 (a:Nat)] wx fun e w'=>e=.returned (.tuple #[.string M,.int .i64 ((t:Int)+1),.agg #[.int .i64 0,.int .i64 0]])∧Below wx.heap.size wx w'):=fun wx hx=>by
    have:=HQ.out wx hx
    rw[hq,shQ,ht,qtV,←hM]at this
    exact this
   have htl:t+1≤s.size:=by omega
   have hat:a+1≤t:=by omega
   clear HQ HXQ hq hfr hM ht hn2 hnl
   go_wp2_with fail
   refine(HQ2.out _ KB.out).mono ?_
   rintro e w2 ⟨rfl,hb2⟩
   have K1:Hid (Lies (w2.alloc (.cells #[.int .i64 0,.int .i64 0] 32)) w.heap.size #[.int .i64 0,.int .i64 0] 32):=(HL.out.below hb2 HL.out.lt).alloc _
   have K3:Hid (Lies (w2.alloc (.cells #[.int .i64 0,.int .i64 0] 32)) w2.heap.size #[.int .i64 0,.int .i64 0] 32):=Lies.new w2 _ _
   have KX:Hid (Below w.heap.size w (w2.alloc (.cells #[.int .i64 0,.int .i64 0] 32))):=(KB.out.trans (hb2.mono KB.out.size)).alloc (Nat.le_trans KB.out.size hb2.size) _
   clear hb2 HQ2 HL KB
   go_upto_region 7 with fail
   generalize w2.alloc (.cells #[.int .i64 0,.int .i64 0] 32)=wq at K1 K3 KX ⊢
   generalize w2.heap.size=g at K3 ⊢
   have hc1:=K3.out.cell 0
   simp at hc1
   have HL:=K1
   have KB:=KX
   clear K1 KX
   go_upto_region 18 with fail
   clear K3 hc1
   by_cases h64:64<(t+1) - a
   ·have h64':(64:Int)<((t:Int)+1) - (a:Int):=by omega
    have HXX:Hid (lcV a X=.tuple #[.string ⟨#[]⟩,.int .i64 0,.agg #[.int .i64 90,.int .i64 (a:Int)]]):=by
     show _=_
     rw[HF.out]
     unfold finL
     rw[if_pos h64,lcV,Nat.add_zero]
     rfl
    clear HF h64
    go_wp2_with (refine wpList_store_row rfl 32 _ _ rfl w.heap.size rfl _ #[.int .i64 90,.int .i64 (a:Int)] rfl 32 HL.out infoSp rfl (by simp[Value.oneCell']) rfl ?_)
    refine bodyPost_ret (results_vvc (p:=6) (q:=7) (r:=8) (by kernel_rfl) _ _ w.heap.size #[.int .i64 90,.int .i64 (a:Int)] _ (.string ⟨#[]⟩) (.int .i64 0) rfl rfl rfl (HL.out.row _) Tryz.underlying32 rfl infoSp) rfl ⟨by rw[HXX.out],below_row KB.out (Nat.le_refl _) _⟩
   ·have h64':¬(64:Int)<((t:Int)+1) - (a:Int):=by omega
    go_wp2_with fail
    go_loopw [16] (fun c wr=>∃i:Nat,a+1≤i∧i≤t∧c=.int .i64 i∧Hid (wide=false→AllF loB s (a+1) i)∧Hid (wr=wq)) (fun c _=>t - (intOf c).toNat)
    case atStart=>exact⟨a+1,Nat.le_refl _,by omega,by first|rfl|go_num,(fun _=>AllF.none _ _ _),rfl⟩
    case round=>
     obtain⟨i,hfi,hit,rfl,HA,HV⟩:=hrel
     obtain rfl:wq=wr:=HV.out.symm
     clear HV
     by_cases hlt:i<t
     ·have hlt':(i:Int)<(t:Int):=by omega
      have his:i<s.size:=by omega
      have his':(i:Int)<(s.size:Int):=by omega
      by_cases hh:128≤s[i].toNat
      ·have hh':(127:Int)<(s[i].toNat:Int):=by omega
       cases wide
       ·have HXX:Hid (lcV a X=.tuple #[.string ⟨#[]⟩,.int .i64 0,.agg #[.int .i64 94,.int .i64 (i:Int)]]):=by
         show _=_
         have e1:=body_sp (HA.out rfl) hfi hit (by omega) (fun _=>by unfold loB;rw[decide_eq_false (by omega)])
         rw[HF.out]
         unfold finL
         rw[if_neg h64,if_pos ⟨rfl,by rw[e1,body_len (by omega)];omega⟩,e1,lcV,show a+(a+1 - a+(i - (a+1)))=i from by omega]
         rfl
        clear HF HA h64
        go_wp2_with (refine wpList_store_row rfl 32 _ _ rfl w.heap.size rfl _ #[.int .i64 94,.int .i64 (i:Int)] rfl 32 HL.out infoSp rfl (by simp[Value.oneCell']) rfl ?_)
        refine bodyPost_ret (results_vvc (p:=6) (q:=7) (r:=8) (by kernel_rfl) _ _ w.heap.size #[.int .i64 94,.int .i64 (i:Int)] _ (.string ⟨#[]⟩) (.int .i64 0) rfl rfl rfl (HL.out.row _) Tryz.underlying32 rfl infoSp) rfl ⟨by rw[HXX.out],below_row KB.out (Nat.le_refl _) _⟩
       ·clear HA
        go_wp2_with fail
        go_roundw
        case rel=>exact⟨i+1,by omega,by omega,by go_num,(fun h=>by cases h),trivial⟩
        case measure=>simp[intOf];omega
      ·have hh':¬(127:Int)<(s[i].toNat:Int):=by omega
       have HA2:Hid (wide=false→AllF loB s (a+1) (i+1)):=fun h=>(HA.out h).step his (by unfold loB;rw[decide_eq_true (by omega)])
       clear HA
       go_wp2_with fail
       go_roundw
       case rel=>exact⟨i+1,by omega,by omega,by go_num,HA2,trivial⟩
       case measure=>simp[intOf];omega
     ·have hlt':¬(i:Int)<(t:Int):=by omega
      obtain⟨b,hb⟩:∃b,b=s.extract (a+1) (t):=⟨_,rfl⟩
      have htx:s.extract (a+1) (t)=b:=hb.symm
      have hbl:b.data.toList=(s.data.toList.drop (a+1)).take (t - (a+1)):=by rw[hb,ext_list,List.drop_take]
      have hbs:b.size=t - (a+1):=by rw[←len_list,hbl,body_len (by omega)]
      have HF2:Hid (X=if badU b.data.toList<b.size then .error (94,a+1 - a+badU b.data.toList) else .ok (M.data.toList,(t+1) - a)):=by
       show _=_
       rw[HF.out,hbl]
       unfold finL
       rw[if_neg h64,if_neg,body_len (by omega),hbs]
       rintro ⟨hw,hsp⟩
       have e1:=body_sp ((HA.out hw)) hfi hit (by omega) (fun h=>absurd h hlt)
       rw[e1,body_len (by omega)]at hsp
       omega
      obtain⟨c,w2,hconv,hrow,hc1,hb2,hz2⟩:=conv_b9 wq b
      have HBT:Hid (Bts (some ⟨wq.heap.size,0,none⟩) b.data.toList w2):=.inr ⟨wq.heap.size,0,rfl,by omega,hrow⟩
      have HD:Hid (Calls Tryz.prog 90 #[.slice (some ⟨wq.heap.size,0,none⟩) b.size c] w2 fun e w'=>e=.returned (.int .i64 (badU b.data.toList))∧Below w2.heap.size w2 w'):=by
       have:=HBAD.out (some ⟨wq.heap.size,0,none⟩) b.data.toList c w2 HBT.out (by rw[len_list];omega) (by rw[len_list];omega)
       rw[len_list]at this
       exact this
      have HB2:Hid (Below wq.heap.size wq w2):=hb2
      have hle:=badU_le b.data.toList
      rw[len_list]at hle
      generalize badU b.data.toList=k at HD HF2 hle
      have hF0:((a:Int)+1)≤(t:Int):=by omega
      have hT0:(t:Int)≤(s.size:Int):=by omega
      have HBS:Hid (b.size=t - (a+1)):=hbs
      clear hrow hb2 hz2 HBT hc1 HF HA HBAD hbl hb hbs
      go_wp2_with fail
      refine HD.out.mono ?_
      rintro e w3 ⟨rfl,hb3⟩
      have HL3:Hid (Lies w3 w.heap.size #[.int .i64 0,.int .i64 0] 32):=(HL.out.below HB2.out HL.out.lt).below hb3 (Nat.lt_of_lt_of_le HL.out.lt HB2.out.size)
      have KB3:Hid (Below w.heap.size w w3):=(KB.out.trans (HB2.out.mono KB.out.size)).trans (hb3.mono (Nat.le_trans KB.out.size HB2.out.size))
      clear hb3 HD HB2 hconv HL KB htx
      have hbs:=HBS.out
      by_cases hk:k<b.size
      ·have hk':(k:Int)<(t:Int) - ((a:Int)+1):=by omega
       have HXX:Hid (lcV a X=.tuple #[.string ⟨#[]⟩,.int .i64 0,.agg #[.int .i64 94,.int .i64 (((a:Int)+1)+(k:Int))]]):=by
        show _=_
        rw[HF2.out,if_pos hk,lcV,show a+(a+1 - a+k)=a+1+k from by omega]<;>rfl
       clear HF2 hk hbs
       go_wp2_with (refine wpList_store_row rfl 32 _ _ rfl w.heap.size rfl _ #[.int .i64 94,.int .i64 (((a:Int)+1)+(k:Int))] rfl 32 HL3.out infoSp rfl (by simp[Value.oneCell']) rfl ?_)
       refine bodyPost_ret (results_vvc (p:=6) (q:=7) (r:=8) (by kernel_rfl) _ _ w.heap.size #[.int .i64 94,.int .i64 (((a:Int)+1)+(k:Int))] _ (.string ⟨#[]⟩) (.int .i64 0) rfl rfl rfl (HL3.out.row _) Tryz.underlying32 rfl infoSp) rfl ⟨by rw[HXX.out],below_row KB3.out (Nat.le_refl _) _⟩
      ·have hk':¬(k:Int)<(t:Int) - ((a:Int)+1):=by omega
       have HXX:Hid (lcV a X=.tuple #[.string M,.int .i64 ((t:Int)+1),.agg #[.int .i64 0,.int .i64 0]]):=by
        show _=_
        rw[HF2.out,if_neg hk,lcV,txt_back,show a+((t+1) - a)=(t+1) from by omega]<;>rfl
       clear HF2 hk hbs
       go_wp2_with (refine wpList_store_row rfl 32 _ _ rfl w.heap.size rfl _ #[.int .i64 0,.int .i64 0] rfl 32 HL3.out infoSp rfl (by simp[Value.oneCell']) rfl ?_)
       refine bodyPost_ret (results_vvc (p:=6) (q:=7) (r:=8) (by kernel_rfl) _ _ w.heap.size #[.int .i64 0,.int .i64 0] _ (.string M) (.int .i64 ((t:Int)+1)) rfl rfl rfl (HL3.out.row _) Tryz.underlying32 rfl infoSp) rfl ⟨by rw[HXX.out],below_row KB3.out (Nat.le_refl _) _⟩
 ·have HX1:Hid (X=if rowL (s.data.toList.drop a)=0 then .error (90,0) else finL wide ((s.data.toList.drop a).take (rowL (s.data.toList.drop a))) 0 ((s.data.toList.drop a).take (rowL (s.data.toList.drop a))) (rowL (s.data.toList.drop a))):=by
   show _=_
   rw[hX]
   unfold lcl
   rw[if_neg]
   intro h
   apply h34
   rcases Nat.lt_or_ge a s.size with hl|hl
   ·rw[drop_at s a hl,List.head?_cons]at h
    injection h with h
    exact⟨hl,h⟩
   ·rw[drop_past s a hl]at h
    cases h
  have HR:Hid (∀wx,Calls Tryz.prog 89 #[.string s,.int .i64 (a:Nat)] wx fun e w'=>e=.returned (.int .i64 (a+rowL (s.data.toList.drop a):Nat))∧w'=wx):=fun wx=>qrow_any s a ha (by unfold maxLen;omega) wx
  have hrl:=rowL_le (s.data.toList.drop a)
  rw[List.length_drop,len_list]at hrl
  obtain⟨r,hr⟩:∃r,r=rowL (s.data.toList.drop a):=⟨_,rfl⟩
  rw[←hr]at HX1 HR hrl
  obtain⟨t,ht⟩:∃t,t=a+r:=⟨_,rfl⟩
  rw[←ht]at HR
  have hat:a≤t:=by omega
  have hts:t≤s.size:=by omega
  have HT:Hid (t=a+r):=ht
  clear hX hbad hr
  go_enter Tryz.func66,Tryz.ntmps66
  go_upto_region 1 with fail
  generalize w.alloc (.cells #[.int .i64 0,.int .i64 0] 32)=wq at HL KB ⊢
  have pre:(∃h:a<s.size,((s[a].toNat:Int)==34)=false)∨s.size≤a:=by
   rcases Nat.lt_or_ge a s.size with hl|hl
   ·left
    refine⟨hl,?_⟩
    rw[(b_eq s[a] 34 34 rfl).1,decide_eq_false (fun h=>h34 ⟨hl,h⟩)]
   ·exact .inr hl
  clear h34
  by_cases hr0:r=0
  ·have htb:((t:Int)==(a:Int))=true:=by rw[beq_iff_eq];omega
   have HXX:Hid (lcV a X=.tuple #[.string ⟨#[]⟩,.int .i64 0,.agg #[.int .i64 90,.int .i64 (a:Int)]]):=by
    show _=_
    rw[HX1.out,if_pos hr0]
    rfl
   clear HX1 HT hr0 ht HBAD
   rcases pre with⟨hl,e34⟩|hl
   ·have hl':(a:Int)<(s.size:Int):=by omega
    go_wp2_with fail
    refine(HR.out _).mono ?_
    rintro e w1 ⟨rfl,rfl⟩
    go_wp2_with (refine wpList_store_row rfl 32 _ _ rfl w.heap.size rfl _ #[.int .i64 90,.int .i64 (a:Int)] rfl 32 HL.out infoSp rfl (by simp[Value.oneCell']) rfl ?_)
    refine bodyPost_ret (results_vvc (p:=6) (q:=7) (r:=8) (by kernel_rfl) _ _ w.heap.size #[.int .i64 90,.int .i64 (a:Int)] _ (.string ⟨#[]⟩) (.int .i64 0) rfl rfl rfl (HL.out.row _) Tryz.underlying32 rfl infoSp) rfl ⟨by rw[HXX.out],below_row KB.out (Nat.le_refl _) _⟩
   ·have hl':¬(a:Int)<(s.size:Int):=by omega
    go_wp2_with fail
    refine(HR.out _).mono ?_
    rintro e w1 ⟨rfl,rfl⟩
    go_wp2_with (refine wpList_store_row rfl 32 _ _ rfl w.heap.size rfl _ #[.int .i64 90,.int .i64 (a:Int)] rfl 32 HL.out infoSp rfl (by simp[Value.oneCell']) rfl ?_)
    refine bodyPost_ret (results_vvc (p:=6) (q:=7) (r:=8) (by kernel_rfl) _ _ w.heap.size #[.int .i64 90,.int .i64 (a:Int)] _ (.string ⟨#[]⟩) (.int .i64 0) rfl rfl rfl (HL.out.row _) Tryz.underlying32 rfl infoSp) rfl ⟨by rw[HXX.out],below_row KB.out (Nat.le_refl _) _⟩
  ·have htb:((t:Int)==(a:Int))=false:=by rw[beq_eq_false_iff_ne];omega
   obtain⟨M,hM⟩:∃M,M=s.extract a t:=⟨_,rfl⟩
   have hMx:s.extract a t=M:=hM.symm
   have HF:Hid (X=finL wide ((s.data.toList.drop a).take (t - a)) (a - a) M.data.toList (t - a)):=by
    show _=_
    rw[HX1.out,if_neg hr0,hM,ext_list,List.drop_take,show t - a=r from by omega,Nat.sub_self]
   have hl:a<s.size:=by omega
   obtain⟨hl0,e34⟩:∃h:a<s.size,((s[a].toNat:Int)==34)=false:=by
    rcases pre with h|h
    ·exact h
    ·exact absurd h (by omega)
   have hl':(a:Int)<(s.size:Int):=by omega
   have hat':(a:Int)≤(t:Int):=by omega
   have hts':(t:Int)≤(s.size:Int):=by omega
   clear HX1 HT hr0 ht pre hM
   go_wp2_with fail
   refine(HR.out _).mono ?_
   rintro e w1 ⟨rfl,rfl⟩
   go_upto_region 18 with fail
   clear HR hMx e34
   by_cases h64:64<t - a
   ·have h64':(64:Int)<(t:Int) - (a:Int):=by omega
    have HXX:Hid (lcV a X=.tuple #[.string ⟨#[]⟩,.int .i64 0,.agg #[.int .i64 90,.int .i64 (a:Int)]]):=by
     show _=_
     rw[HF.out]
     unfold finL
     rw[if_pos h64,lcV,Nat.add_zero]
     rfl
    clear HF h64
    go_wp2_with (refine wpList_store_row rfl 32 _ _ rfl w.heap.size rfl _ #[.int .i64 90,.int .i64 (a:Int)] rfl 32 HL.out infoSp rfl (by simp[Value.oneCell']) rfl ?_)
    refine bodyPost_ret (results_vvc (p:=6) (q:=7) (r:=8) (by kernel_rfl) _ _ w.heap.size #[.int .i64 90,.int .i64 (a:Int)] _ (.string ⟨#[]⟩) (.int .i64 0) rfl rfl rfl (HL.out.row _) Tryz.underlying32 rfl infoSp) rfl ⟨by rw[HXX.out],below_row KB.out (Nat.le_refl _) _⟩
   ·have h64':¬(64:Int)<(t:Int) - (a:Int):=by omega
    go_wp2_with fail
    go_loopw [16] (fun c wr=>∃i:Nat,a≤i∧i≤t∧c=.int .i64 i∧Hid (wide=false→AllF loB s (a) i)∧Hid (wr=w1)) (fun c _=>t - (intOf c).toNat)
    case atStart=>exact⟨a,Nat.le_refl _,by omega,by first|rfl|go_num,(fun _=>AllF.none _ _ _),rfl⟩
    case round=>
     obtain⟨i,hfi,hit,rfl,HA,HV⟩:=hrel
     obtain rfl:w1=wr:=HV.out.symm
     clear HV
     by_cases hlt:i<t
     ·have hlt':(i:Int)<(t:Int):=by omega
      have his:i<s.size:=by omega
      have his':(i:Int)<(s.size:Int):=by omega
      by_cases hh:128≤s[i].toNat
      ·have hh':(127:Int)<(s[i].toNat:Int):=by omega
       cases wide
       ·have HXX:Hid (lcV a X=.tuple #[.string ⟨#[]⟩,.int .i64 0,.agg #[.int .i64 94,.int .i64 (i:Int)]]):=by
         show _=_
         have e1:=body_sp (HA.out rfl) hfi hit (by omega) (fun _=>by unfold loB;rw[decide_eq_false (by omega)])
         rw[HF.out]
         unfold finL
         rw[if_neg h64,if_pos ⟨rfl,by rw[e1,body_len (by omega)];omega⟩,e1,lcV,show a+(a - a+(i - (a)))=i from by omega]
         rfl
        clear HF HA h64
        go_wp2_with (refine wpList_store_row rfl 32 _ _ rfl w.heap.size rfl _ #[.int .i64 94,.int .i64 (i:Int)] rfl 32 HL.out infoSp rfl (by simp[Value.oneCell']) rfl ?_)
        refine bodyPost_ret (results_vvc (p:=6) (q:=7) (r:=8) (by kernel_rfl) _ _ w.heap.size #[.int .i64 94,.int .i64 (i:Int)] _ (.string ⟨#[]⟩) (.int .i64 0) rfl rfl rfl (HL.out.row _) Tryz.underlying32 rfl infoSp) rfl ⟨by rw[HXX.out],below_row KB.out (Nat.le_refl _) _⟩
       ·clear HA
        go_wp2_with fail
        go_roundw
        case rel=>exact⟨i+1,by omega,by omega,by go_num,(fun h=>by cases h),trivial⟩
        case measure=>simp[intOf];omega
      ·have hh':¬(127:Int)<(s[i].toNat:Int):=by omega
       have HA2:Hid (wide=false→AllF loB s (a) (i+1)):=fun h=>(HA.out h).step his (by unfold loB;rw[decide_eq_true (by omega)])
       clear HA
       go_wp2_with fail
       go_roundw
       case rel=>exact⟨i+1,by omega,by omega,by go_num,HA2,trivial⟩
       case measure=>simp[intOf];omega
     ·have hlt':¬(i:Int)<(t:Int):=by omega
      obtain⟨b,hb⟩:∃b,b=s.extract (a) (t):=⟨_,rfl⟩
      have htx:s.extract (a) (t)=b:=hb.symm
      have hbl:b.data.toList=(s.data.toList.drop (a)).take (t - (a)):=by rw[hb,ext_list,List.drop_take]
      have hbs:b.size=t - (a):=by rw[←len_list,hbl,body_len (by omega)]
      have HF2:Hid (X=if badU b.data.toList<b.size then .error (94,a - a+badU b.data.toList) else .ok (M.data.toList,t - a)):=by
       show _=_
       rw[HF.out,hbl]
       unfold finL
       rw[if_neg h64,if_neg,body_len (by omega),hbs]
       rintro ⟨hw,hsp⟩
       have e1:=body_sp ((HA.out hw)) hfi hit (by omega) (fun h=>absurd h hlt)
       rw[e1,body_len (by omega)]at hsp
       omega
      obtain⟨c,w2,hconv,hrow,hc1,hb2,hz2⟩:=conv_b9 w1 b
      have HBT:Hid (Bts (some ⟨w1.heap.size,0,none⟩) b.data.toList w2):=.inr ⟨w1.heap.size,0,rfl,by omega,hrow⟩
      have HD:Hid (Calls Tryz.prog 90 #[.slice (some ⟨w1.heap.size,0,none⟩) b.size c] w2 fun e w'=>e=.returned (.int .i64 (badU b.data.toList))∧Below w2.heap.size w2 w'):=by
       have:=HBAD.out (some ⟨w1.heap.size,0,none⟩) b.data.toList c w2 HBT.out (by rw[len_list];omega) (by rw[len_list];omega)
       rw[len_list]at this
       exact this
      have HB2:Hid (Below w1.heap.size w1 w2):=hb2
      have hle:=badU_le b.data.toList
      rw[len_list]at hle
      generalize badU b.data.toList=k at HD HF2 hle
      have hF0:(a:Int)≤(t:Int):=by omega
      have hT0:(t:Int)≤(s.size:Int):=by omega
      have HBS:Hid (b.size=t - (a)):=hbs
      clear hrow hb2 hz2 HBT hc1 HF HA HBAD hbl hb hbs
      go_wp2_with fail
      refine HD.out.mono ?_
      rintro e w3 ⟨rfl,hb3⟩
      have HL3:Hid (Lies w3 w.heap.size #[.int .i64 0,.int .i64 0] 32):=(HL.out.below HB2.out HL.out.lt).below hb3 (Nat.lt_of_lt_of_le HL.out.lt HB2.out.size)
      have KB3:Hid (Below w.heap.size w w3):=(KB.out.trans (HB2.out.mono KB.out.size)).trans (hb3.mono (Nat.le_trans KB.out.size HB2.out.size))
      clear hb3 HD HB2 hconv HL KB htx
      have hbs:=HBS.out
      by_cases hk:k<b.size
      ·have hk':(k:Int)<(t:Int) - (a:Int):=by omega
       have HXX:Hid (lcV a X=.tuple #[.string ⟨#[]⟩,.int .i64 0,.agg #[.int .i64 94,.int .i64 ((a:Int)+(k:Int))]]):=by
        show _=_
        rw[HF2.out,if_pos hk,lcV,show a+(a - a+k)=a+k from by omega]<;>rfl
       clear HF2 hk hbs
       go_wp2_with (refine wpList_store_row rfl 32 _ _ rfl w.heap.size rfl _ #[.int .i64 94,.int .i64 ((a:Int)+(k:Int))] rfl 32 HL3.out infoSp rfl (by simp[Value.oneCell']) rfl ?_)
       refine bodyPost_ret (results_vvc (p:=6) (q:=7) (r:=8) (by kernel_rfl) _ _ w.heap.size #[.int .i64 94,.int .i64 ((a:Int)+(k:Int))] _ (.string ⟨#[]⟩) (.int .i64 0) rfl rfl rfl (HL3.out.row _) Tryz.underlying32 rfl infoSp) rfl ⟨by rw[HXX.out],below_row KB3.out (Nat.le_refl _) _⟩
      ·have hk':¬(k:Int)<(t:Int) - (a:Int):=by omega
       have HXX:Hid (lcV a X=.tuple #[.string M,.int .i64 (t:Int),.agg #[.int .i64 0,.int .i64 0]]):=by
        show _=_
        rw[HF2.out,if_neg hk,lcV,txt_back,show a+(t - a)=t from by omega]<;>rfl
       clear HF2 hk hbs
       go_wp2_with (refine wpList_store_row rfl 32 _ _ rfl w.heap.size rfl _ #[.int .i64 0,.int .i64 0] rfl 32 HL3.out infoSp rfl (by simp[Value.oneCell']) rfl ?_)
       refine bodyPost_ret (results_vvc (p:=6) (q:=7) (r:=8) (by kernel_rfl) _ _ w.heap.size #[.int .i64 0,.int .i64 0] _ (.string M) (.int .i64 (t:Int)) rfl rfl rfl (HL3.out.row _) Tryz.underlying32 rfl infoSp) rfl ⟨by rw[HXX.out],below_row KB3.out (Nat.le_refl _) _⟩
end Go.Proofs.YtfjpkfhbmldmfaaGreatDoor
