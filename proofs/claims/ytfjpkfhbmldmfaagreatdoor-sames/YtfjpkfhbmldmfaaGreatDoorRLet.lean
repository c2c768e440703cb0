/-
  The document's order.
-/
import Derived.Test.YtfjpkfhbmldmfaaGreatDoorRUn
import Derived.Test.YtfjpkfhbmldmfaaGreatDoorWst
import Derived.Test.YtfjpkfhbmldmfaaGreatDoorLate5
namespace Go.Proofs.YtfjpkfhbmldmfaaGreatDoor
open Go.RowKit
theorem ownN_take {w:World} {base n e m:Nat} {a:Option Addr} {c:Nat} {k:IntKind} {xs:List Int} (h:w.ownsRow base e 1 (.slice a n c) n (cellsN k xs)) (hm:m≤n):w.ownsRow base e 1 (.slice a m c) m (cellsN k (xs.take m)):=by
 obtain⟨h1,h2⟩:=h
 rw[cellsN_length]at h1
 refine⟨by rw[cellsN_length,List.length_take];omega,?_⟩
 rcases h2 with⟨hv,h0⟩|⟨g,cap,cur,hv,hb,hg,hcap,hmx,hs,ht⟩
 ·injection hv with e1 e2 e3
  subst e1 e3
  obtain rfl:m=0:=by omega
  exact .inl ⟨rfl,rfl⟩
 ·injection hv with e1 e2 e3
  subst e1 e3
  refine .inr ⟨g,c,cur,rfl,hb,hg,by omega,hmx,hs,?_⟩
  have:=congrArg (List.take m) ht
  rw[List.take_take,Nat.min_eq_left (by omega)]at this
  rw[Nat.mul_one,this]
  simp[cellsN,List.map_take]
theorem own_one (w:World) (x:Int) (e:TypeId) (k:IntKind):(w.alloc (.cells #[.int k x] e)).ownsRow w.heap.size e 1 (.slice (some ⟨w.heap.size,0,none⟩) 1 1) 1 (cellsN k [x]):=
 ⟨rfl,.inr ⟨w.heap.size,1,#[.int k x],rfl,Nat.le_refl _,heap_alloc_last w _,Nat.le_refl _,by decide,rfl,rfl⟩⟩
theorem wp_append_nums {o:Oper} {a:Act} {w:World} {K:Act→World→Prop} {Q:Exit→Act→World→Prop} (s x:Operand) (T e by':Nat) (k:IntKind)
  (hT:Tryz.prog.underlying T=some (.slice e)) (hI:(Tryz.prog.info? e).map (fun i=>(i.zero,i.size,i.bytes))=some (some (.int k 0),1,by')) (hby:0<by')
  (ho:o.op=.call {callee:=.builtin .append,args:=#[s,x],argTypes:=#[T,T]}) (base:Nat) (v:Value) (n:Nat) (xs:List Int) (hs:a.eval s=v) (hown:w.ownsRow base e 1 v n (cellsN k xs))
  (sp:Option Addr) (l:List Int) (m c:Nat) (hx:a.eval x=.slice sp m c) (hm:m=l.length) (hb:Nts k sp l w) (hnc:sp=none→c=0) (hbytes:(n+m)*by'≤140737488355328) (hbase:base≤w.heap.size)
  (h:∀v' w',w'.ownsRow base e 1 v' (n+m) (cellsN k (xs++l))→w.grownBy w' v.ownBlock→K (a.put o.dst v') w'):o.wp Tryz.prog a w K Q:=by
 obtain⟨i0,hi,hz0,hz1,hz2⟩:=info_parts hI
 subst hm
 have hn:n+l.length≤140737488355328:=Nat.le_trans (Nat.le_mul_of_pos_right _ hby) hbytes
 cases sp with
 |none=>
  obtain rfl:=nts_none hb
  obtain rfl:=hnc rfl
  have hrun:=run_append_owned_none (P:=Tryz.prog) (w:=w) base T o.type e i0 1 hT hi v n _ hown
  have hK:=h v w (by simpa using hown) (World.grownBy.refl w _)
  rw[List.length_nil]at hx
  unfold Oper.wp
  simp[execOp,ho,resolve,invoke,builtin,hs,hx,hrun,Result.andThen]
  exact hK
 |some ad=>
  refine wp_append_own _ s x T ho base e i0 (.int k 0) 1 by' hT hi hz0 hz1 hz2 rfl (by decide) v n _ hs hown ad l.length c (cellsN k l) hx (by rw[cellsN_length];omega) (nts_news hb) (cellsN_one k _) (by unfold maxLen;omega) hbytes hbase ?_
  intro v' w' hown' hgrow _
  exact h v' w' (by rw[cellsN_append];exact hown') hgrow
theorem natI_take (l:List Nat) (k:Nat):natI (l.take k)=(natI l).take k:=by simp[natI,List.map_take]
theorem natI_drop (l:List Nat) (k:Nat):natI (l.drop k)=(natI l).drop k:=by simp[natI,List.map_drop]
theorem natI_append (l r:List Nat):natI (l++r)=natI l++natI r:=by simp[natI]
theorem out_drop {g:Nat} {xs:List Int} {w:World} (h:Nts .i64 (some ⟨g,0,none⟩) xs w) (m c:Nat) (hc:xs.length≤c):
  ∃ad:Addr,(if c=m then some (⟨g,0,none⟩:Addr) else some ⟨g,m,none⟩)=some ad∧Hid (∀wx,Below w.heap.size w wx→Nts .i64 (some ad) (xs.drop m) wx):=by
 by_cases e:c=m
 ·refine⟨⟨g,0,none⟩,if_pos e,fun wx _=>.inl (List.drop_eq_nil_of_le (by omega))⟩
 ·refine⟨⟨g,m,none⟩,if_neg e,fun wx hx=>?_⟩
  have:=nts_drop h m
  rw[Nat.zero_add]at this
  exact this.below hx
set_option maxHeartbeats 4000000 in
set_option maxRecDepth 100000 in
theorem dord_any (a:Option Addr) (l:List Int) (cap:Nat) (w:World) (hn:Nts .i32 a l w) (hs:l.length≤1073741824):
  Calls Tryz.prog 155 #[.slice a l.length cap] w fun e w'=>(∃v,e=.returned v∧w'.ownsRow w.heap.size 3 1 v (ordW l).length (cellsN .i64 (natI (ordW l))))∧Below w.heap.size w w':=by
 have HL:Hid (Nts .i32 a l w):=hn
 clear hn
 go_enter Tryz.func155,Tryz.ntmps155
 go_wp2_with fail
 go_loopw [3,4,5,6,9] (fun ov _ _ _ iv wr=>∃(k:Nat) (S:List Nat),iv=.int .i64 k∧k≤l.length∧S.length≤k∧Hid (OrdOk l k S)∧Hid (wr.ownsRow w.heap.size 3 1 ov S.length (cellsN .i64 (natI S)))∧Hid (Below w.heap.size w wr)) (fun _ _ _ _ iv _=>l.length - (intOf iv).toNat)
 case atStart=>exact⟨0,[],rfl,Nat.zero_le _,Nat.le_refl _,ordOk_start l,own_nilN _ _ _ _,Below.refl _ _⟩
 case round=>
  obtain⟨k,S,rfl,hk,hSk,HK,HO,HB⟩:=hrel
  have hwr:=HB.out.size
  by_cases hkl:k<l.length
  ·obtain⟨g,o,rfl,hg,hc⟩:=(HL.out.below HB.out).cell k hkl
   have HR:Hid (rn l k=l[k]):=rn_get l k hkl
   by_cases h128:l[k]<128
   ·have HK2:Hid (OrdOk l (k+1) S):=HK.out.small (by rw[HR.out];omega)
    go_wp2
    go_roundw
    case rel=>exact⟨k+1,S,by go_num,by omega,by omega,HK2,HO,HB⟩
    case measure=>simp[intOf];omega
   ·have HLr:Hid (Nts .i32 (some ⟨g,o,none⟩) l wr):=HL.out.below HB.out
    obtain⟨a3,c3,rfl,n3, -,hnc3,hle3,hbd3⟩:=own_nts HO.out
    have HN3:Hid (Nts .i64 a3 (natI S) wr):=n3
    have HBD:Hid (∀ad,a3=some ad→w.heap.size≤ad.block∧ad.block<wr.heap.size∧ad.off=0∧ad.spot=none):=hbd3
    have HNC:Hid (a3=none→c3=0):=hnc3
    clear n3 hbd3 hnc3
    have hnl:=natI_length S
    go_wp2_with fail
    go_loop [6] (fun av=>∃m:Nat,av=.int .i64 m∧m≤S.length∧Hid (∀j (hj:j<S.length),m≤j→rn l k<rn l S[j])) (fun av=>(intOf av).toNat)
    case atStart=>exact⟨S.length,rfl,Nat.le_refl _,fun j hj h=>by omega⟩
    case round=>
     obtain⟨m,rfl,hm,HM⟩:=hrel
     by_cases hm0:m=0
     ·have hm0':¬(0<(m:Int)):=by omega
      have HM0:Hid (m=0):=hm0
      clear hm0
      cases a3 with
      |none=>
       have HS0:Hid (S=[]):=by
        have:=nts_none HN3.out
        show _=_
        cases S with
        |nil=>rfl
        |cons x t=>simp[natI]at this
       have HND:Hid (∀wx,Below wr.heap.size wr wx→Nts .i64 none ((natI S).drop m) wx):=fun wx _=>.inl (by rw[HS0.out];simp[natI])
       have HNC2:Hid (c3=0):=HNC.out rfl
       have HPUT:Hid (OrdOk l (k+1) (S.take m++[k]++S.drop m)):=HK.out.put (by rw[HR.out];omega) hm HM.out (.inl HM0.out)
       have hMc:((m:Nat):Int)≤(c3:Int):=by omega
       have hMl:((m:Nat):Int)≤(S.length:Int):=by omega
       have hmS:m≤S.length:=hm
       go_wp2_with fail
       clear hm0'
       refine wp_region_late (fun _=>True) 11 (by kernel_rfl) trivial (fun hHeld=>?_)
       refine wpAnyE_tk (i:=0) (d:=some 34) (v:=?_) rfl (by kernel_rfl) (by kernel_rfl) (by kernel_rfl) rfl (fun _ _ _ h=>h) rfl rfl ?hy (by assumption) ?_
       case hy=>(intro w' hSw;(try dsimp only at hSw);go_simp<;>(try with_reducible rfl))
       simp only[Act.put,pA,pB,pC]
       refine wpAnyE_tk (i:=1) (d:=some 35) (v:=?_) rfl (by kernel_rfl) (by kernel_rfl) (by kernel_rfl) rfl (fun _ _ _ h=>h) rfl rfl ?hy (by assumption) ?_
       case hy=>(intro w' hSw;(try dsimp only at hSw);go_simp<;>(try with_reducible rfl))
       simp only[Act.put,pA,pB,pC]
       refine tk9 2 (some 36) (.slice none m c3) ?_ (hy:=?hy)
       case hy=>(intro w' hSw;(try dsimp only at hSw);go_simp<;>(try with_reducible rfl))
       simp only[Act.put,pA,pB,pC]
       refine wpAnyE_tk (i:=3) (d:=some 37) (v:=?_) rfl (by kernel_rfl) (by kernel_rfl) (by kernel_rfl) rfl (fun _ _ _ h=>h) rfl rfl ?hy (by assumption) ?_
       case hy=>(intro w' hSw;(try dsimp only at hSw);go_simp<;>(try with_reducible rfl))
       simp only[Act.put,pA,pB,pC]
       refine wpAnyE_tk (i:=5) (d:=some 39) (v:=?_) rfl (by kernel_rfl) (by kernel_rfl) (by kernel_rfl) rfl (fun _ _ _ h=>h) rfl rfl ?hy (by assumption) ?_
       case hy=>(intro w' hSw;(try dsimp only at hSw);go_simp<;>(try with_reducible rfl))
       simp only[Act.put,pA,pB,pC]
       refine wpAnyE_tk (i:=6) (d:=some 40) (v:=?_) rfl (by kernel_rfl) (by kernel_rfl) (by kernel_rfl) rfl (fun _ _ _ h=>h) rfl rfl ?hy (by assumption) ?_
       case hy=>(intro w' hSw;(try dsimp only at hSw);go_simp<;>(try with_reducible rfl))
       simp only[Act.put,pA,pB,pC]
       refine tk9 7 (some 41) (.slice none (S.length - m) (c3 - m)) ?_ (hy:=?hy)
       case hy=>(intro w' hSw;(try dsimp only at hSw);go_simp<;>(try with_reducible rfl))
       simp only[Act.put,pA,pB,pC]
       refine on9 4 ?_
       go_simp
       have HB1:Hid (Below wr.heap.size wr (wr.alloc (.cells #[.int .i64 (k:Nat)] 3)).drew):=((Below.refl _ wr).alloc (Nat.le_refl _) _).drew
       have HO1:Hid ((wr.alloc (.cells #[.int .i64 (k:Nat)] 3)).drew.ownsRow wr.heap.size 3 1 (.slice (some ⟨wr.heap.size,0,none⟩) 1 1) 1 (cellsN .i64 [(k:Int)])):=own_one wr (k:Int) 3 .i64
       have hz1:wr.heap.size<(wr.alloc (.cells #[.int .i64 (k:Nat)] 3)).drew.heap.size:=by simp
       generalize (wr.alloc (.cells #[.int .i64 (k:Nat)] 3)).drew=w1 at*
       refine on9 8 ?_
       refine wp_append_nums _ _ 135 3 8 .i64 Tryz.underlying135 infoI (by omega) rfl wr.heap.size _ 1 [(k:Int)] rfl HO1.out none ((natI S).drop m) (S.length - m) (c3 - m) rfl (by rw[List.length_drop,hnl]) (HND.out _ HB1.out) (fun _=>by have:=HNC2.out;omega) (by omega) (by omega) ?_
       intro v8 w8 hown8 hgrow8
       have hb8:Below wr.heap.size wr w8:=HB1.out.grown hgrow8 HB1.out.size (fun q hq=>(HO1.out.lt q hq).1)
       obtain⟨a8,c8,rfl,n8, -, -, -,hbd8⟩:=own_nts hown8
       have hsz8:w1.heap.size≤w8.heap.size:=hgrow8.size
       cases a8 with
       |none=>
        have:=nts_none n8
        simp at this
       |some ad8=>
        clear hown8 hgrow8
        have HO8:Hid (w8.ownsRow w.heap.size 3 1 (.slice none S.length c3) S.length (cellsN .i64 (natI S))):=ownN_below HO.out hb8
        have HT8:Hid (w8.ownsRow w.heap.size 3 1 (.slice none m c3) m (cellsN .i64 ((natI S).take m))):=ownN_take HO8.out hm
        refine⟨.inr trivial,?_⟩
        simp only[Act.put,List.setIfInBounds_toArray]
        refine on9 9 ?_
        refine wp_append_nums _ _ 135 3 8 .i64 Tryz.underlying135 infoI (by omega) rfl w.heap.size _ m ((natI S).take m) rfl HT8.out (some ad8) ([(k:Int)]++(natI S).drop m) (1+(S.length - m)) c8 rfl (by rw[List.length_append,List.length_drop,hnl];rfl) n8 (fun e=>by cases e) (by omega) (by omega) ?_
        intro v9 w9 hown9 hgrow9
        have HB9:Hid (Below w.heap.size w w9):=(HB.out.trans (hb8.mono HB.out.size)).grown hgrow9 (by have:=hb8.size;omega) (fun q hq=>(HT8.out.lt q hq).1)
        have HLEN:Hid ((S.take m++[k]++S.drop m).length=m+(1+(S.length - m))):=by
         show _=_
         rw[List.length_append,List.length_append,List.length_take,List.length_drop,Nat.min_eq_left hm]
         simp
         omega
        have HO9:Hid (w9.ownsRow w.heap.size 3 1 v9 (S.take m++[k]++S.drop m).length (cellsN .i64 (natI (S.take m++[k]++S.drop m)))):=by
         show World.ownsRow _ _ _ _ _ _ _
         rw[HLEN.out,natI_append,natI_append,natI_take,natI_drop,List.append_assoc]
         exact hown9
        have hl9:(S.take m++[k]++S.drop m).length≤k+1:=by rw[HLEN.out];omega
        clear hown9 hgrow9 hb8 n8 hbd8
        refine⟨.inr trivial,?_⟩
        simp only[Act.put]
        refine wpAnyE_tk (i:=10) (d:=some 3) (v:=?_) rfl (by kernel_rfl) (by kernel_rfl) (by kernel_rfl) rfl (fun _ _ _ h=>h) rfl rfl ?hy (by assumption) ?_
        case hy=>(intro w' hSw;(try dsimp only at hSw);go_simp<;>(try with_reducible rfl))
        simp only[Act.put]
        refine wpAnyE_done (by kernel_rfl) ?_ _
        go_wp2
        go_roundw
        case rel=>exact⟨k+1,S.take m++[k]++S.drop m,by go_num,by omega,hl9,HPUT,HO9,HB9⟩
        case measure=>simp[intOf];omega
      |some ad=>
       obtain⟨hg0,hg1,ho,hsp⟩:=HBD.out ad rfl
       obtain⟨g3,o3,sp⟩:=ad
       simp only at hg0 hg1 ho hsp
       subst ho hsp
       obtain⟨ADX,hAD,HND⟩:=out_drop HN3.out m c3 (by rw[hnl];exact hle3)
       have HPUT:Hid (OrdOk l (k+1) (S.take m++[k]++S.drop m)):=HK.out.put (by rw[HR.out];omega) hm HM.out (.inl HM0.out)
       have hMc:((m:Nat):Int)≤(c3:Int):=by omega
       have hMl:((m:Nat):Int)≤(S.length:Int):=by omega
       have hmS:m≤S.length:=hm
       go_wp2_with fail
       clear hm0'
       refine wp_region_late (fun _=>True) 11 (by kernel_rfl) trivial (fun hHeld=>?_)
       refine wpAnyE_tk (i:=0) (d:=some 34) (v:=?_) rfl (by kernel_rfl) (by kernel_rfl) (by kernel_rfl) rfl (fun _ _ _ h=>h) rfl rfl ?hy (by assumption) ?_
       case hy=>(intro w' hSw;(try dsimp only at hSw);go_simp<;>(try with_reducible rfl))
       simp only[Act.put,pA,pB,pC]
       refine wpAnyE_tk (i:=1) (d:=some 35) (v:=?_) rfl (by kernel_rfl) (by kernel_rfl) (by kernel_rfl) rfl (fun _ _ _ h=>h) rfl rfl ?hy (by assumption) ?_
       case hy=>(intro w' hSw;(try dsimp only at hSw);go_simp<;>(try with_reducible rfl))
       simp only[Act.put,pA,pB,pC]
       refine tk9 2 (some 36) (.slice (some ⟨g3,0,none⟩) m c3) ?_ (hy:=?hy)
       case hy=>(intro w' hSw;(try dsimp only at hSw);go_simp<;>(try with_reducible rfl))
       simp only[Act.put,pA,pB,pC]
       refine wpAnyE_tk (i:=3) (d:=some 37) (v:=?_) rfl (by kernel_rfl) (by kernel_rfl) (by kernel_rfl) rfl (fun _ _ _ h=>h) rfl rfl ?hy (by assumption) ?_
       case hy=>(intro w' hSw;(try dsimp only at hSw);go_simp<;>(try with_reducible rfl))
       simp only[Act.put,pA,pB,pC]
       refine wpAnyE_tk (i:=5) (d:=some 39) (v:=?_) rfl (by kernel_rfl) (by kernel_rfl) (by kernel_rfl) rfl (fun _ _ _ h=>h) rfl rfl ?hy (by assumption) ?_
       case hy=>(intro w' hSw;(try dsimp only at hSw);go_simp<;>(try with_reducible rfl))
       simp only[Act.put,pA,pB,pC]
       refine wpAnyE_tk (i:=6) (d:=some 40) (v:=?_) rfl (by kernel_rfl) (by kernel_rfl) (by kernel_rfl) rfl (fun _ _ _ h=>h) rfl rfl ?hy (by assumption) ?_
       case hy=>(intro w' hSw;(try dsimp only at hSw);go_simp<;>(try with_reducible rfl))
       simp only[Act.put,pA,pB,pC]
       refine tk9 7 (some 41) (.slice (some ADX) (S.length - m) (c3 - m)) ?_ (hy:=?hy)
       case hy=>(intro w' hSw;(try dsimp only at hSw);go_simp<;>(try with_reducible rfl))
       simp only[Act.put,pA,pB,pC]
       refine on9 4 ?_
       go_simp
       have HB1:Hid (Below wr.heap.size wr (wr.alloc (.cells #[.int .i64 (k:Nat)] 3)).drew):=((Below.refl _ wr).alloc (Nat.le_refl _) _).drew
       have HO1:Hid ((wr.alloc (.cells #[.int .i64 (k:Nat)] 3)).drew.ownsRow wr.heap.size 3 1 (.slice (some ⟨wr.heap.size,0,none⟩) 1 1) 1 (cellsN .i64 [(k:Int)])):=own_one wr (k:Int) 3 .i64
       have hz1:wr.heap.size<(wr.alloc (.cells #[.int .i64 (k:Nat)] 3)).drew.heap.size:=by simp
       generalize (wr.alloc (.cells #[.int .i64 (k:Nat)] 3)).drew=w1 at*
       refine on9 8 ?_
       refine wp_append_nums _ _ 135 3 8 .i64 Tryz.underlying135 infoI (by omega) rfl wr.heap.size _ 1 [(k:Int)] rfl HO1.out (some ADX) ((natI S).drop m) (S.length - m) (c3 - m) rfl (by rw[List.length_drop,hnl]) (HND.out _ HB1.out) (fun e=>by cases e) (by omega) (by omega) ?_
       intro v8 w8 hown8 hgrow8
       have hb8:Below wr.heap.size wr w8:=HB1.out.grown hgrow8 HB1.out.size (fun q hq=>(HO1.out.lt q hq).1)
       obtain⟨a8,c8,rfl,n8, -, -, -,hbd8⟩:=own_nts hown8
       have hsz8:w1.heap.size≤w8.heap.size:=hgrow8.size
       cases a8 with
       |none=>
        have:=nts_none n8
        simp at this
       |some ad8=>
        clear hown8 hgrow8
        have HO8:Hid (w8.ownsRow w.heap.size 3 1 (.slice (some ⟨g3,0,none⟩) S.length c3) S.length (cellsN .i64 (natI S))):=ownN_below HO.out hb8
        have HT8:Hid (w8.ownsRow w.heap.size 3 1 (.slice (some ⟨g3,0,none⟩) m c3) m (cellsN .i64 ((natI S).take m))):=ownN_take HO8.out hm
        refine⟨.inr trivial,?_⟩
        simp only[Act.put,List.setIfInBounds_toArray]
        refine on9 9 ?_
        refine wp_append_nums _ _ 135 3 8 .i64 Tryz.underlying135 infoI (by omega) rfl w.heap.size _ m ((natI S).take m) rfl HT8.out (some ad8) ([(k:Int)]++(natI S).drop m) (1+(S.length - m)) c8 rfl (by rw[List.length_append,List.length_drop,hnl];rfl) n8 (fun e=>by cases e) (by omega) (by omega) ?_
        intro v9 w9 hown9 hgrow9
        have HB9:Hid (Below w.heap.size w w9):=(HB.out.trans (hb8.mono HB.out.size)).grown hgrow9 (by have:=hb8.size;omega) (fun q hq=>(HT8.out.lt q hq).1)
        have HLEN:Hid ((S.take m++[k]++S.drop m).length=m+(1+(S.length - m))):=by
         show _=_
         rw[List.length_append,List.length_append,List.length_take,List.length_drop,Nat.min_eq_left hm]
         simp
         omega
        have HO9:Hid (w9.ownsRow w.heap.size 3 1 v9 (S.take m++[k]++S.drop m).length (cellsN .i64 (natI (S.take m++[k]++S.drop m)))):=by
         show World.ownsRow _ _ _ _ _ _ _
         rw[HLEN.out,natI_append,natI_append,natI_take,natI_drop,List.append_assoc]
         exact hown9
        have hl9:(S.take m++[k]++S.drop m).length≤k+1:=by rw[HLEN.out];omega
        clear hown9 hgrow9 hb8 n8 hbd8
        refine⟨.inr trivial,?_⟩
        simp only[Act.put]
        refine wpAnyE_tk (i:=10) (d:=some 3) (v:=?_) rfl (by kernel_rfl) (by kernel_rfl) (by kernel_rfl) rfl (fun _ _ _ h=>h) rfl rfl ?hy (by assumption) ?_
        case hy=>(intro w' hSw;(try dsimp only at hSw);go_simp<;>(try with_reducible rfl))
        simp only[Act.put]
        refine wpAnyE_done (by kernel_rfl) ?_ _
        go_wp2
        go_roundw
        case rel=>exact⟨k+1,S.take m++[k]++S.drop m,by go_num,by omega,hl9,HPUT,HO9,HB9⟩
        case measure=>simp[intOf];omega
     ·have hm1:(m:Int) - 1=((m - 1:Nat):Int):=by omega
      have hm0':0<(m:Int):=by omega
      have hmS1:m - 1<S.length:=by omega
      obtain⟨g3,o3,rfl,hg1,hc3⟩:=HN3.out.cell (m - 1) (by rw[hnl];exact hmS1)
      obtain⟨hg0, -,ho, -⟩:=HBD.out _ rfl
      simp only at hg0 ho
      subst ho
      have hx1:(natI S)[m - 1]'(by rw[hnl];exact hmS1)=((S[m - 1]:Nat):Int):=by simp[natI]
      rw[hx1,Nat.zero_add]at hc3
      have hSl:=(HK.out.lt (List.getElem_mem hmS1)).1
      have hRS:rn l S[m - 1]=l[S[m - 1]]'(by omega):=rn_get l _ (by omega)
      obtain⟨g4,o4,e4, -,hc4⟩:=HLr.out.cell S[m - 1] (by omega)
      injection e4 with e4
      injection e4 with e5 e6
      subst e5 e6
      have HRS:Hid (_=_):=hRS
      have hix:((S[m - 1]:Nat):Int)<(l.length:Int):=by omega
      have hmc:((m - 1:Nat):Int)<(S.length:Int):=by omega
      clear hRS hx1
      by_cases hgt:l[k]<l[S[m - 1]]'(by omega)
      ·have HM2:Hid (∀j (hj:j<S.length),m - 1≤j→rn l k<rn l S[j]):=fun j hj hjm=>by
        rcases Nat.lt_or_ge j m with h|h
        ·obtain rfl:j=m - 1:=by omega
         rw[HR.out,HRS.out];exact hgt
        ·exact HM.out j hj h
       go_wp2
       go_round
       case rel=>exact⟨m - 1,by first|rfl|go_num,by omega,HM2⟩
       case measure=>simp[intOf];omega
      ·have HLO:Hid (m=0∨∃hj:m - 1<S.length,rn l S[m - 1]≤rn l k):=.inr ⟨hmS1,by rw[HR.out,HRS.out];omega⟩
       obtain⟨ADX,hAD,HND⟩:=out_drop HN3.out m c3 (by rw[hnl];exact hle3)
       have HPUT:Hid (OrdOk l (k+1) (S.take m++[k]++S.drop m)):=HK.out.put (by rw[HR.out];omega) hm HM.out HLO.out
       have hMc:((m:Nat):Int)≤(c3:Int):=by omega
       have hMl:((m:Nat):Int)≤(S.length:Int):=by omega
       have hmS:m≤S.length:=hm
       go_wp2_with fail
       clear hm0' hm1 hgt hix hmc hc3 hc4
       refine wp_region_late (fun _=>True) 11 (by kernel_rfl) trivial (fun hHeld=>?_)
       refine wpAnyE_tk (i:=0) (d:=some 34) (v:=?_) rfl (by kernel_rfl) (by kernel_rfl) (by kernel_rfl) rfl (fun _ _ _ h=>h) rfl rfl ?hy (by assumption) ?_
       case hy=>(intro w' hSw;(try dsimp only at hSw);go_simp<;>(try with_reducible rfl))
       simp only[Act.put,pA,pB,pC]
       refine wpAnyE_tk (i:=1) (d:=some 35) (v:=?_) rfl (by kernel_rfl) (by kernel_rfl) (by kernel_rfl) rfl (fun _ _ _ h=>h) rfl rfl ?hy (by assumption) ?_
       case hy=>(intro w' hSw;(try dsimp only at hSw);go_simp<;>(try with_reducible rfl))
       simp only[Act.put,pA,pB,pC]
       refine tk9 2 (some 36) (.slice (some ⟨g3,0,none⟩) m c3) ?_ (hy:=?hy)
       case hy=>(intro w' hSw;(try dsimp only at hSw);go_simp<;>(try with_reducible rfl))
       simp only[Act.put,pA,pB,pC]
       refine wpAnyE_tk (i:=3) (d:=some 37) (v:=?_) rfl (by kernel_rfl) (by kernel_rfl) (by kernel_rfl) rfl (fun _ _ _ h=>h) rfl rfl ?hy (by assumption) ?_
       case hy=>(intro w' hSw;(try dsimp only at hSw);go_simp<;>(try with_reducible rfl))
       simp only[Act.put,pA,pB,pC]
       refine wpAnyE_tk (i:=5) (d:=some 39) (v:=?_) rfl (by kernel_rfl) (by kernel_rfl) (by kernel_rfl) rfl (fun _ _ _ h=>h) rfl rfl ?hy (by assumption) ?_
       case hy=>(intro w' hSw;(try dsimp only at hSw);go_simp<;>(try with_reducible rfl))
       simp only[Act.put,pA,pB,pC]
       refine wpAnyE_tk (i:=6) (d:=some 40) (v:=?_) rfl (by kernel_rfl) (by kernel_rfl) (by kernel_rfl) rfl (fun _ _ _ h=>h) rfl rfl ?hy (by assumption) ?_
       case hy=>(intro w' hSw;(try dsimp only at hSw);go_simp<;>(try with_reducible rfl))
       simp only[Act.put,pA,pB,pC]
       refine tk9 7 (some 41) (.slice (some ADX) (S.length - m) (c3 - m)) ?_ (hy:=?hy)
       case hy=>(intro w' hSw;(try dsimp only at hSw);go_simp<;>(try with_reducible rfl))
       simp only[Act.put,pA,pB,pC]
       refine on9 4 ?_
       go_simp
       have HB1:Hid (Below wr.heap.size wr (wr.alloc (.cells #[.int .i64 (k:Nat)] 3)).drew):=((Below.refl _ wr).alloc (Nat.le_refl _) _).drew
       have HO1:Hid ((wr.alloc (.cells #[.int .i64 (k:Nat)] 3)).drew.ownsRow wr.heap.size 3 1 (.slice (some ⟨wr.heap.size,0,none⟩) 1 1) 1 (cellsN .i64 [(k:Int)])):=own_one wr (k:Int) 3 .i64
       have hz1:wr.heap.size<(wr.alloc (.cells #[.int .i64 (k:Nat)] 3)).drew.heap.size:=by simp
       generalize (wr.alloc (.cells #[.int .i64 (k:Nat)] 3)).drew=w1 at*
       refine on9 8 ?_
       refine wp_append_nums _ _ 135 3 8 .i64 Tryz.underlying135 infoI (by omega) rfl wr.heap.size _ 1 [(k:Int)] rfl HO1.out (some ADX) ((natI S).drop m) (S.length - m) (c3 - m) rfl (by rw[List.length_drop,hnl]) (HND.out _ HB1.out) (fun e=>by cases e) (by omega) (by omega) ?_
       intro v8 w8 hown8 hgrow8
       have hb8:Below wr.heap.size wr w8:=HB1.out.grown hgrow8 HB1.out.size (fun q hq=>(HO1.out.lt q hq).1)
       obtain⟨a8,c8,rfl,n8, -, -, -,hbd8⟩:=own_nts hown8
       have hsz8:w1.heap.size≤w8.heap.size:=hgrow8.size
       cases a8 with
       |none=>
        have:=nts_none n8
        simp at this
       |some ad8=>
        clear hown8 hgrow8
        have HO8:Hid (w8.ownsRow w.heap.size 3 1 (.slice (some ⟨g3,0,none⟩) S.length c3) S.length (cellsN .i64 (natI S))):=ownN_below HO.out hb8
        have HT8:Hid (w8.ownsRow w.heap.size 3 1 (.slice (some ⟨g3,0,none⟩) m c3) m (cellsN .i64 ((natI S).take m))):=ownN_take HO8.out hm
        refine⟨.inr trivial,?_⟩
        simp only[Act.put,List.setIfInBounds_toArray]
        refine on9 9 ?_
        refine wp_append_nums _ _ 135 3 8 .i64 Tryz.underlying135 infoI (by omega) rfl w.heap.size _ m ((natI S).take m) rfl HT8.out (some ad8) ([(k:Int)]++(natI S).drop m) (1+(S.length - m)) c8 rfl (by rw[List.length_append,List.length_drop,hnl];rfl) n8 (fun e=>by cases e) (by omega) (by omega) ?_
        intro v9 w9 hown9 hgrow9
        have HB9:Hid (Below w.heap.size w w9):=(HB.out.trans (hb8.mono HB.out.size)).grown hgrow9 (by have:=hb8.size;omega) (fun q hq=>(HT8.out.lt q hq).1)
        have HLEN:Hid ((S.take m++[k]++S.drop m).length=m+(1+(S.length - m))):=by
         show _=_
         rw[List.length_append,List.length_append,List.length_take,List.length_drop,Nat.min_eq_left hm]
         simp
         omega
        have HO9:Hid (w9.ownsRow w.heap.size 3 1 v9 (S.take m++[k]++S.drop m).length (cellsN .i64 (natI (S.take m++[k]++S.drop m)))):=by
         show World.ownsRow _ _ _ _ _ _ _
         rw[HLEN.out,natI_append,natI_append,natI_take,natI_drop,List.append_assoc]
         exact hown9
        have hl9:(S.take m++[k]++S.drop m).length≤k+1:=by rw[HLEN.out];omega
        clear hown9 hgrow9 hb8 n8 hbd8
        refine⟨.inr trivial,?_⟩
        simp only[Act.put]
        refine wpAnyE_tk (i:=10) (d:=some 3) (v:=?_) rfl (by kernel_rfl) (by kernel_rfl) (by kernel_rfl) rfl (fun _ _ _ h=>h) rfl rfl ?hy (by assumption) ?_
        case hy=>(intro w' hSw;(try dsimp only at hSw);go_simp<;>(try with_reducible rfl))
        simp only[Act.put]
        refine wpAnyE_done (by kernel_rfl) ?_ _
        go_wp2
        go_roundw
        case rel=>exact⟨k+1,S.take m++[k]++S.drop m,by go_num,by omega,hl9,HPUT,HO9,HB9⟩
        case measure=>simp[intOf];omega
  ·obtain rfl:k=l.length:=by omega
   have HD:Hid (S=ordW l):=HK.out.done
   go_wp2
   go_ret
   refine⟨⟨_,rfl,?_⟩,HB.out⟩
   rw[←HD.out]
   exact HO.out
open Go.RowKit
theorem dg_ext:∀v:Fin 36,((⟨#[97,98,99,100,101,102,103,104,105,106,107,108,109,110,111,112,113,114,115,116,117,118,119,120,121,122,48,49,50,51,52,53,54,55,56,57]⟩:ByteArray).extract v.val (v.val+1))=⟨#[dgt v.val]⟩:=by decide+kernel
theorem ba_cons (x:UInt8) (l:List UInt8):(⟨#[x]⟩:ByteArray)++⟨l.toArray⟩=⟨(x::l).toArray⟩:=by
 apply ByteArray.ext
 rw[ByteArray.data_append]
 simp
set_option maxHeartbeats 4000000 in
set_option maxRecDepth 100000 in
theorem dlet_any (q:Nat):∀(i bias:Nat) (w:World),q≤2147483647→i+q≤4294967296→bias≤8589934592→
  Calls Tryz.prog 156 #[.int .i64 q,.int .i64 i,.int .i64 bias] w fun e w'=>e=.returned (.string ⟨(digs q i bias).toArray⟩)∧Below w.heap.size w w':=by
 induction q using Nat.strongRecOn with
 |_ q ih=>
  intro i bias w hq hi hb
  have HBN:=dbound_any i bias (by omega) hb w
  have hb1:=bnd_pos i bias
  have hb2:=bnd_le i bias
  by_cases h:q<bnd i bias
  ·have HD:Hid (digs q i bias=[dgt q]):=digs_last h
   have hx:=dg_ext ⟨q,by omega⟩
   simp only at hx
   generalize bnd i bias=t at*
   have h':(q:Int)<(t:Int):=by omega
   go_enter Tryz.func156,Tryz.ntmps156
   go_wp2_with fail
   refine HBN.mono ?_
   rintro e w1 ⟨rfl,rfl⟩
   clear HBN ih
   go_wp2
   go_ret
   exact⟨by rw[HD.out];rfl,Below.refl _ _⟩
  ·have HD:Hid (_=_):=digs_more h
   have hl:=digs_less h
   have hm:(q - bnd i bias) % (36 - bnd i bias)<36 - bnd i bias:=Nat.mod_lt _ (by omega)
   have hx:=dg_ext ⟨bnd i bias+(q - bnd i bias) % (36 - bnd i bias),by omega⟩
   simp only at hx
   have HIH:Hid (∀wx,Calls Tryz.prog 156 #[.int .i64 (((q - bnd i bias) / (36 - bnd i bias):Nat):Int),.int .i64 ((i+1:Nat):Int),.int .i64 bias] wx fun e w'=>e=.returned (.string ⟨(digs ((q - bnd i bias) / (36 - bnd i bias)) (i+1) bias).toArray⟩)∧Below wx.heap.size wx w'):=fun wx=>ih _ hl (i+1) bias wx (by omega) (by omega) hb
   have t1:((q:Int) - (bnd i bias:Nat)).tmod (36 - ((bnd i bias:Nat):Int))=(((q - bnd i bias) % (36 - bnd i bias):Nat):Int):=by
    rw[Int.tmod_eq_emod_of_nonneg (by omega),show(q:Int) - (bnd i bias:Nat)=((q - bnd i bias:Nat):Int) from by omega,show 36 - ((bnd i bias:Nat):Int)=((36 - bnd i bias:Nat):Int) from by omega]
    push_cast
    rfl
   have t2:((q:Int) - (bnd i bias:Nat)).tdiv (36 - ((bnd i bias:Nat):Int))=(((q - bnd i bias) / (36 - bnd i bias):Nat):Int):=by
    rw[Int.tdiv_eq_ediv_of_nonneg (by omega),show(q:Int) - (bnd i bias:Nat)=((q - bnd i bias:Nat):Int) from by omega,show 36 - ((bnd i bias:Nat):Int)=((36 - bnd i bias:Nat):Int) from by omega]
    push_cast
    rfl
   have h':¬(q:Int)<((bnd i bias:Nat):Int):=by omega
   have h36:¬(36 - ((bnd i bias:Nat):Int)=0):=by omega
   generalize (q - bnd i bias) / (36 - bnd i bias)=DV at*
   generalize (q - bnd i bias) % (36 - bnd i bias)=MD at*
   generalize bnd i bias=t at*
   have hnl:¬9223372036854775807<1+(digs DV (i+1) bias).length:=by have:=digs_length DV (i+1) bias;omega
   generalize digs DV (i+1) bias=DL at*
   clear ih h
   go_enter Tryz.func156,Tryz.ntmps156
   go_wp2_with fail
   refine HBN.mono ?_
   rintro e w1 ⟨rfl,rfl⟩
   clear HBN
   obtain⟨V,hV⟩:∃V:Nat,V=t+MD:=⟨_,rfl⟩
   have hVi:(t:Int)+(MD:Int)=(V:Int):=by omega
   rw[←hV]at hx HD
   have hV36:V<36:=by omega
   clear hV
   have hi1:((i+1:Nat):Int)=(i:Int)+1:=by push_cast;rfl
   rw[hi1]at HIH
   clear hi1
   have hwV:IntKind.i64.wrap ((V:Int)+1)=(V:Int)+1:=by rw[IntKind.wrap_i64];omega
   have hwq:IntKind.i64.wrap ((q:Int) - (t:Int))=(q:Int) - (t:Int):=by rw[IntKind.wrap_i64];omega
   have hwt:IntKind.i64.wrap (36 - (t:Int))=36 - (t:Int):=by rw[IntKind.wrap_i64];omega
   have hwi:IntKind.i64.wrap ((i:Int)+1)=(i:Int)+1:=by rw[IntKind.wrap_i64];omega
   have hwd:IntKind.i64.wrap (DV:Int)=(DV:Int):=by rw[IntKind.wrap_i64];omega
   have hv0:0≤(V:Int)+1:=by omega
   have hv1:(V:Int)+1≤36:=by omega
   have hv2:((V:Int)+1).toNat=V+1:=by omega
   have hv3:(V:Int)≤(V:Int)+1:=by omega
   go_wp2_with fail
   refine wp_region_late (fun _=>True) 16 (by kernel_rfl) trivial (fun hHeld=>?_)
   refine wpAnyE_tk (i:=0) (d:=some 27) (v:=?_) rfl (by kernel_rfl) (by kernel_rfl) (by kernel_rfl) rfl (fun _ _ _ h=>h) rfl rfl ?hy (by assumption) ?_
   case hy=>(intro w' hSw;(try dsimp only at hSw);go_simp<;>(try with_reducible rfl))
   simp only[Act.put,pA,pB,pC]
   refine wpAnyE_tk (i:=1) (d:=some 28) (v:=?_) rfl (by kernel_rfl) (by kernel_rfl) (by kernel_rfl) rfl (fun _ _ _ h=>h) rfl rfl ?hy (by assumption) ?_
   case hy=>(intro w' hSw;(try dsimp only at hSw);go_simp<;>(try with_reducible rfl))
   simp only[Act.put,pA,pB,pC]
   refine tk9 2 (some 29) (.int .i64 ((V:Int)+1)) ?_ (hy:=?hy)
   case hy=>(intro w' hSw;(try dsimp only at hSw);go_simp<;>(try with_reducible rfl))
   simp only[Act.put,pA,pB,pC]
   refine tk9 3 (some 30) (.string ⟨#[dgt V]⟩) ?_ (hy:=?hy)
   case hy=>(intro w' hSw;(try dsimp only at hSw);go_simp<;>(try with_reducible rfl))
   simp only[Act.put,pA,pB,pC]
   refine wpAnyE_tk (i:=4) (d:=some 31) (v:=?_) rfl (by kernel_rfl) (by kernel_rfl) (by kernel_rfl) rfl (fun _ _ _ h=>h) rfl rfl ?hy (by assumption) ?_
   case hy=>(intro w' hSw;(try dsimp only at hSw);go_simp<;>(try with_reducible rfl))
   simp only[Act.put,pA,pB,pC]
   refine wpAnyE_tk (i:=5) (d:=some 32) (v:=?_) rfl (by kernel_rfl) (by kernel_rfl) (by kernel_rfl) rfl (fun _ _ _ h=>h) rfl rfl ?hy (by assumption) ?_
   case hy=>(intro w' hSw;(try dsimp only at hSw);go_simp<;>(try with_reducible rfl))
   simp only[Act.put,pA,pB,pC]
   refine tk9 6 (some 33) (.int .i64 ((q:Int) - (t:Int))) ?_ (hy:=?hy)
   case hy=>(intro w' hSw;(try dsimp only at hSw);go_simp<;>(try with_reducible rfl))
   simp only[Act.put,pA,pB,pC]
   refine wpAnyE_tk (i:=7) (d:=some 34) (v:=?_) rfl (by kernel_rfl) (by kernel_rfl) (by kernel_rfl) rfl (fun _ _ _ h=>h) rfl rfl ?hy (by assumption) ?_
   case hy=>(intro w' hSw;(try dsimp only at hSw);go_simp<;>(try with_reducible rfl))
   simp only[Act.put,pA,pB,pC]
   refine tk9 8 (some 35) (.int .i64 (36 - (t:Int))) ?_ (hy:=?hy)
   case hy=>(intro w' hSw;(try dsimp only at hSw);go_simp<;>(try with_reducible rfl))
   simp only[Act.put,pA,pB,pC]
   refine tk9 9 (some 36) (.int .i64 DV) ?_ (hy:=?hy)
   case hy=>(intro w' hSw;(try dsimp only at hSw);go_simp<;>(try with_reducible rfl))
   simp only[Act.put,pA,pB,pC]
   refine wpAnyE_tk (i:=10) (d:=some 37) (v:=?_) rfl (by kernel_rfl) (by kernel_rfl) (by kernel_rfl) rfl (fun _ _ _ h=>h) rfl rfl ?hy (by assumption) ?_
   case hy=>(intro w' hSw;(try dsimp only at hSw);go_simp<;>(try with_reducible rfl))
   simp only[Act.put,pA,pB,pC]
   refine tk9 11 (some 38) (.int .i64 ((i:Int)+1)) ?_ (hy:=?hy)
   case hy=>(intro w' hSw;(try dsimp only at hSw);go_simp<;>(try with_reducible rfl))
   simp only[Act.put,pA,pB,pC]
   refine wpAnyE_tk (i:=12) (d:=some 39) (v:=?_) rfl (by kernel_rfl) (by kernel_rfl) (by kernel_rfl) rfl (fun _ _ _ h=>h) rfl rfl ?hy (by assumption) ?_
   case hy=>(intro w' hSw;(try dsimp only at hSw);go_simp<;>(try with_reducible rfl))
   simp only[Act.put,pA,pB,pC]
   refine on9 13 ?_
   go_simp
   refine(HIH.out _).mono ?_
   rintro e w2 ⟨rfl,b2⟩
   have HB2:Hid (Below w1.heap.size w1 w2):=(Below.refl _ w1).drew.trans b2
   clear b2 hHeld
   have hHeld:True:=trivial
   refine tk9 14 (some 41) (.string (⟨#[dgt V]⟩++⟨DL.toArray⟩)) ?_ (hy:=?hy)
   case hy=>(intro w' hSw;(try dsimp only at hSw);go_simp<;>(try with_reducible rfl))
   simp only[Act.put,pA,pB,pC]
   refine wpAnyE_tk (i:=15) (d:=some 6) (v:=?_) rfl (by kernel_rfl) (by kernel_rfl) (by kernel_rfl) rfl (fun _ _ _ h=>h) rfl rfl ?hy (by assumption) ?_
   case hy=>(intro w' hSw;(try dsimp only at hSw);go_simp<;>(try with_reducible rfl))
   simp only[Act.put,pA,pB,pC]
   refine wpAnyE_done (by kernel_rfl) ?_ _
   go_wp2
   go_ret
   refine⟨?_,HB2.out⟩
   rw[HD.out,←ba_cons]
   rfl
end Go.Proofs.YtfjpkfhbmldmfaaGreatDoor
