/-
  The program's route.
-/
import Derived.Test.YtfjpkfhbmldmfabGreatDoorXl9
import Derived.Test.YtfjpkfhbmldmfabGreatDoorXo9
namespace Go.Proofs.YtfjpkfhbmldmfabGreatDoor
open Go.RowKit
def ComeR (b:Nat) (s:ByteArray) (wide:Bool) (w:World) (X:Except (Nat×Nat) (List Ho×Nat)) (e:Ending) (w':World):Prop:=
 But b w w'∧match X with
  | .ok (l,n)=>∃v,e=.returned v∧RdAt w' b s n wide 0 0∧w'.ownsRow w.heap.size 28 18 v l.length (cellsH l)
  | .error (er,p)=>e=gaveUp er∧∃a,RdAt w' b s a wide er p
theorem ownH_but {w w':World} {B n t k b:Nat} {v:Value} {xs:List Value} (h:w.ownsRow B t k v n xs) (hb:But b w w') (hB:b<B):w'.ownsRow B t k v n xs:=ownH_keep h (fun j hj=>hb.block j (h.lt j hj).2 (by have:=(h.lt j hj).1;omega))
theorem But.grown {g:Nat} {a b c:World} {row:Option Nat} (h:But g a b) (hg:b.grownBy c row) (hr:∀k,row=some k→a.heap.size≤k):But g a c:=by
 have h1:=(Below.refl b.heap.size b)
 refine⟨?_,?_,?_,?_,fun j hj hne=>?_⟩
 ·exact(Below.grown (B:=a.heap.size) (Below.refl _ _) hg h.size hr).os.trans h.os
 ·exact(Below.grown (B:=a.heap.size) (Below.refl _ _) hg h.size hr).tape.trans h.tape
 ·exact(Below.grown (B:=a.heap.size) (Below.refl _ _) hg h.size hr).output.trans h.output
 ·exact Nat.le_trans h.size (Below.grown (B:=a.heap.size) (Below.refl _ _) hg h.size hr).size
 ·exact((Below.grown (B:=a.heap.size) (Below.refl _ _) hg h.size hr).block j hj).trans (h.block j hj hne)
def plOf (w:World) (b:Nat):Nat:=match w.cell? ⟨b,1,none⟩ with
 |some (.int _ n)=>n.toNat
 |_=>0
theorem RdAt.pl {w:World} {b:Nat} {s:ByteArray} {a:Nat} {wide:Bool} {er p:Nat} (h:RdAt w b s a wide er p):plOf w b=a:=by
 unfold plOf
 rw[h.cells.2.1]
 simp
set_option maxHeartbeats 16000000 in
set_option maxRecDepth 100000 in
theorem route_any (b:Nat) (h10:10≤b) (s:ByteArray) (a:Nat) (ha:a≤s.size) (hs:s.size≤140737488355328) (wide:Bool) (w:World) (hT:Tb w) (h:RdAt w b s a wide 0 0):
  Calls Tryz.prog 37 #[.pointer (some ⟨b,0,none⟩)] w (ComeR b s wide w (shE a (rte wide 16 (s.data.toList.drop a)))):=by
 have hbw:=h.lt
 have HTB:Hid (∀wx,But b w wx→Tb wx):=fun wx hx=>hT.but hx h10
 obtain⟨X,hX⟩:∃X,X=rte wide 16 (s.data.toList.drop a):=⟨_,rfl⟩
 rw[←hX]
 have HX0:Hid (X=preR [] (a - a) (rte wide (16 - 0) (s.data.toList.drop a))):=by show _=_;rw[hX,Nat.sub_self];exact preR_nil _
 have HR0:Hid (RdAt w b s a wide 0 0):=h
 clear hX hT h
 go_enter Tryz.func37,Tryz.ntmps37
 go_wp2_with fail
 go_loopw [3] (fun u wr=>∃(i:Nat) (acc:List Ho),a≤i∧i≤s.size∧acc.length≤16∧Hid (wr.ownsRow w.heap.size 28 18 u acc.length (cellsH acc))∧Hid (But b w wr)∧Hid (RdAt wr b s i wide 0 0)∧Hid (X=preR acc (i - a) (rte wide (16 - acc.length) (s.data.toList.drop i)))) (fun _ wr=>s.size - plOf wr b)
 case atStart=>exact⟨a,[],Nat.le_refl _,ha,Nat.zero_le _,⟨rfl,.inl ⟨rfl,rfl⟩⟩,But.refl _ _,HR0,HX0⟩
 case round=>
  obtain⟨i,acc,hai,hi,hacc,HO,HB,HR,HX⟩:=hrel
  obtain⟨sa,sc,rfl⟩:=ownH_len HO.out
  clear HX0 HR0
  have HPL:=HR.out.pl
  have HN64:Hid (Calls Tryz.prog 36 #[.pointer (some ⟨b,0,none⟩),.int .u8 64] wr fun e w'=>e=.returned (.bool (nxB s i 64))∧w'=wr.drew):=next_any b s i hi hs wide 0 0 64 wr HR.out
  by_cases h16:acc.length=16
  ·have h16b:((acc.length:Int)==16)=true:=by rw[beq_iff_eq];omega
   have HRT:Hid (∀hd:Bool,hd=nxB s i 64→X=.error (if hd=true then 92 else 93,i - a)):=fun hd hh=>by
    rw[HX.out,h16]
    have e0:16 - 16=0:=rfl
    rw[e0,rte]
    cases hd
    ·rw[if_neg (fun hc=>by unfold nxB at hh;rw[decide_eq_true hc]at hh;cases hh),preR,if_neg (by decide),Nat.add_zero]
    ·rw[if_pos (by unfold nxB at hh;exact of_decide_eq_true hh.symm),preR,if_pos rfl,Nat.add_zero]
   obtain⟨x,hx⟩:∃x,x=nxB s i 64:=⟨_,rfl⟩
   have HXQ:=HRT.out x hx
   rw[←hx]at HN64
   clear HRT
   cases x
   ·rw[if_neg (by decide)]at HXQ
    have HXX:Hid (∃q,a+q=i∧X=.error (93,q)):=⟨i - a,by omega,HXQ⟩
    have HND:Hid (Calls Tryz.prog 35 #[.pointer (some ⟨b,0,none⟩),.int .u8 64] wr.drew (Come b s wide wr.drew (if nxB s i 64=true then .ok (.tuple #[],i+1) else .error (93,i)))):=need_any b s i hi hs wide 64 wr.drew HR.out.drew
    rw[←hx,if_neg (by decide)]at HND
    clear hx HXQ HX HO
    go_wp2_with fail
    refine HN64.out.mono ?_
    rintro e w1 ⟨rfl,rfl⟩
    go_wp2_with fail
    refine HND.out.mono ?_
    rintro e w9 ⟨q1,rfl,a',q2⟩
    obtain⟨q,hq,rfl⟩:=HXX.out
    exact⟨rfl,HB.out.drew.trans q1,rfl,a',(by rw[hq];exact q2)⟩
   ·rw[if_pos rfl]at HXQ
    have HXX:Hid (∃q,a+q=i∧X=.error (92,q)):=⟨i - a,by omega,HXQ⟩
    have HF:Hid (Calls Tryz.prog 31 #[.pointer (some ⟨b,0,none⟩),.int .i64 92,.int .i64 (i:Nat)] wr.drew fun e w'=>e=gaveUp 92∧RdAt w' b s i wide 92 i∧But b wr.drew w'):=fail_any b s i wide 92 i wr.drew HR.out.drew
    obtain⟨_,c1,_,_,_⟩:=HR.out.drew.cells
    clear hx HXQ HX HO
    go_wp2_with fail
    refine HN64.out.mono ?_
    rintro e w1 ⟨rfl,rfl⟩
    go_wp2_with fail
    refine HF.out.mono ?_
    rintro e w9 ⟨rfl,q1,q2⟩
    obtain⟨q,hq,rfl⟩:=HXX.out
    exact⟨rfl,HB.out.drew.trans q2,rfl,_,(by rw[hq];exact q1)⟩
  ·have h16b:((acc.length:Int)==16)=false:=by rw[beq_eq_false_iff_ne];omega
   obtain⟨m,hm⟩:∃m,16 - acc.length=m+1:=⟨15 - acc.length,by omega⟩
   have HX1:=HX.out
   rw[hm]at HX1
   have HND:Hid (Calls Tryz.prog 35 #[.pointer (some ⟨b,0,none⟩),.int .u8 64] wr (Come b s wide wr (if nxB s i 64=true then .ok (.tuple #[],i+1) else .error (93,i)))):=need_any b s i hi hs wide 64 wr HR.out
   by_cases hx:(s.data.toList.drop i).head?=some 64
   ·have hnx:nxB s i 64=true:=decide_eq_true hx
    have hil:i<s.size:=by
     rcases Nat.lt_or_ge i s.size with hl|hl
     ·exact hl
     ·rw[drop_past s i hl]at hx
      cases hx
    rw[hnx,if_pos rfl]at HND
    rw[rte_at hx]at HX1
    have HX2:Hid (X=preR acc (i - a) (match hst wide (s.data.toList.drop (i+1)) with
     | .error (e,p)=>.error (e,1+p)
     | .ok (h,n)=>if h.k=1 then (if (s.data.toList.drop (i+1+n)).head?=some 58 then .ok ([h],1+n+1)
      else if (s.data.toList.drop (i+1+n)).head?=some 44 then moreR h (1+n+1) (rte wide m (s.data.toList.drop (i+1+n+1)))
      else .error (92,1+n)) else .error (92,1))):=HX1
    have HM:Hid (16 - acc.length=m+1):=hm
    clear hx hnx HX1 HX HN64 hm
    go_wp2_with fail
    refine HND.out.mono ?_
    rintro e w1 ⟨hb1,rfl,hr1⟩
    have HB1:Hid (But b w w1):=HB.out.trans hb1
    have HO1:Hid (w1.ownsRow w.heap.size 28 18 (.slice sa acc.length sc) acc.length (cellsH acc)):=ownH_but HO.out hb1 hbw
    have HNM:Hid (Calls Tryz.prog 50 #[.pointer (some ⟨b,0,none⟩)] w1 (Come b s wide w1 (hoV (nmR (i+1) (shE (i+1) (hst wide (s.data.toList.drop (i+1)))))))):=name_any b h10 s (i+1) hil hs wide w1 (HTB.out w1 HB1.out) hr1
    clear hb1 hr1 HND HB HO HR
    cases hh:hst wide (s.data.toList.drop (i+1)) with
    |error y=>
     obtain⟨er,p⟩:=y
     rw[hh]at HNM HX2
     have HXX:Hid (∃q,a+q=i+1+p∧X=.error (er,q)):=⟨i - a+(1+p),by omega,HX2.out⟩
     clear hh HX2 HTB
     go_wp2_with fail
     refine HNM.out.mono ?_
     rintro e w9 ⟨q1,rfl,a',q2⟩
     obtain⟨q,hq,rfl⟩:=HXX.out
     exact⟨rfl,HB1.out.trans q1,rfl,a',(by rw[hq];exact q2)⟩
    |ok y=>
     obtain⟨ho,n⟩:=y
     rw[hh]at HNM HX2
     have hal:=hst_len hh
     have hnl:=(hst_is hh).2.1
     rw[List.length_drop,len_list]at hnl
     clear hh
     dsimp only[shE,nmR]at HNM HX2
     obtain⟨F,hF⟩:∃F,F=i+1+n:=⟨_,rfl⟩
     rw[←hF]at HNM HX2
     have hFs:F≤s.size:=by omega
     have HF0:Hid (F=i+1+n):=hF
     by_cases hk:ho.k=1
     ·rw[if_pos hk]at HNM HX2
      obtain⟨V,hV⟩:∃V,V=hostC ho:=⟨_,rfl⟩
      have hVz:V.size=18:=by rw[hV];exact hostC_size _ hal
      have hVo:V.all (·.oneCell')=true:=by rw[hV];exact hostC_one _
      have HVL:Hid (V.toList=cellsH [ho]):=by show _=_;rw[hV,cellsH_one]
      have HNM2:Hid (Calls Tryz.prog 50 #[.pointer (some ⟨b,0,none⟩)] w1 fun e w'=>e=.returned (.agg V)∧But b w1 w'∧RdAt w' b s F wide 0 0):=HNM.out.mono (fun e w' q=>by
       obtain⟨q1,q2,q3⟩:=q
       rw[hV]
       exact⟨q2,q1,q3⟩)
      have hbv:=build_one V hVz
      clear HNM hV hal hF hk
      go_wp2_with fail
      refine HNM2.out.mono ?_
      rintro e w2 ⟨rfl,hb2,hr2⟩
      have HB2:Hid (But b w w2):=HB1.out.trans hb2
      have HO2:Hid (w2.ownsRow w.heap.size 28 18 (.slice sa acc.length sc) acc.length (cellsH acc)):=ownH_but HO1.out hb2 hbw
      have HR2:Hid (RdAt w2 b s F wide 0 0):=hr2
      clear hb2 hr2 HNM2 HB1 HO1
      go_wp2_with (at_builtin;refine wpList_append_host rfl _ _ rfl w.heap.size _ acc.length (cellsH acc) rfl (ownH_below HO2.out ((Below.refl _ _).alloc (Nat.le_refl _) _)) w2.heap.size 1 V hVz hVo rfl (Lies.new w2 _ _) (by omega) (by have:=HB2.out.size;simp;omega) ?_)
      intro v9 w9 hown9 hgrow9
      have hg9:=grown_on (World.grownBy_alloc w2 _ ((.slice sa acc.length sc:Value)).ownBlock) hgrow9 (fun _ h=>.inl h.symm)
      have HB9:Hid (But b w w9):=HB2.out.grown hg9 (fun q hq=>(HO2.out.lt q hq).1)
      have HR9:Hid (RdAt w9 b s F wide 0 0):=⟨HR2.out.lies.below (Below.grown (B:=w.heap.size) (Below.refl _ _) hg9 HB2.out.size (fun q hq=>(HO2.out.lt q hq).1)) hbw⟩
      have HO9:Hid (w9.ownsRow w.heap.size 28 18 v9 (acc++[ho]).length (cellsH (acc++[ho]))):=by
       show World.ownsRow _ _ _ _ _ _ _
       rw[cellsH_append,←HVL.out,List.length_append,List.length_singleton]
       exact hown9
      clear hown9 hgrow9 hg9 HO2 HB2 HR2 hbv HVL
      have HN58:Hid (Calls Tryz.prog 36 #[.pointer (some ⟨b,0,none⟩),.int .u8 58] w9 fun e w'=>e=.returned (.bool (nxB s F 58))∧w'=w9.drew):=next_any b s F hFs hs wide 0 0 58 w9 HR9.out
      have HN44:Hid (Calls Tryz.prog 36 #[.pointer (some ⟨b,0,none⟩),.int .u8 44] w9.drew fun e w'=>e=.returned (.bool (nxB s F 44))∧w'=w9.drew.drew):=next_any b s F hFs hs wide 0 0 44 w9.drew HR9.out.drew
      have hFl:∀c,(s.data.toList.drop F).head?=some c→F<s.size:=fun c hc=>by
       rcases Nat.lt_or_ge F s.size with hl|hl
       ·exact hl
       ·rw[drop_past s F hl]at hc
        cases hc
      by_cases h58:(s.data.toList.drop F).head?=some 58
      ·have e58:nxB s F 58=true:=decide_eq_true h58
       rw[e58]at HN58
       have hFlt:=hFl 58 h58
       have HXX:Hid (∃q,a+q=F+1∧X=.ok (acc++[ho],q)):=⟨i - a+(1+n+1),by have:=HF0.out;omega,by rw[HX2.out,if_pos h58,preR]⟩
       obtain⟨_,c1,_,_,_⟩:=HR9.out.drew.cells
       have f1:=HR9.out.drew.lies.frozen 1
       have HG:Hid (RdAt (w9.drew.setCell ⟨b,1,none⟩ (.int .i64 ((F+1:Nat):Int))) b s (F+1) wide 0 0):=HR9.out.drew.go (F+1)
       have HGB:Hid (But b w (w9.drew.setCell ⟨b,1,none⟩ (.int .i64 ((F+1:Nat):Int)))):=HB9.out.drew.set _ _
       have HGO:Hid ((w9.drew.setCell ⟨b,1,none⟩ (.int .i64 ((F+1:Nat):Int))).ownsRow w.heap.size 28 18 v9 (acc++[ho]).length (cellsH (acc++[ho]))):=ownsRow_setCell_below HO9.out.drew (show b<w.heap.size from hbw) _
       clear e58 h58 HX2 HN44 HO9 hFl
       go_wp2_with fail
       refine HN58.out.mono ?_
       rintro e w3 ⟨rfl,rfl⟩
       go_wp2_with fail
       go_ret
       obtain⟨q,hq,rfl⟩:=HXX.out
       exact⟨HGB.out,v9,rfl,(by rw[hq];exact HG.out),HGO.out⟩
      ·have e58:nxB s F 58=false:=decide_eq_false h58
       rw[e58]at HN58
       obtain⟨_,c1,_,_,_⟩:=HR9.out.drew.drew.cells
       have f1:=HR9.out.drew.drew.lies.frozen 1
       by_cases h44:(s.data.toList.drop F).head?=some 44
       ·have e44:nxB s F 44=true:=decide_eq_true h44
        rw[e44]at HN44
        have hFlt:=hFl 44 h44
        have HX3:Hid (X=preR (acc++[ho]) (F+1 - a) (rte wide (16 - (acc++[ho]).length) (s.data.toList.drop (F+1)))):=by
         show X=_
         rw[HX2.out,if_neg h58,if_pos h44,preR_more]
         have e1:i - a+(1+n+1)=F+1 - a:=by have:=HF0.out;omega
         have e2:16 - (acc++[ho]).length=m:=by rw[List.length_append,List.length_singleton];have:=HM.out;omega
         rw[e1,e2]
        have HG:Hid (RdAt (w9.drew.drew.setCell ⟨b,1,none⟩ (.int .i64 ((F+1:Nat):Int))) b s (F+1) wide 0 0):=HR9.out.drew.drew.go (F+1)
        have HGB:Hid (But b w (w9.drew.drew.setCell ⟨b,1,none⟩ (.int .i64 ((F+1:Nat):Int)))):=HB9.out.drew.drew.set _ _
        have HGO:Hid ((w9.drew.drew.setCell ⟨b,1,none⟩ (.int .i64 ((F+1:Nat):Int))).ownsRow w.heap.size 28 18 v9 (acc++[ho]).length (cellsH (acc++[ho]))):=ownsRow_setCell_below HO9.out.drew.drew (show b<w.heap.size from hbw) _
        have hacc2:(acc++[ho]).length≤16:=by rw[List.length_append,List.length_singleton];omega
        have HPF:Hid (i<F):=by have:=HF0.out;show i<F;omega
        clear e58 e44 h58 h44 HX2 HO9 hFl
        go_wp2_with fail
        refine HN58.out.mono ?_
        rintro e w3 ⟨rfl,rfl⟩
        go_wp2_with fail
        refine HN44.out.mono ?_
        rintro e w3 ⟨rfl,rfl⟩
        go_wp2_with fail
        go_roundw
        case rel=>exact⟨F+1,acc++[ho],by have:=HPF.out;omega,hFlt,hacc2,HGO,HGB,HG,HX3⟩
        case measure=>
         have e1:=HG.out.pl
         have e2:=HPF.out
         have e3:plOf (w9.setCell ⟨b,1,none⟩ (.int .i64 ((F:Int)+1))).drew.drew b=F+1:=e1
         rw[e3,HPL]
         omega
       ·have e44:nxB s F 44=false:=decide_eq_false h44
        rw[e44]at HN44
        have HXX:Hid (∃q,a+q=F∧X=.error (92,q)):=⟨i - a+(1+n),by have:=HF0.out;omega,by rw[HX2.out,if_neg h58,if_neg h44,preR]⟩
        have HF:Hid (Calls Tryz.prog 31 #[.pointer (some ⟨b,0,none⟩),.int .i64 92,.int .i64 (F:Nat)] w9.drew.drew fun e w'=>e=gaveUp 92∧RdAt w' b s F wide 92 F∧But b w9.drew.drew w'):=fail_any b s F wide 92 F w9.drew.drew HR9.out.drew.drew
        clear e58 e44 h58 h44 HX2 HO9 hFl
        go_wp2_with fail
        refine HN58.out.mono ?_
        rintro e w3 ⟨rfl,rfl⟩
        go_wp2_with fail
        refine HN44.out.mono ?_
        rintro e w3 ⟨rfl,rfl⟩
        go_wp2_with fail
        refine HF.out.mono ?_
        rintro e w9 ⟨rfl,q1,q2⟩
        obtain⟨q,hq,rfl⟩:=HXX.out
        exact⟨rfl,HB9.out.drew.drew.trans q2,rfl,_,(by rw[hq];exact q1)⟩
     ·rw[if_neg hk]at HNM HX2
      have HXX:Hid (∃q,a+q=i+1∧X=.error (92,q)):=⟨i - a+1,by omega,HX2.out⟩
      clear hk HX2 HTB hal hF
      go_wp2_with fail
      refine HNM.out.mono ?_
      rintro e w9 ⟨q1,rfl,a',q2⟩
      obtain⟨q,hq,rfl⟩:=HXX.out
      exact⟨rfl,HB1.out.trans q1,rfl,a',(by rw[hq];exact q2)⟩
   ·have hnx:nxB s i 64=false:=decide_eq_false hx
    rw[hnx,if_neg (by decide)]at HND
    rw[rte_no _ hx]at HX1
    have HXX:Hid (∃q,a+q=i∧X=.error (93,q)):=⟨i - a+0,by omega,HX1⟩
    clear hx hnx HX1 HX HN64 hm HO
    go_wp2_with fail
    refine HND.out.mono ?_
    rintro e w9 ⟨q1,rfl,a',q2⟩
    obtain⟨q,hq,rfl⟩:=HXX.out
    exact⟨rfl,HB.out.trans q1,rfl,a',(by rw[hq];exact q2)⟩
end Go.Proofs.YtfjpkfhbmldmfabGreatDoor
