/-
  The program's route.
-/
import Derived.Test.YtfjpkfhbmldmfaaGreatDoorXl9
import Derived.Test.YtfjpkfhbmldmfaaGreatDoorQh9
import Derived.Test.YtfjpkfhbmldmfaaGreatDoorPtF
import Derived.Test.YtfjpkfhbmldmfaaGreatDoorWt8
import Derived.Test.YtfjpkfhbmldmfaaGreatDoorXq9
namespace Go.Proofs.YtfjpkfhbmldmfaaGreatDoor
open Go.RowKit
def ComeR (b:Nat) (s:ByteArray) (wide:Bool) (w:World) (X:Except (Nat×Nat) (List Ho×Nat)) (e:Ending) (w':World):Prop:=
 But b w w'∧match X with
  | .ok (l,n)=>∃v,e=.returned v∧RdAt w' b s n wide 0 0∧w'.ownsRow w.heap.size 25 18 v l.length (cellsH l)
  | .error (er,p)=>e=gaveUp er∧∃a,RdAt w' b s a wide er p
theorem ownH_but {w w':World} {B n t k b:Nat} {v:Value} {xs:List Value} (h:w.ownsRow B t k v n xs) (hb:But b w w') (hB:b<B):w'.ownsRow B t k v n xs:=ownH_keep h (fun j hj=>hb.block j (h.lt j hj).2 (by have:=(h.lt j hj).1;omega))
theorem But.grown {g:Nat} {a b c:World} {row:Option Nat} (h:But g a b) (hg:b.grownBy c row) (hr:∀k,row=some k→a.heap.size≤k):But g a c:=by
 have h1:=(Below.refl b.heap.size b)
 refine⟨?_,?_,?_,?_,fun j hj hne=>?_⟩
 ·exact(Below.grown (B:=a.heap.size) (Below.refl _ _) hg h.size hr).os.trans h.os
 ·exact(Below.grown (B:=a.heap.size) (Below.refl _ _) hg h.size hr).tape.trans h.tape
 ·exact(Below.grown (B:=a.heap.size) (Below.refl _ _) hg h.size hr).output.trans h.output
 ·exact Nat.le_trans h.size (Below.grown (B:=a.heap.size) (Below.refl _ _) hg h.size hr).size
 ·exact((Below.grown (B:=a.heap.size) (Below.refl _ _) hg h.size hr).block j hj).trans (h.block j hj hne)
def plOf (w:World) (b:Nat):Nat:=match w.cell? ⟨b,1,none⟩ with
 |some (.int _ n)=>n.toNat
 |_=>0
theorem RdAt.pl {w:World} {b:Nat} {s:ByteArray} {a:Nat} {wide:Bool} {er p:Nat} (h:RdAt w b s a wide er p):plOf w b=a:=by
 unfold plOf
 rw[h.cells.2.1]
 simp
set_option maxHeartbeats 16000000 in
set_option maxRecDepth 100000 in
theorem route_any (b:Nat) (h10:10≤b) (s:ByteArray) (a:Nat) (ha:a≤s.size) (hs:s.size≤140737488355328) (wide:Bool) (w:World) (hT:Tb w) (h:RdAt w b s a wide 0 0):
  Calls Tryz.prog 65 #[.pointer (some ⟨b,0,none⟩)] w (ComeR b s wide w (shE a (rte wide 16 (s.data.toList.drop a)))):=by
 have hbw:=h.lt
 have HTB:Hid (∀wx,But b w wx→Tb wx):=fun wx hx=>hT.but hx h10
 obtain⟨X,hX⟩:∃X,X=rte wide 16 (s.data.toList.drop a):=⟨_,rfl⟩
 rw[←hX]
 have HX0:Hid (X=preR [] (a - a) (rte wide (16 - 0) (s.data.toList.drop a))):=by show _=_;rw[hX,Nat.sub_self];exact preR_nil _
 have HR0:Hid (RdAt w b s a wide 0 0):=h
 clear hX hT h
 go_enter Tryz.func65,Tryz.ntmps65
 go_wp2_with fail
 go_loopw [3] (fun u wr=>∃(i:Nat) (acc:List Ho),a≤i∧i≤s.size∧acc.length≤16∧Hid (wr.ownsRow w.heap.size 25 18 u acc.length (cellsH acc))∧Hid (But b w wr)∧Hid (RdAt wr b s i wide 0 0)∧Hid (X=preR acc (i - a) (rte wide (16 - acc.length) (s.data.toList.drop i)))) (fun _ wr=>s.size - plOf wr b)
 case atStart=>exact⟨a,[],Nat.le_refl _,ha,Nat.zero_le _,⟨rfl,.inl ⟨rfl,rfl⟩⟩,But.refl _ _,HR0,HX0⟩
 case round=>
  obtain⟨i,acc,hai,hi,hacc,HO,HB,HR,HX⟩:=hrel
  obtain⟨sa,sc,rfl⟩:=ownH_len HO.out
  clear HX0 HR0
  have HPL:=HR.out.pl
  have HN64:Hid (Calls Tryz.prog 64 #[.pointer (some ⟨b,0,none⟩),.int .u8 64] wr fun e w'=>e=.returned (.bool (nxB s i 64))∧w'=wr.drew):=next_any b s i hi hs wide 0 0 64 wr HR.out
  by_cases h16:acc.length=16
  ·have h16b:((acc.length:Int)==16)=true:=by rw[beq_iff_eq];omega
   have HRT:Hid (∀hd:Bool,hd=nxB s i 64→X=.error (if hd=true then 92 else 93,i - a)):=fun hd hh=>by
    rw[HX.out,h16]
    have e0:16 - 16=0:=rfl
    rw[e0,rte]
    cases hd
    ·rw[if_neg (fun hc=>by unfold nxB at hh;rw[decide_eq_true hc]at hh;cases hh),preR,if_neg (by decide),Nat.add_zero]
    ·rw[if_pos (by unfold nxB at hh;exact of_decide_eq_true hh.symm),preR,if_pos rfl,Nat.add_zero]
   obtain⟨x,hx⟩:∃x,x=nxB s i 64:=⟨_,rfl⟩
   have HXQ:=HRT.out x hx
   rw[←hx]at HN64
   clear HRT
   cases x
   ·rw[if_neg (by decide)]at HXQ
    have HXX:Hid (∃q,a+q=i∧X=.error (93,q)):=⟨i - a,by omega,HXQ⟩
    have HND:Hid (Calls Tryz.prog 63 #[.pointer (some ⟨b,0,none⟩),.int .u8 64] wr.drew (Come b s wide wr.drew (if nxB s i 64=true then .ok (.tuple #[],i+1) else .error (93,i)))):=need_any b s i hi hs wide 64 wr.drew HR.out.drew
    rw[←hx,if_neg (by decide)]at HND
    clear hx HXQ HX HO
    go_wp2_with fail
    refine HN64.out.mono ?_
    rintro e w1 ⟨rfl,rfl⟩
    go_wp2_with fail
    refine HND.out.mono ?_
    rintro e w9 ⟨q1,rfl,a',q2⟩
    obtain⟨q,hq,rfl⟩:=HXX.out
    exact⟨rfl,HB.out.drew.trans q1,rfl,a',(by rw[hq];exact q2)⟩
   ·rw[if_pos rfl]at HXQ
    have HXX:Hid (∃q,a+q=i∧X=.error (92,q)):=⟨i - a,by omega,HXQ⟩
    have HF:Hid (Calls Tryz.prog 42 #[.pointer (some ⟨b,0,none⟩),.int .i64 92,.int .i64 (i:Nat)] wr.drew fun e w'=>e=gaveUp 92∧RdAt w' b s i wide 92 i∧But b wr.drew w'):=fail_any b s i wide 92 i wr.drew HR.out.drew
    obtain⟨_,c1,_,_,_⟩:=HR.out.drew.cells
    clear hx HXQ HX HO
    go_wp2_with fail
    refine HN64.out.mono ?_
    rintro e w1 ⟨rfl,rfl⟩
    go_wp2_with fail
    refine HF.out.mono ?_
    rintro e w9 ⟨rfl,q1,q2⟩
    obtain⟨q,hq,rfl⟩:=HXX.out
    exact⟨rfl,HB.out.drew.trans q2,rfl,_,(by rw[hq];exact q1)⟩
  ·have h16b:((acc.length:Int)==16)=false:=by rw[beq_eq_false_iff_ne];omega
   obtain⟨m,hm⟩:∃m,16 - acc.length=m+1:=⟨15 - acc.length,by omega⟩
   have HX1:=HX.out
   rw[hm]at HX1
   have HND:Hid (Calls Tryz.prog 63 #[.pointer (some ⟨b,0,none⟩),.int .u8 64] wr (Come b s wide wr (if nxB s i 64=true then .ok (.tuple #[],i+1) else .error (93,i)))):=need_any b s i hi hs wide 64 wr HR.out
   by_cases hx:(s.data.toList.drop i).head?=some 64
   ·have hnx:nxB s i 64=true:=decide_eq_true hx
    have hil:i<s.size:=by
     rcases Nat.lt_or_ge i s.size with hl|hl
     ·exact hl
     ·rw[drop_past s i hl]at hx
      cases hx
    rw[hnx,if_pos rfl]at HND
    rw[rte_at hx]at HX1
    have HX2:Hid (X=preR acc (i - a) (match hst wide (s.data.toList.drop (i+1)) with
     | .error (e,p)=>.error (e,1+p)
     | .ok (h,n)=>if h.k=1 then (if (s.data.toList.drop (i+1+n)).head?=some 58 then .ok ([h],1+n+1)
      else if (s.data.toList.drop (i+1+n)).head?=some 44 then moreR h (1+n+1) (rte wide m (s.data.toList.drop (i+1+n+1)))
      else .error (92,1+n)) else .error (92,1))):=HX1
    have HM:Hid (16 - acc.length=m+1):=hm
    clear hx hnx HX1 HX HN64 hm
    go_wp2_with fail
    refine HND.out.mono ?_
    rintro e w1 ⟨hb1,rfl,hr1⟩
    have HB1:Hid (But b w w1):=HB.out.trans hb1
    have HO1:Hid (w1.ownsRow w.heap.size 25 18 (.slice sa acc.length sc) acc.length (cellsH acc)):=ownH_but HO.out hb1 hbw
    have HNM:Hid (Calls Tryz.prog 87 #[.pointer (some ⟨b,0,none⟩)] w1 (Come b s wide w1 (hoV (nmR (i+1) (shE (i+1) (hst wide (s.data.toList.drop (i+1)))))))):=name_any b h10 s (i+1) hil hs wide w1 (HTB.out w1 HB1.out) hr1
    clear hb1 hr1 HND HB HO HR
    cases hh:hst wide (s.data.toList.drop (i+1)) with
    |error y=>
     obtain⟨er,p⟩:=y
     rw[hh]at HNM HX2
     have HXX:Hid (∃q,a+q=i+1+p∧X=.error (er,q)):=⟨i - a+(1+p),by omega,HX2.out⟩
     clear hh HX2 HTB
     go_wp2_with fail
     refine HNM.out.mono ?_
     rintro e w9 ⟨q1,rfl,a',q2⟩
     obtain⟨q,hq,rfl⟩:=HXX.out
     exact⟨rfl,HB1.out.trans q1,rfl,a',(by rw[hq];exact q2)⟩
    |ok y=>
     obtain⟨ho,n⟩:=y
     rw[hh]at HNM HX2
     have hal:=hst_len hh
     have hnl:=(hst_is hh).2.1
     rw[List.length_drop,len_list]at hnl
     clear hh
     dsimp only[shE,nmR]at HNM HX2
     obtain⟨F,hF⟩:∃F,F=i+1+n:=⟨_,rfl⟩
     rw[←hF]at HNM HX2
     have hFs:F≤s.size:=by omega
     have HF0:Hid (F=i+1+n):=hF
     by_cases hk:ho.k=1
     ·rw[if_pos hk]at HNM HX2
      obtain⟨V,hV⟩:∃V,V=hostC ho:=⟨_,rfl⟩
      have hVz:V.size=18:=by rw[hV];exact hostC_size _ hal
      have hVo:V.all (·.oneCell')=true:=by rw[hV];exact hostC_one _
      have HVL:Hid (V.toList=cellsH [ho]):=by show _=_;rw[hV,cellsH_one]
      have HNM2:Hid (Calls Tryz.prog 87 #[.pointer (some ⟨b,0,none⟩)] w1 fun e w'=>e=.returned (.agg V)∧But b w1 w'∧RdAt w' b s F wide 0 0):=HNM.out.mono (fun e w' q=>by
       obtain⟨q1,q2,q3⟩:=q
       rw[hV]
       exact⟨q2,q1,q3⟩)
      have hbv:=build_one V hVz
      clear HNM hV hal hF hk
      go_wp2_with fail
      refine HNM2.out.mono ?_
      rintro e w2 ⟨rfl,hb2,hr2⟩
      have HB2:Hid (But b w w2):=HB1.out.trans hb2
      have HO2:Hid (w2.ownsRow w.heap.size 25 18 (.slice sa acc.length sc) acc.length (cellsH acc)):=ownH_but HO1.out hb2 hbw
      have HR2:Hid (RdAt w2 b s F wide 0 0):=hr2
      clear hb2 hr2 HNM2 HB1 HO1
      go_wp2_with (at_builtin;refine wpList_append_host rfl _ _ rfl w.heap.size _ acc.length (cellsH acc) rfl (ownH_below HO2.out ((Below.refl _ _).alloc (Nat.le_refl _) _)) w2.heap.size 1 V hVz hVo rfl (Lies.new w2 _ _) (by omega) (by have:=HB2.out.size;simp;omega) ?_)
      intro v9 w9 hown9 hgrow9
      have hg9:=grown_on (World.grownBy_alloc w2 _ ((.slice sa acc.length sc:Value)).ownBlock) hgrow9 (fun _ h=>.inl h.symm)
      have HB9:Hid (But b w w9):=HB2.out.grown hg9 (fun q hq=>(HO2.out.lt q hq).1)
      have HR9:Hid (RdAt w9 b s F wide 0 0):=⟨HR2.out.lies.below (Below.grown (B:=w.heap.size) (Below.refl _ _) hg9 HB2.out.size (fun q hq=>(HO2.out.lt q hq).1)) hbw⟩
      have HO9:Hid (w9.ownsRow w.heap.size 25 18 v9 (acc++[ho]).length (cellsH (acc++[ho]))):=by
       show World.ownsRow _ _ _ _ _ _ _
       rw[cellsH_append,←HVL.out,List.length_append,List.length_singleton]
       exact hown9
      clear hown9 hgrow9 hg9 HO2 HB2 HR2 hbv HVL
      have HN58:Hid (Calls Tryz.prog 64 #[.pointer (some ⟨b,0,none⟩),.int .u8 58] w9 fun e w'=>e=.returned (.bool (nxB s F 58))∧w'=w9.drew):=next_any b s F hFs hs wide 0 0 58 w9 HR9.out
      have HN44:Hid (Calls Tryz.prog 64 #[.pointer (some ⟨b,0,none⟩),.int .u8 44] w9.drew fun e w'=>e=.returned (.bool (nxB s F 44))∧w'=w9.drew.drew):=next_any b s F hFs hs wide 0 0 44 w9.drew HR9.out.drew
      have hFl:∀c,(s.data.toList.drop F).head?=some c→F<s.size:=fun c hc=>by
       rcases Nat.lt_or_ge F s.size with hl|hl
       ·exact hl
       ·rw[drop_past s F hl]at hc
        cases hc
      by_cases h58:(s.data.toList.drop F).head?=some 58
      ·have e58:nxB s F 58=true:=decide_eq_true h58
       rw[e58]at HN58
       have hFlt:=hFl 58 h58
       have HXX:Hid (∃q,a+q=F+1∧X=.ok (acc++[ho],q)):=⟨i - a+(1+n+1),by have:=HF0.out;omega,by rw[HX2.out,if_pos h58,preR]⟩
       obtain⟨_,c1,_,_,_⟩:=HR9.out.drew.cells
       have f1:=HR9.out.drew.lies.frozen 1
       have HG:Hid (RdAt (w9.drew.setCell ⟨b,1,none⟩ (.int .i64 ((F+1:Nat):Int))) b s (F+1) wide 0 0):=HR9.out.drew.go (F+1)
       have HGB:Hid (But b w (w9.drew.setCell ⟨b,1,none⟩ (.int .i64 ((F+1:Nat):Int)))):=HB9.out.drew.set _ _
       have HGO:Hid ((w9.drew.setCell ⟨b,1,none⟩ (.int .i64 ((F+1:Nat):Int))).ownsRow w.heap.size 25 18 v9 (acc++[ho]).length (cellsH (acc++[ho]))):=ownsRow_setCell_below HO9.out.drew (show b<w.heap.size from hbw) _
       clear e58 h58 HX2 HN44 HO9 hFl
       go_wp2_with fail
       refine HN58.out.mono ?_
       rintro e w3 ⟨rfl,rfl⟩
       go_wp2_with fail
       go_ret
       obtain⟨q,hq,rfl⟩:=HXX.out
       exact⟨HGB.out,v9,rfl,(by rw[hq];exact HG.out),HGO.out⟩
      ·have e58:nxB s F 58=false:=decide_eq_false h58
       rw[e58]at HN58
       obtain⟨_,c1,_,_,_⟩:=HR9.out.drew.drew.cells
       have f1:=HR9.out.drew.drew.lies.frozen 1
       by_cases h44:(s.data.toList.drop F).head?=some 44
       ·have e44:nxB s F 44=true:=decide_eq_true h44
        rw[e44]at HN44
        have hFlt:=hFl 44 h44
        have HX3:Hid (X=preR (acc++[ho]) (F+1 - a) (rte wide (16 - (acc++[ho]).length) (s.data.toList.drop (F+1)))):=by
         show X=_
         rw[HX2.out,if_neg h58,if_pos h44,preR_more]
         have e1:i - a+(1+n+1)=F+1 - a:=by have:=HF0.out;omega
         have e2:16 - (acc++[ho]).length=m:=by rw[List.length_append,List.length_singleton];have:=HM.out;omega
         rw[e1,e2]
        have HG:Hid (RdAt (w9.drew.drew.setCell ⟨b,1,none⟩ (.int .i64 ((F+1:Nat):Int))) b s (F+1) wide 0 0):=HR9.out.drew.drew.go (F+1)
        have HGB:Hid (But b w (w9.drew.drew.setCell ⟨b,1,none⟩ (.int .i64 ((F+1:Nat):Int)))):=HB9.out.drew.drew.set _ _
        have HGO:Hid ((w9.drew.drew.setCell ⟨b,1,none⟩ (.int .i64 ((F+1:Nat):Int))).ownsRow w.heap.size 25 18 v9 (acc++[ho]).length (cellsH (acc++[ho]))):=ownsRow_setCell_below HO9.out.drew.drew (show b<w.heap.size from hbw) _
        have hacc2:(acc++[ho]).length≤16:=by rw[List.length_append,List.length_singleton];omega
        have HPF:Hid (i<F):=by have:=HF0.out;show i<F;omega
        clear e58 e44 h58 h44 HX2 HO9 hFl
        go_wp2_with fail
        refine HN58.out.mono ?_
        rintro e w3 ⟨rfl,rfl⟩
        go_wp2_with fail
        refine HN44.out.mono ?_
        rintro e w3 ⟨rfl,rfl⟩
        go_wp2_with fail
        go_roundw
        case rel=>exact⟨F+1,acc++[ho],by have:=HPF.out;omega,hFlt,hacc2,HGO,HGB,HG,HX3⟩
        case measure=>
         have e1:=HG.out.pl
         have e2:=HPF.out
         have e3:plOf (w9.setCell ⟨b,1,none⟩ (.int .i64 ((F:Int)+1))).drew.drew b=F+1:=e1
         rw[e3,HPL]
         omega
       ·have e44:nxB s F 44=false:=decide_eq_false h44
        rw[e44]at HN44
        have HXX:Hid (∃q,a+q=F∧X=.error (92,q)):=⟨i - a+(1+n),by have:=HF0.out;omega,by rw[HX2.out,if_neg h58,if_neg h44,preR]⟩
        have HF:Hid (Calls Tryz.prog 42 #[.pointer (some ⟨b,0,none⟩),.int .i64 92,.int .i64 (F:Nat)] w9.drew.drew fun e w'=>e=gaveUp 92∧RdAt w' b s F wide 92 F∧But b w9.drew.drew w'):=fail_any b s F wide 92 F w9.drew.drew HR9.out.drew.drew
        clear e58 e44 h58 h44 HX2 HO9 hFl
        go_wp2_with fail
        refine HN58.out.mono ?_
        rintro e w3 ⟨rfl,rfl⟩
        go_wp2_with fail
        refine HN44.out.mono ?_
        rintro e w3 ⟨rfl,rfl⟩
        go_wp2_with fail
        refine HF.out.mono ?_
        rintro e w9 ⟨rfl,q1,q2⟩
        obtain⟨q,hq,rfl⟩:=HXX.out
        exact⟨rfl,HB9.out.drew.drew.trans q2,rfl,_,(by rw[hq];exact q1)⟩
     ·rw[if_neg hk]at HNM HX2
      have HXX:Hid (∃q,a+q=i+1∧X=.error (92,q)):=⟨i - a+1,by omega,HX2.out⟩
      clear hk HX2 HTB hal hF
      go_wp2_with fail
      refine HNM.out.mono ?_
      rintro e w9 ⟨q1,rfl,a',q2⟩
      obtain⟨q,hq,rfl⟩:=HXX.out
      exact⟨rfl,HB1.out.trans q1,rfl,a',(by rw[hq];exact q2)⟩
   ·have hnx:nxB s i 64=false:=decide_eq_false hx
    rw[hnx,if_neg (by decide)]at HND
    rw[rte_no _ hx]at HX1
    have HXX:Hid (∃q,a+q=i∧X=.error (93,q)):=⟨i - a+0,by omega,HX1⟩
    clear hx hnx HX1 HX HN64 hm HO
    go_wp2_with fail
    refine HND.out.mono ?_
    rintro e w9 ⟨q1,rfl,a',q2⟩
    obtain⟨q,hq,rfl⟩:=HXX.out
    exact⟨rfl,HB.out.trans q1,rfl,a',(by rw[hq];exact q2)⟩
theorem sm9_fin:∀b c:Fin 256,decide (upB (UInt8.ofNat b.val)=upB (UInt8.ofNat c.val))=decide (smB (UInt8.ofNat b.val)=smB (UInt8.ofNat c.val)):=by decide+kernel
theorem sm9_is (b c:UInt8):upB b=upB c↔smB b=smB c:=by
 have:=sm9_fin ⟨b.toNat,b.toNat_lt⟩ ⟨c.toNat,c.toNat_lt⟩
 simp only[UInt8.ofNat_toNat]at this
 rw[←decide_eq_true_iff (p:=upB b=upB c),this,decide_eq_true_iff]
theorem sm9_list:∀x y:List UInt8,upL x=upL y↔sml x=sml y
 |[],[]=>by simp[upL,sml]
 |[],_::_=>by simp[upL,sml]
 |_::_,[]=>by simp[upL,sml]
 |b::x,c::y=>by
  have:=sm9_list x y
  unfold upL sml at*
  simp only[List.map_cons,List.cons.injEq,sm9_is b c,this]
theorem same_sm9 (x y:ByteArray):sameB x y=decide (sml x.data.toList=sml y.data.toList):=by
 unfold sameB
 rw[ByteArray.toList_eq,ByteArray.toList_eq]
 unfold upS
 rw[Bool.eq_iff_iff,beq_iff_eq,decide_eq_true_eq,←sm9_list]
theorem sm_stays:∀c:Fin 256,(smB (UInt8.ofNat c.val)=60↔UInt8.ofNat c.val=60)∧(smB (UInt8.ofNat c.val)=62↔UInt8.ofNat c.val=62):=by decide+kernel
theorem sm_60 (c:UInt8):(smB c=60↔c=60)∧(smB c=62↔c=62):=by
 have:=sm_stays ⟨c.toNat,c.toNat_lt⟩
 simpa using this
def midA (wide:Bool) (s:ByteArray):Except (Nat×Nat) (List Ho×Nat):=if nxB s 1 64=true then shE 1 (rte wide 16 (s.data.toList.drop 1)) else .ok ([],1)
def endA (s:ByteArray) (r:List Ho):Except (Nat×Nat) ((List UInt8×Ho)×Nat)→Except (Nat×Nat) (Pt×Nat)
 | .error e=>.error e
 | .ok ((l,h),n)=>if nxB s n 62=true then (if 256<n+1∨256<(wrP ⟨3,r,l,h⟩).length then .error (93,0) else .ok (⟨3,r,l,h⟩,n+1)) else .error (93,n)
def rstA (wide:Bool) (s:ByteArray):Except (Nat×Nat) (Pt×Nat):=
 if nxB s 0 60=true then (match midA wide s with
  | .error e=>.error e
  | .ok (r,a)=>endA s r (shE a (bx wide (s.data.toList.drop a)))) else .error (93,0)
theorem head_at (s:List UInt8) (k:Nat):s[k]?=(s.drop k).head?:=by
 rw[List.head?_drop]
theorem nx_iff (s:ByteArray) (k:Nat) (c:UInt8):(nxB s k c=true)=(s.data.toList[k]?=some c):=by
 unfold nxB
 rw[head_at,decide_eq_true_eq]
theorem rst_is (wide:Bool) (s:ByteArray) (h1:s.data.toList.head?=some 60):(match (if s.data.toList[1]?=some 64 then rte wide 16 (s.data.toList.drop 1) else .ok ([],0)) with
   | .error (e,p)=>Except.error (e,1+p)
   | .ok (r,a)=>match bx wide (s.data.toList.drop (1+a)) with
    | .error (e,p)=>.error (e,1+a+p)
    | .ok ((l,h),n)=>
     if s.data.toList[1+a+n]?=some 62 then
      if 256<1+a+n+1∨256<(wrP ⟨3,r,l,h⟩).length then .error (93,0) else .ok ((⟨3,r,l,h⟩:Pt),1+a+n+1)
     else .error (93,1+a+n))=rstA wide s:=by
 unfold rstA midA
 rw[if_pos (show nxB s 0 60=true by rw[nx_iff,←List.head?_eq_getElem?];exact h1)]
 simp only[nx_iff]
 by_cases h2:s.data.toList[1]?=some 64
 ·rw[if_pos h2,if_pos h2]
  cases rte wide 16 (s.data.toList.drop 1) with
  |error x=>rfl
  |ok x=>
   obtain⟨r,a⟩:=x
   dsimp only[shE]
   cases bx wide (s.data.toList.drop (1+a)) with
   |error y=>rfl
   |ok y=>
    obtain⟨⟨l,h⟩,n⟩:=y
    dsimp only[shE,endA]
    simp only[nx_iff]
 ·rw[if_neg h2,if_neg h2]
  dsimp only[Nat.add_zero]
  cases bx wide (s.data.toList.drop 1) with
  |error y=>rfl
  |ok y=>
   obtain⟨⟨l,h⟩,n⟩:=y
   dsimp only[shE,endA]
   simp only[nx_iff]
theorem rst_no (wide:Bool) (s:ByteArray) (h1:¬s.data.toList.head?=some 60):rstA wide s=.error (93,0):=by
 unfold rstA
 rw[if_neg (by rw[nx_iff,←List.head?_eq_getElem?];exact h1)]
theorem pth_rev (wide:Bool) (s:ByteArray):pth wide true s.data.toList=if 2≤s.size∧sml (s.data.toList.take 2)=sml [60,62] then .ok (⟨1,[],[],ho0⟩,2) else rstA wide s:=by
 have key:(2≤s.size∧sml (s.data.toList.take 2)=sml [60,62])↔(s.data.toList.head?=some 60∧s.data.toList[1]?=some 62):=by
  rw[←len_list]
  generalize s.data.toList=l
  match l with
  |[]=>simp
  |[a]=>simp
  |a::b::r=>
   simp only[List.length_cons,List.take_succ_cons,List.take_zero,sml,List.map_cons,List.map_nil,List.cons.injEq,and_true,List.head?_cons,Option.some.injEq,List.getElem?_cons_succ,List.getElem?_cons_zero]
   rw[show smB 60=60 from rfl,show smB 62=62 from rfl,(sm_60 a).1,(sm_60 b).2]
   constructor
   ·exact fun h=>h.2
   ·exact fun h=>⟨by omega,h⟩
 unfold pth
 by_cases h1:s.data.toList.head?=some 60
 ·rw[if_pos h1]
  by_cases h2:s.data.toList[1]?=some 62
  ·rw[if_pos ⟨rfl,h2⟩,if_pos (key.2 ⟨h1,h2⟩)]
  ·rw[if_neg (fun h=>h2 h.2),if_neg (fun h=>by cases h.1),if_neg (fun h=>h2 (key.1 h).2)]
   exact rst_is wide s h1
 ·rw[if_neg h1,if_neg (fun h=>h1 (key.1 h).1),rst_no wide s h1]
theorem ok_n (h:Ho) (wide:Bool) (ok:h.Ok) (hc:check h wide=0):h.n.length≤255∧(wrH h).length≤255∧(h.k=1→wrH h=h.n):=by
 obtain⟨t,h1,_,h3,h4⟩:=back_host h wide ok hc
 have hw:wrH h=t:=by unfold wrH;rw[h1]
 have ht:t=(if h.k=2 then [91]++print4 (h.a.take 4)++[93]
  else if h.k=3 then [91,73,80,118,54,58]++print6 h.a++[93]
  else if h.k=4 then [91]++h.n++[93]
  else h.n):=by
  have:=h1
  unfold print at this
  rw[if_pos h4]at this
  injection this with e _
  exact e.symm
 refine⟨?_,by rw[hw];exact h3,fun hk=>?_⟩
 ·by_cases k2:h.k=2
  ·have:h.n=[]:=by
    unfold check at h4
    rw[if_neg (by omega),if_pos k2]at h4
    split at h4
    ·rename_i e
     rw[e]
     rfl
    ·cases h4
   rw[this]
   simp
  ·by_cases k3:h.k=3
   ·have:h.n=[]:=by
     unfold check at h4
     rw[if_neg (by omega),if_neg (by omega),if_pos k3]at h4
     split at h4
     ·rename_i e
      exact e
     ·cases h4
    rw[this]
    simp
   ·by_cases k4:h.k=4
    ·rw[if_neg k2,if_neg k3,if_pos k4]at ht
     have:=congrArg List.length ht
     simp at this
     omega
    ·rw[if_neg k2,if_neg k3,if_neg k4]at ht
     rw[←ht]
     exact h3
 ·rw[hw,ht,if_neg (by omega),if_neg (by omega),if_neg (by omega)]
theorem hst_ok {wide:Bool} {s:List UInt8} {h:Ho} {n:Nat} (hh:hst wide s=.ok (h,n)):h.Ok∧check h wide=0:=by
 obtain⟨_,_,h3,_⟩:=hst_is hh
 have:=(back_text (s.take n) wide).1
 rw[h3]at this
 obtain⟨_,_,h5,h6,_⟩:=this rfl
 exact⟨h6,h5⟩
open Go.RowKit
theorem wpList_load_row9 {P:Program} {ops:Array Oper} {rest:List Oper} {op:Oper} {a:Act} {w:World} {Q:Exit→Act→World→Prop} (hw:Region.wanted op (yielded ops a.tmps)=true) (ty:TypeId) (x:Operand) (ho:op.op=.load ty x)
  (g:Nat) (hx:a.eval x=.pointer (some ⟨g,0,none⟩)) (cs:Array Value) (t:TypeId) (d:TypeDesc) (hc:Lies w g cs t)
  (hu:P.underlying ty=some d) (hd:(match d with| .struct _| .array _ _=>true|_=>false)=true) (hi:(P.info? ty).map (·.size)=some cs.size)
  (h:wpList P ops Q rest (a.put op.dst (.agg cs)) w):wpList P ops Q (op::rest) a w:=by
 unfold wpList
 rw[if_pos hw]
 left
 unfold Oper.wp
 rw[exec_load_row ty x ho g hx cs t d hc hu hd hi]
 exact h
theorem gPow:Tryz.prog.globalNamed "internal/strconv.uint64pow10"=some 5:=by kernel_rfl
theorem Td.but {w w':World} {b:Nat} (h:Td w) (hb:But b w w') (h10:10≤b):Td w':=by
 obtain⟨m,hm⟩:=h.ml
 refine⟨h.tb.but hb h10,?_,m,(hb.cell (p:=⟨2,0,none⟩) (by show 2≠b;omega) (World.block_lt_of_cell? w _ hm)).trans hm⟩
 have hp:=h.pow
 unfold PowTab Lib.TabIs World.var? at hp ⊢
 rw[gPow]at hp ⊢
 simp only[Option.bind_some]at hp ⊢
 have hlt:(5:Nat)<w.heap.size:=by
  rcases Nat.lt_or_ge 5 w.heap.size with h'|h'
  ·exact h'
  ·rw[Array.getElem?_eq_none h']at hp
   cases hp
 rw[hb.block 5 hlt (by omega)]
 exact hp
def ComeP (b:Nat) (s:ByteArray) (wide:Bool) (w:World) (X:Except (Nat×Nat) (Pt×Nat)) (e:Ending) (w':World):Prop:=
 But b w w'∧match X with
  | .ok (p,n)=>∃sl,e=.returned (.agg (pthC p.k sl p.l p.h))∧RdAt w' b s n wide 0 0∧w'.ownsRow w.heap.size 25 18 sl p.r.length (cellsH p.r)
  | .error (er,p)=>e=gaveUp er∧∃a,RdAt w' b s a wide er p
theorem pthC_none9 (k:Int):pthC k (.slice none 0 0) [] ho0=#[.int .i64 k,.slice none 0 0,.string ⟨#[]⟩,.int .i64 0,.string ⟨#[]⟩,.int .u8 0,.int .u8 0,.int .u8 0,.int .u8 0,.int .u8 0,.int .u8 0,.int .u8 0,.int .u8 0,.int .u8 0,.int .u8 0,.int .u8 0,.int .u8 0,.int .u8 0,.int .u8 0,.int .u8 0,.int .u8 0]:=by kernel_rfl
def putF (x:Array Value×Nat) (v:Value):Array Value×Nat:=(x.1.setIfInBounds x.2 v,x.2+1)
theorem put_at:∀(vs:List Value) (o:Nat) (cs:Array Value) (j:Nat),o+vs.length≤cs.size→((vs.foldl putF (cs,o)).1)[j]?=if o≤j∧j<o+vs.length then vs[j - o]? else cs[j]?
 |[],o,cs,j,_=>by
  rw[if_neg (by rw[List.length_nil];omega)]
  rfl
 |v::r,o,cs,j,h=>by
  rw[List.length_cons]at h ⊢
  rw[List.foldl_cons]
  have ih:=put_at r (o+1) (cs.setIfInBounds o v) j (by rw[Array.size_setIfInBounds];omega)
  have e:putF (cs,o) v=(cs.setIfInBounds o v,o+1):=rfl
  rw[e,ih]
  by_cases h1:o+1≤j∧j<o+1+r.length
  ·rw[if_pos h1,if_pos (by omega)]
   have e2:j - o=(j - (o+1))+1:=by omega
   rw[e2,List.getElem?_cons_succ]
  ·rw[if_neg h1]
   by_cases h2:j=o
   ·subst h2
    rw[if_pos (by omega),Nat.sub_self,List.getElem?_cons_zero,Array.getElem?_setIfInBounds_self_of_lt (by omega)]
   ·rw[if_neg (by omega),Array.getElem?_setIfInBounds_ne (by omega)]
theorem Lies.cellsPut {g:Nat} {t:TypeId}:∀(vs:List Value) (o:Nat) (cs:Array Value) (w:World),Lies w g cs t→Lies (w.setCells g o vs) g (vs.foldl putF (cs,o)).1 t
 |[],_,_,_,h=>h
 |v::r,o,cs,w,h=>by
  rw[World.setCells,List.foldl_cons]
  exact Lies.cellsPut r (o+1) _ _ (h.set o v)
theorem pth_box (k:Int) (sl:Value) (l:List UInt8) (h:Ho):pthC k sl l h=#[.int .i64 k,sl]++boxC l h:=by
 unfold pthC boxC
 rw[←Array.append_assoc]
 rfl
theorem Lies.boxPut {w:World} {g:Nat} {k:Int} {sl:Value} {t:TypeId} (h:Lies w g (pthC k sl [] ho0) t) (l:List UInt8) (ho:Ho) (ha:ho.a.length=16):Lies (w.setCells g 2 (boxC l ho).toList) g (pthC k sl l ho) t:=by
 have:=Lies.cellsPut (boxC l ho).toList 2 _ w h
 have hz:=boxC_size l ho ha
 have e:((boxC l ho).toList.foldl putF (pthC k sl [] ho0,2)).1=pthC k sl l ho:=by
  apply Array.ext_getElem?
  intro j
  rw[put_at _ _ _ _ (by rw[Array.length_toList,hz,pthC_size k sl [] ho0 rfl];omega),Array.length_toList,hz]
  by_cases hj:2≤j∧j<2+19
  ·rw[if_pos hj,pth_box k sl l ho,Array.getElem?_append_right (by simp;omega)]
   simp
  ·rw[if_neg hj]
   rcases Nat.lt_or_ge j 2 with h2|h2
   ·rw[pth_box k sl l ho,pth_box k sl [] ho0,Array.getElem?_append_left (by simp;omega),Array.getElem?_append_left (by simp;omega)]
   ·rw[Array.getElem?_eq_none (by rw[pthC_size k sl [] ho0 rfl];omega),Array.getElem?_eq_none (by rw[pthC_size k sl l ho ha];omega)]
 rw[e]at this
 exact this
theorem But.setCells {g b:Nat} {a:World} (hb:b=g∨a.heap.size≤b):∀(vs:List Value) (o:Nat) (c:World),But g a c→But g a (c.setCells b o vs)
 |[],_,_,h=>h
 |v::r,o,c,h=>by
  rw[World.setCells]
  refine But.setCells hb r (o+1) _ ?_
  exact⟨h.os,h.tape,h.output,by rw[World.size_setCell];exact h.size,fun j hj hne=>(Below.heap_setCell _ _ _ _ (by show j≠b;omega)).trans (h.block j hj hne)⟩
theorem Lies.setCells_other {g b:Nat} {cs:Array Value} {t:TypeId} (hne:g≠b):∀(vs:List Value) (o:Nat) (w:World),Lies w g cs t→Lies (w.setCells b o vs) g cs t
 |[],_,_,h=>h
 |v::r,o,w,h=>by
  rw[World.setCells]
  exact Lies.setCells_other hne r (o+1) _ (h.set_other (a:=⟨b,o,none⟩) hne v)
theorem ownH_setCells {B n t k b:Nat} {v:Value} {xs:List Value} (hne:∀j,v.ownBlock=some j→j≠b):∀(vs:List Value) (o:Nat) (w:World),w.ownsRow B t k v n xs→(w.setCells b o vs).ownsRow B t k v n xs
 |[],_,_,h=>h
 |u::r,o,w,h=>by
  rw[World.setCells]
  refine ownH_setCells hne r (o+1) _ (ownH_keep h (fun j hj=>Below.heap_setCell _ _ _ _ (by show j≠b;exact hne j hj)))
theorem own_ne {w:World} {B n t k g t2:Nat} {v:Value} {xs:List Value} {cs:Array Value} (h:w.ownsRow B t k v n xs) (hl:Lies w g cs t2) (ht:t≠t2):∀j,v.ownBlock=some j→j≠g:=fun j hj e=>by
 obtain⟨_,⟨rfl,_⟩|⟨g',cap,cur,rfl,_,hg,_⟩⟩:=h
 ·cases hj
 ·injection hj with hj
  subst hj
  subst e
  have:=hg.symm.trans hl
  injection this with this
  injection this with _ e2 _
  exact ht e2
theorem RtM.ofOwn {w:World} {B:Nat} {sl:Value} {r:List Ho} (h:w.ownsRow B 25 18 sl r.length (cellsH r)) (hr:∀x∈r,x.a.length=16):∃sp c,sl=.slice sp r.length c∧RtM w sp r:=by
 obtain⟨h1,⟨rfl,h2⟩|⟨g,cap,cur,rfl,hB,hg,hcap,_,hsz,htk⟩⟩:=h
 ·exact⟨none,0,by rw[h2],.inl (List.eq_nil_of_length_eq_zero h2)⟩
 ·refine⟨_,cap,rfl,.inr ⟨g,0,rfl,(Array.getElem?_eq_some_iff.1 hg).1,fun j hj i v hv=>?_⟩⟩
  have hl:Lies w g cur 25:=hg
  have hi:i<18:=by
   have:=(List.getElem?_eq_some_iff.1 hv).1
   rw[Array.length_toList,hostC_size _ (hr _ (List.getElem_mem hj))]at this
   exact this
  rw[hl.cell]
  have e:(cellsH r)[j*18+i]?=some v:=by
   have hr1:r=r.take j++r[j]::r.drop (j+1):=by rw[List.getElem_cons_drop,List.take_append_drop]
   have hlt:(cellsH (r.take j)).length=j*18:=by
    have key:∀l:List Ho,(∀x∈l,x.a.length=16)→(cellsH l).length=l.length*18:=by
     intro l
     induction l with
     |nil=>intro _;rfl
     |cons x l ih=>
      intro hx
      have e1:cellsH (x::l)=(hostC x).toList++cellsH l:=rfl
      rw[e1,List.length_append,ih (fun y hy=>hx y (List.mem_cons_of_mem _ hy)),Array.length_toList,hostC_size x (hx x List.mem_cons_self),List.length_cons]
      omega
    rw[key _ (fun x hx=>hr x (List.mem_of_mem_take hx)),List.length_take]
    rw[Nat.min_eq_left (Nat.le_of_lt hj)]
   have e2:cellsH r=cellsH (r.take j)++((hostC r[j]).toList++cellsH (r.drop (j+1))):=by
    conv=>lhs;rw[hr1]
    rw[cellsH_append]
    rfl
   rw[e2,List.getElem?_append_right (by rw[hlt];omega),hlt,Nat.add_sub_cancel_left,List.getElem?_append_left (by rw[Array.length_toList,hostC_size _ (hr _ (List.getElem_mem hj))];exact hi)]
   exact hv
  rw[←htk]at e
  rw[List.getElem?_take]at e
  split at e
  ·rw[Nat.zero_add]
   simpa using e
  ·cases e
end Go.Proofs.YtfjpkfhbmldmfaaGreatDoor
