/-
  The program's Puny.
-/
import Derived.Test.YtfjpkfhbmldmfaaGreatDoorClo
import Derived.Test.YtfjpkfhbmldmfaaGreatDoorWst
import Derived.Test.YtfjpkfhbmldmfaaGreatDoorDec
import Derived.Test.YtfjpkfhbmldmfaaGreatDoorLate5
namespace Go.Proofs.YtfjpkfhbmldmfaaGreatDoor
open Go.RowKit
theorem Wrote.mk' {B b:Nat} {w w':World} {g N:Nat} {f:Nat→Int} (h:Wrote B b w w') (hm:MkAt w g N f) (hg:g≠b):MkAt w' g N f:=by
 obtain⟨cs,h1,h2,h3⟩:=hm
 exact⟨cs,h1,h.lies h2 hg (by decide),h3⟩
theorem Bl.mk' {B b g N:Nat} {l:List UInt8} {f:Nat→Int} {w w':World} (h:Bl B b l w) (hb:But g w w') (hm:MkAt w g N f):Bl B b l w':=by
 obtain⟨cs,h1,h2,h3⟩:=hm
 exact h.but hb h2 (by decide) (by decide)
theorem Wrote.own {B b B' e m n:Nat} {w w':World} {v:Value} {xs:List Value} (h:Wrote B b w w') (ho:w.ownsRow B' e m v n xs) (he:e≠5) (hne:∀k,v.ownBlock=some k→k≠b):w'.ownsRow B' e m v n xs:=by
 obtain⟨h1,h2|⟨g,cap,cur,rfl,hB,hg,hr⟩⟩:=ho
 ·exact⟨h1,.inl h2⟩
 ·exact⟨h1,.inr ⟨g,cap,cur,rfl,hB,h.lies hg (hne g rfl) he,hr⟩⟩
def punT (l:List Int):ByteArray:=if noR l<l.length then ⟨#[]⟩ else match punD l with
 |none=>⟨#[]⟩
 |some d=>⟨(punH l++d).toArray⟩
def punE (l:List Int):Int:=if noR l<l.length then 50 else match punD l with
 |none=>52
 |some _=>0
set_option maxHeartbeats 4000000 in
set_option maxRecDepth 100000 in
theorem puny_bad (a:Option Addr) (l:List Int) (cap:Nat) (w:World) (hn:Nts .i32 a l w) (hs:l.length≤1073741824) (hr:noR l<l.length):
  Calls Tryz.prog 181 #[.slice a l.length cap] w fun e w'=>e=.returned (.tuple #[.string (punT l),.int .i64 (punE l)])∧Below w.heap.size w w':=by
 have HT:Hid (punT l=⟨#[]⟩):=if_pos hr
 have HE:Hid (punE l=50):=if_pos hr
 have hc:=norune_any a l cap w hn (by omega)
 clear hn
 go_enter Tryz.func181,Tryz.ntmps181
 go_wp2_with fail
 refine hc.mono ?_
 rintro e w1 ⟨rfl,rfl⟩
 go_wp2
 go_ret2
 exact⟨by rw[HT.out,HE.out];rfl,Below.refl _ _⟩
set_option maxHeartbeats 4000000 in
set_option maxRecDepth 100000 in
theorem puny_good (a:Option Addr) (l:List Int) (cap:Nat) (w:World) (hn:Nts .i32 a l w) (hs:l.length≤1073741824) (hr:noR l=l.length):
  Calls Tryz.prog 181 #[.slice a l.length cap] w fun e w'=>e=.returned (.tuple #[.string (punT l),.int .i64 (punE l)])∧Below w.heap.size w w':=by
 have HL:Hid (Nts .i32 a l w):=hn
 have HR:Hid (∀r∈l,isR r):=(noR_all l).1 hr
 have HT:Hid (punT l=match punD l with
  |none=>⟨#[]⟩
  |some d=>⟨(punH l++d).toArray⟩):=by
  show _=_
  unfold punT
  rw[if_neg (by omega)]
 have HE:Hid (punE l=match punD l with
  |none=>52
  |some _=>0):=by
  show _=_
  unfold punE
  rw[if_neg (by omega)]
 have hc:=norune_any a l cap w hn (by omega)
 rw[hr]at hc
 clear hn hr
 go_enter Tryz.func181,Tryz.ntmps181
 go_wp2_with fail
 refine hc.mono ?_
 rintro e w1 ⟨rfl,rfl⟩
 clear hc
 have HF0:Hid (Bl w1.heap.size w1.heap.size [] (w1.alloc (.cells #[.pointer none,.slice none 0 0] 145))):=Bl.fresh w1
 have HB0:Hid (Below w1.heap.size w1 (w1.alloc (.cells #[.pointer none,.slice none 0 0] 145))):=(Below.refl _ _).alloc (Nat.le_refl _) _
 have hcm:=mfor_any l.length (w1.alloc (.cells #[.pointer none,.slice none 0 0] 145)) hs
 simp only[World.size_alloc]at hcm
 go_wp2_with fail
 refine hcm.mono ?_
 rintro e w2 ⟨rfl,b2,m2,s2⟩
 have HB2:Hid (Below w1.heap.size w1 w2):=HB0.out.trans (b2.mono (by simp))
 have HF2:Hid (Bl w1.heap.size w1.heap.size [] w2):=HF0.out.below (b2.mono (by simp))
 have HM2:Hid (MkAt w2 (w1.heap.size+1) l.length (lowF l 0)):=m2.ext (fun j _=>(lowF_zero l j).symm)
 clear b2 m2 hcm s2
 go_wp2
 go_loopw [23] (fun i wr=>∃k:Nat,i=.int .i64 k∧k≤l.length∧Hid (Bl w1.heap.size w1.heap.size (lowB l k) wr)∧Hid (MkAt wr (w1.heap.size+1) l.length (lowF l k))∧Hid (Below w1.heap.size w1 wr)) (fun i _=>l.length - (intOf i).toNat)
 case atStart=>exact⟨0,rfl,Nat.zero_le _,HF2,HM2,HB2⟩
 case round=>
  obtain⟨k,rfl,hk,HF,HM,HB⟩:=hrel
  have hlt:=HM.out.lt
  by_cases hlk:k<l.length
  ·obtain⟨g,o,rfl,hg,hcell⟩:=(HL.out.below HB.out).cell k hlk
   have hrl:=HR.out l[k] (List.getElem_mem hlk)
   have hr0:=hrl.1
   have hrn:=rn_get l k hlk
   have hll:=lowB_length l k
   by_cases hw:l[k]<128
   ·have hby:(((UInt8.ofNat l[k].toNat).toNat:Nat):Int)=l[k]:=by
     rw[UInt8.toNat_ofNat']
     omega
    have hcw:=wbyte_any w1.heap.size w1.heap.size (lowB l k) (UInt8.ofNat l[k].toNat) wr HF.out (by omega) (by omega)
    rw[hby,←lowB_yes l k hlk hw]at hcw
    have HFY:Hid (∀j,put1 (lowF l k) k 1 j=lowF l (k+1) j):=fun j=>(lowF_yes l k (by rw[hrn];exact hw) j).symm
    have hwr:IntKind.u8.wrap l[k]=l[k]:=by rw[IntKind.wrap_u8];omega
    clear hby hrl hrn
    go_wp2_with fail
    refine hcw.mono ?_
    rintro e w3 ⟨rfl,b3,m3⟩
    have HM3:Hid (MkAt w3 (w1.heap.size+1) l.length (lowF l k)):=m3.mk' HM.out (by omega)
    have HF3:Hid (Bl w1.heap.size w1.heap.size (lowB l (k+1)) w3):=b3
    have HB3:Hid (Below w1.heap.size w1 w3):=HB.out.trans m3.below
    have hca:=add_any (w1.heap.size+1) l.length k 1 (lowF l k) w3 HM3.out (lowF_01 l k) (by
     have:=lowF_01 l (k+1)
     exact⟨fun j=>by rw[HFY.out j];exact this.1 j,fun j=>by rw[HFY.out j];exact this.2 j⟩) hs hlk
    clear b3 m3 hcw
    go_wp2_with fail
    refine hca.mono ?_
    rintro e w4 ⟨rfl,b4,m4⟩
    have HM4:Hid (MkAt w4 (w1.heap.size+1) l.length (lowF l (k+1))):=m4.ext (fun j _=>HFY.out j)
    have HF4:Hid (Bl w1.heap.size w1.heap.size (lowB l (k+1)) w4):=HF3.out.mk' b4 HM3.out
    have HB4:Hid (Below w1.heap.size w1 w4):=HB3.out.trans (b4.below (by omega) HB3.out.size)
    clear b4 m4 hca
    go_wp2
    go_roundw
    case rel=>exact⟨k+1,by go_num,by omega,HF4,HM4,HB4⟩
    case measure=>simp[intOf];omega
   ·have HF4:Hid (Bl w1.heap.size w1.heap.size (lowB l (k+1)) wr):=by show Bl _ _ _ _;rw[lowB_no l k hlk hw];exact HF.out
    have HM4:Hid (MkAt wr (w1.heap.size+1) l.length (lowF l (k+1))):=by show MkAt _ _ _ _;rw[lowF_no l k (by rw[hrn];exact hw)];exact HM.out
    clear hrl hrn
    go_wp2
    go_roundw
    case rel=>exact⟨k+1,by go_num,by omega,HF4,HM4,HB⟩
    case measure=>simp[intOf];omega
  ·obtain rfl:k=l.length:=by omega
   have hll:=lowB_length l l.length
   have HOK:Hid (PunOk l (ordW l) (lowF l l.length) 128 0 (lowB l l.length).length):=punOk_start l HR.out
   have HPD:Hid (punD l=punL l (ordW l) (lowF l l.length) 128 0 (lowB l l.length).length 72 true):=rfl
   have HPH:Hid (punH l=lowB l l.length++(if lowB l l.length=[] then [] else [45])):=rfl
   generalize lowF l l.length=F at*
   generalize lowB l l.length=L at*
   have hbl:=blen_any w1.heap.size w1.heap.size L wr HF.out
   have hct:=cnt_any L.length wr
   go_wp2_with fail
   refine hbl.mono ?_
   rintro e w3 ⟨rfl,rfl⟩
   go_wp2_with fail
   refine hct.mono ?_
   rintro e w4 ⟨rfl,b4⟩
   have HL5:Hid (Lies (w4.alloc (.cells #[.int .i32 128,.int .i64 0,.int .i64 L.length,.int .i64 72,.bool false] 222)) w4.heap.size #[.int .i32 128,.int .i64 0,.int .i64 L.length,.int .i64 72,.bool false] 222):=Lies.new w4 _ _
   have hs4:w1.heap.size+1<w4.heap.size:=Nat.lt_of_lt_of_le hlt b4.size
   have B5:Below w3.heap.size w3 (w4.alloc (.cells #[.int .i32 128,.int .i64 0,.int .i64 L.length,.int .i64 72,.bool false] 222)):=b4.alloc b4.size _
   have HF5:Hid (Bl w1.heap.size w1.heap.size L (w4.alloc (.cells #[.int .i32 128,.int .i64 0,.int .i64 L.length,.int .i64 72,.bool false] 222))):=HF.out.below B5
   have HM5:Hid (MkAt (w4.alloc (.cells #[.int .i32 128,.int .i64 0,.int .i64 L.length,.int .i64 72,.bool false] 222)) (w1.heap.size+1) l.length F):=HM.out.below B5 hlt
   have HB5:Hid (Below w1.heap.size w1 (w4.alloc (.cells #[.int .i32 128,.int .i64 0,.int .i64 L.length,.int .i64 72,.bool false] 222))):=HB.out.trans (B5.mono HB.out.size)
   have hs5:w4.heap.size<(w4.alloc (.cells #[.int .i32 128,.int .i64 0,.int .i64 L.length,.int .i64 72,.bool false] 222)).heap.size:=by simp
   clear B5 b4 hct hbl
   go_wp2_with fail
   have hbl2:=blen_any w1.heap.size w1.heap.size L _ HF5.out
   refine hbl2.mono ?_
   rintro e w5 ⟨rfl,rfl⟩
   clear hbl2
   generalize w4.alloc (.cells #[.int .i32 128,.int .i64 0,.int .i64 L.length,.int .i64 72,.bool false] 222)=w5 at HL5 HF5 HM5 HB5 hs5 ⊢
   by_cases hL:L=[]
   ·have HPH2:Hid (punH l=L):=by
     show _=_
     rw[HPH.out,if_pos hL,List.append_nil]
    have hL0:L.length=0:=by rw[hL];rfl
    have hL0':(L.length:Int)=0:=by omega
    have HF6:Hid (Bl w1.heap.size w1.heap.size (punH l) w5):=by show Bl _ _ _ _;rw[HPH2.out];exact HF5.out
    have hhl:(punH l).length≤l.length+1:=by rw[HPH2.out];omega
    have HL5':Hid (CtAt w5 w4.heap.size 128 0 (L.length:Nat) 72 false):=HL5.out
    have HPDz:Hid (punD l=punL l (ordW l) F 128 0 L.length 72 true):=HPD.out
    have HOKz:Hid (PunOk l (ordW l) F 128 0 L.length):=HOK.out
    generalize hLL:L.length=h0 at*
    clear HPH HF5 HPH2 hL hL0 hLL HPD HOK HL5 HF HM HB HF0 HB0 HF2 HM2 HB2
    generalize punH l=PH at*
    have hcp:=widep_any a l cap w5 (HL.out.below HB5.out) hs
    go_wp2_with fail
    refine hcp.mono ?_
    rintro e w7 ⟨v,rfl,o7,b7⟩
    have HO7:Hid (w7.ownsRow w5.heap.size 3 1 v (ordW l).length (cellsN .i64 (natI (ordW l)))):=o7
    have HF7:Hid (Bl w1.heap.size w1.heap.size (PH++[]) w7):=by show Bl _ _ _ _;rw[List.append_nil];exact HF6.out.below b7
    have HL7:Hid (CtAt w7 w4.heap.size 128 ((0:Nat):Int) (h0:Nat) ((72:Nat):Int) false):=HL5'.out.below b7 hs5
    have HM7:Hid (MkAt w7 (w1.heap.size+1) l.length F):=HM5.out.below b7 (by omega)
    have HB7:Hid (Below w1.heap.size w1 w7):=HB5.out.trans (b7.mono HB5.out.size)
    obtain⟨av,cv,rfl⟩:=ownN_shape o7
    have hol:=ordW_length l
    have HOL:Hid (∀k,k<(ordW l).length→((ordW l)[k]?).isSome):=fun k hk=>by rw[List.getElem?_eq_getElem hk];rfl
    clear o7 b7 hcp
    go_wp2
    go_loopw [45] (fun iv wr=>∃(k:Nat) (f:Nat→Int) (n:Int) (i h bias:Nat) (gone:Bool) (acc:List UInt8),iv=.int .i64 k∧k≤(ordW l).length∧bias≤4294967330∧acc.length≤11*k∧Hid (PunOk l ((ordW l).drop k) f n i h)∧Hid (MkAt wr (w1.heap.size+1) l.length f)∧Hid (CtAt wr w4.heap.size n i h bias gone)∧Hid (Bl w1.heap.size w1.heap.size (PH++acc) wr)∧Hid (Below w1.heap.size w1 wr)∧Hid (punD l=(punL l ((ordW l).drop k) f n i h bias (!gone)).map fun d=>acc++d)∧Hid (wr.ownsRow w5.heap.size 3 1 (.slice av (ordW l).length cv) (ordW l).length (cellsN .i64 (natI (ordW l))))) (fun iv _=>(ordW l).length - (intOf iv).toNat)
    case atStart=>exact⟨0,F,128,0,h0,72,false,[],rfl,Nat.zero_le _,by omega,by simp,HOKz,HM7,HL7,HF7,HB7,by
     show _=_
     rw[HPDz.out,List.drop_zero,Bool.not_false]
     cases punL l (ordW l) F 128 0 h0 72 true<;>rfl,HO7⟩
    case round=>
     obtain⟨k,f,n,i,h,bias,gone,acc,rfl,hk,hbias,hacl,HOK,HM,HCT,HF,HB,HPD,HO⟩:=hrel
     obtain⟨av',cv',ev,HN,_,_,_,hav⟩:=own_nts HO.out
     injection ev with ev1 ev2 ev3
     subst ev1 ev3
     clear ev2
     have hBlt:=HF.out.lt
     have hMlt:=HM.out.lt
     have hClt:=Lies.lt HCT.out
     by_cases hlk:k<(ordW l).length
     ·have hdrop:(ordW l).drop k=(ordW l)[k]::(ordW l).drop (k+1):=List.drop_eq_getElem_cons hlk
      rw[hdrop]at HOK HPD
      have hst0:=HOK.out.step0
      have HOK2:Hid (PunOk l ((ordW l).drop (k+1)) (put1 f (ordW l)[k] 1) (rn l (ordW l)[k]) ((pre f (ordW l)[k]).toNat+1) (h+1)):=HOK.out.step
      obtain⟨hat,hf0,hr0,hr1,_⟩:=HOK.out.nxt (ordW l)[k] List.mem_cons_self
      have hpre0:=HOK.out.pre0 (ordW l)[k]
      have hpreh:=HOK.out.preh (Nat.le_of_lt hat)
      have hhl2:=HOK.out.hle
      have hile:=HOK.out.ile
      have hn01:=HOK.out.n01
      have hf01:=HOK.out.f01
      have hnat:(natI (ordW l))[k]'(by rw[natI_length];exact hlk)=(((ordW l)[k]:Nat):Int):=by simp[natI]
      obtain⟨gv,ov,eav,hgv,hcv⟩:=HN.cell k (by rw[natI_length];exact hlk)
      rw[hnat]at hcv
      have hav2:=hav _ eav
      subst eav
      simp only at hav2
      obtain⟨hav3, -⟩:=hav2
      have hrnat:=rn_get l (ordW l)[k] hat
      clear hnat HN hav hdrop
      simp only[punL]at HPD
      unfold stp at HPD hst0
      generalize (ordW l)[k]=at' at HPD hst0 HOK2 hat hf0 hr0 hr1 hpre0 hpreh hcv hrnat
      obtain⟨g,o,rfl,hg,hcell⟩:=(HL.out.below HB.out).cell at' hat
      rw[←hrnat]at hcell
      generalize rn l at'=r at HPD hst0 HOK2 hr0 hr1 hcell
      clear hrnat HOK
      have hca:=ahead_any (w1.heap.size+1) l.length at' f wr HM.out hf01 hs (Nat.le_of_lt hat)
      obtain⟨P,hP⟩:=Int.eq_ofNat_of_zero_le hpre0
      rw[hP]at hca hpreh HPD HOK2 hst0
      simp only[Int.toNat_natCast]at HOK2 HPD
      have hcs:=cstep_any w4.heap.size n i h bias gone r P wr HCT.out ⟨by omega,hr1⟩ hn01 (by omega) (by omega) (by omega)
      obtain⟨S,hS⟩:=Int.eq_ofNat_of_zero_le hst0
      rw[hS]at hcs HPD
      simp only[Int.toNat_natCast]at HPD
      have HHG:Hid (g<w1.heap.size):=by
       rcases HL.out with h'|⟨g',o',e',hg',_⟩
       ·rw[h']at hat;simp at hat
       ·injection e' with e'
        injection e' with e1 e2
        subst e1
        exact hg'
      clear hst0 hS hpre0 hP
      go_wp2_with fail
      refine hca.mono ?_
      rintro e w8 ⟨rfl,rfl⟩
      clear hca
      go_wp2_with fail
      refine hcs.mono ?_
      rintro e w9 ⟨rfl,rfl⟩
      clear hcs
      by_cases hov:2147483647<S
      ·have HZ:Hid (punD l=none):=by
        have:=HPD.out
        rw[if_pos (by omega)]at this
        exact this
       have hov':(2147483647:Int)<(S:Int):=by omega
       clear HPD
       go_wp2
       go_ret2
       refine⟨?_,HB.out.drew⟩
       rw[HT.out,HE.out,HZ.out]
       rfl
      ·have HPD2:Hid (punD l=(punL l ((ordW l).drop (k+1)) (put1 f at' 1) r (P+1) (h+1) (biasB S (h+1) (!gone)) false).map fun d=>(acc++digs S 0 bias)++d):=by
        have:=HPD.out
        rw[if_neg (by omega)]at this
        show _=_
        rw[this,Option.map_map]
        congr 1
        funext d
        simp
       have hov':¬(2147483647:Int)<(S:Int):=by omega
       have hbb:=biasB_le S (h+1) (!gone)
       have hdl:=digs_short S 0 bias 10 (by omega)
       have hcw:=wstep_any w1.heap.size w1.heap.size (PH++acc) S bias w8.drew (HF.out.below ((Below.refl _ _).drew)) (by omega) (by omega) (by simp;omega) (Nat.le_of_lt hBlt)
       have c3:w8.drew.cell? ⟨w4.heap.size,3,none⟩=some (.int .i64 bias):=(Lies.drew HCT.out).cell 3
       clear HPD
       go_wp2_with fail
       refine hcw.mono ?_
       rintro e wa ⟨rfl,ba,ma⟩
       have HFa:Hid (Bl w1.heap.size w1.heap.size (PH++(acc++digs S 0 bias)) wa):=by show Bl _ _ _ _;rw[←List.append_assoc];exact ba
       have HMa:Hid (MkAt wa (w1.heap.size+1) l.length f):=ma.mk' (HM.out.keep rfl) (by omega)
       have HCa:Hid (CtAt wa w4.heap.size n i h bias gone):=ma.lies (Lies.drew HCT.out) (by omega) (by decide)
       have HBa:Hid (Below w1.heap.size w1 wa):=(HB.out.drew).trans ma.below
       have HOa:Hid (wa.ownsRow w5.heap.size 3 1 (.slice (some ⟨gv,ov,none⟩) (ordW l).length cv) (ordW l).length (cellsN .i64 (natI (ordW l)))):=ma.own (ownN_keep HO.out (fun _ _=>rfl)) (by decide) (fun q hq=>by have:=(HO.out.lt q hq).1;omega)
       have hcella:wa.cell? ⟨g,o+at',none⟩=some (.int .i32 r):=by
        have h1:w8.drew.cell? ⟨g,o+at',none⟩=some (.int .i32 r):=hcell
        exact(ma.below.cell (p:=⟨g,o+at',none⟩) HHG.out).trans h1
       have hga:g<wa.heap.size:=Nat.lt_of_lt_of_le hg ma.below.size
       have hcn:=cnext_any w4.heap.size n i h S P bias gone r wa HCa.out (by omega) (by omega) (by omega)
       have haP:(at':Int)<(l.length:Int):=by omega
       clear ba ma hcw c3 hcell
       go_wp2_with fail
       refine hcn.mono ?_
       rintro e wb ⟨rfl,bb,mb⟩
       have HCb:Hid (CtAt wb w4.heap.size r ((P+1:Nat):Int) ((h+1:Nat):Int) (biasB S (h+1) (!gone):Nat) true):=mb
       have HMb:Hid (MkAt wb (w1.heap.size+1) l.length f):=HMa.out.keep (bb.block _ HMa.out.lt (by omega))
       have HFb:Hid (Bl w1.heap.size w1.heap.size (PH++(acc++digs S 0 bias)) wb):=HFa.out.but bb HCa.out (by decide) (by decide)
       have HBb:Hid (Below w1.heap.size w1 wb):=HBa.out.trans (bb.below (by omega) HBa.out.size)
       have HOb:Hid (wb.ownsRow w5.heap.size 3 1 (.slice (some ⟨gv,ov,none⟩) (ordW l).length cv) (ordW l).length (cellsN .i64 (natI (ordW l)))):=ownN_keep HOa.out (fun q hq=>bb.block q (HOa.out.lt q hq).2 (by have:=(HOa.out.lt q hq).1;omega))
       have hcd:=add_any (w1.heap.size+1) l.length at' 1 f wb HMb.out hf01 HOK2.out.f01 hs hat
       generalize biasB S (h+1) (!gone)=BB at HCb HPD2 hbb
       generalize digs S 0 bias=DD at HFb HPD2 hdl
       clear bb mb hcn
       go_wp2_with fail
       refine hcd.mono ?_
       rintro e wc ⟨rfl,bc,mc⟩
       have HMc:Hid (MkAt wc (w1.heap.size+1) l.length (put1 f at' 1)):=mc
       have HCc:Hid (CtAt wc w4.heap.size r ((P+1:Nat):Int) ((h+1:Nat):Int) (BB:Nat) true):=bc.lies HCb.out (by omega)
       have HFc:Hid (Bl w1.heap.size w1.heap.size (PH++(acc++DD)) wc):=HFb.out.mk' bc HMb.out
       have HBc:Hid (Below w1.heap.size w1 wc):=HBb.out.trans (bc.below (by omega) HBb.out.size)
       have HOc:Hid (wc.ownsRow w5.heap.size 3 1 (.slice (some ⟨gv,ov,none⟩) (ordW l).length cv) (ordW l).length (cellsN .i64 (natI (ordW l)))):=ownN_keep HOb.out (fun q hq=>bc.block q (HOb.out.lt q hq).2 (by have:=(HOb.out.lt q hq).1;omega))
       clear bc mc hcd
       go_wp2
       go_roundw
       case rel=>exact⟨k+1,put1 f at' 1,r,P+1,h+1,BB,true,acc++DD,by go_num,by omega,by omega,by simp;omega,HOK2,HMc,HCc,HFc,HBc,HPD2,HOc⟩
       case measure=>simp[intOf];omega
     ·have HZ:Hid (punD l=some acc):=by
       have:=HPD.out
       rw[List.drop_eq_nil_of_le (by omega)]at this
       simp only[punL,Option.map_some,List.append_nil]at this
       exact this
      have hcb:=bstr_any w1.heap.size w1.heap.size (PH++acc) wr HF.out (Nat.le_of_lt hBlt)
      clear HPD HN hav
      go_wp2_with fail
      refine hcb.mono ?_
      rintro e w8 ⟨rfl,b8⟩
      go_wp2
      go_ret2
      refine⟨?_,HB.out.trans b8⟩
      rw[HT.out,HE.out,HZ.out]
      rfl
   ·have HPH2:Hid (punH l=L++[45]):=by
     show _=_
     rw[HPH.out,if_neg hL]
    have hL0:0<L.length:=List.length_pos_iff.2 hL
    have hL0':(0:Int)<(L.length:Int):=by omega
    have hcw:=wbyte_any w1.heap.size w1.heap.size L 45 w5 HF5.out (by omega) (by omega)
    rw[←HPH2.out]at hcw
    have hhl:(punH l).length≤l.length+1:=by rw[HPH2.out,List.length_append];simp;omega
    go_wp2_with fail
    refine hcw.mono ?_
    rintro e w6 ⟨rfl,b6,m6⟩
    have HF6:Hid (Bl w1.heap.size w1.heap.size (punH l) w6):=b6
    have HL6:Hid (CtAt w6 w4.heap.size 128 0 (L.length:Nat) 72 false):=m6.lies HL5.out (by omega) (by decide)
    have HM6:Hid (MkAt w6 (w1.heap.size+1) l.length F):=m6.mk' HM5.out (by omega)
    have HB6:Hid (Below w1.heap.size w1 w6):=HB5.out.trans m6.below
    have hs6:w4.heap.size<w6.heap.size:=Nat.lt_of_lt_of_le hs5 m6.below.size
    have HPDz:Hid (punD l=punL l (ordW l) F 128 0 L.length 72 true):=HPD.out
    have HOKz:Hid (PunOk l (ordW l) F 128 0 L.length):=HOK.out
    clear b6 m6 hcw HPH2 HF5 HL5 HM5 HB5 hs5 HPH hL hL0
    generalize hLL:L.length=h0 at*
    clear hLL HPD HOK HF HM HB HF0 HB0 HF2 HM2 HB2
    generalize punH l=PH at*
    have hcp:=widep_any a l cap w6 (HL.out.below HB6.out) hs
    go_wp2_with fail
    refine hcp.mono ?_
    rintro e w7 ⟨v,rfl,o7,b7⟩
    have HO7:Hid (w7.ownsRow w6.heap.size 3 1 v (ordW l).length (cellsN .i64 (natI (ordW l)))):=o7
    have HF7:Hid (Bl w1.heap.size w1.heap.size (PH++[]) w7):=by show Bl _ _ _ _;rw[List.append_nil];exact HF6.out.below b7
    have HL7:Hid (CtAt w7 w4.heap.size 128 ((0:Nat):Int) (h0:Nat) ((72:Nat):Int) false):=HL6.out.below b7 hs6
    have HM7:Hid (MkAt w7 (w1.heap.size+1) l.length F):=HM6.out.below b7 (by omega)
    have HB7:Hid (Below w1.heap.size w1 w7):=HB6.out.trans (b7.mono HB6.out.size)
    obtain⟨av,cv,rfl⟩:=ownN_shape o7
    have hol:=ordW_length l
    have HOL:Hid (∀k,k<(ordW l).length→((ordW l)[k]?).isSome):=fun k hk=>by rw[List.getElem?_eq_getElem hk];rfl
    clear o7 b7 hcp
    go_wp2
    go_loopw [45] (fun iv wr=>∃(k:Nat) (f:Nat→Int) (n:Int) (i h bias:Nat) (gone:Bool) (acc:List UInt8),iv=.int .i64 k∧k≤(ordW l).length∧bias≤4294967330∧acc.length≤11*k∧Hid (PunOk l ((ordW l).drop k) f n i h)∧Hid (MkAt wr (w1.heap.size+1) l.length f)∧Hid (CtAt wr w4.heap.size n i h bias gone)∧Hid (Bl w1.heap.size w1.heap.size (PH++acc) wr)∧Hid (Below w1.heap.size w1 wr)∧Hid (punD l=(punL l ((ordW l).drop k) f n i h bias (!gone)).map fun d=>acc++d)∧Hid (wr.ownsRow w6.heap.size 3 1 (.slice av (ordW l).length cv) (ordW l).length (cellsN .i64 (natI (ordW l))))) (fun iv _=>(ordW l).length - (intOf iv).toNat)
    case atStart=>exact⟨0,F,128,0,h0,72,false,[],rfl,Nat.zero_le _,by omega,by simp,HOKz,HM7,HL7,HF7,HB7,by
     show _=_
     rw[HPDz.out,List.drop_zero,Bool.not_false]
     cases punL l (ordW l) F 128 0 h0 72 true<;>rfl,HO7⟩
    case round=>
     obtain⟨k,f,n,i,h,bias,gone,acc,rfl,hk,hbias,hacl,HOK,HM,HCT,HF,HB,HPD,HO⟩:=hrel
     obtain⟨av',cv',ev,HN,_,_,_,hav⟩:=own_nts HO.out
     injection ev with ev1 ev2 ev3
     subst ev1 ev3
     clear ev2
     have hBlt:=HF.out.lt
     have hMlt:=HM.out.lt
     have hClt:=Lies.lt HCT.out
     by_cases hlk:k<(ordW l).length
     ·have hdrop:(ordW l).drop k=(ordW l)[k]::(ordW l).drop (k+1):=List.drop_eq_getElem_cons hlk
      rw[hdrop]at HOK HPD
      have hst0:=HOK.out.step0
      have HOK2:Hid (PunOk l ((ordW l).drop (k+1)) (put1 f (ordW l)[k] 1) (rn l (ordW l)[k]) ((pre f (ordW l)[k]).toNat+1) (h+1)):=HOK.out.step
      obtain⟨hat,hf0,hr0,hr1,_⟩:=HOK.out.nxt (ordW l)[k] List.mem_cons_self
      have hpre0:=HOK.out.pre0 (ordW l)[k]
      have hpreh:=HOK.out.preh (Nat.le_of_lt hat)
      have hhl2:=HOK.out.hle
      have hile:=HOK.out.ile
      have hn01:=HOK.out.n01
      have hf01:=HOK.out.f01
      have hnat:(natI (ordW l))[k]'(by rw[natI_length];exact hlk)=(((ordW l)[k]:Nat):Int):=by simp[natI]
      obtain⟨gv,ov,eav,hgv,hcv⟩:=HN.cell k (by rw[natI_length];exact hlk)
      rw[hnat]at hcv
      have hav2:=hav _ eav
      subst eav
      simp only at hav2
      obtain⟨hav3, -⟩:=hav2
      have hrnat:=rn_get l (ordW l)[k] hat
      clear hnat HN hav hdrop
      simp only[punL]at HPD
      unfold stp at HPD hst0
      generalize (ordW l)[k]=at' at HPD hst0 HOK2 hat hf0 hr0 hr1 hpre0 hpreh hcv hrnat
      obtain⟨g,o,rfl,hg,hcell⟩:=(HL.out.below HB.out).cell at' hat
      rw[←hrnat]at hcell
      generalize rn l at'=r at HPD hst0 HOK2 hr0 hr1 hcell
      clear hrnat HOK
      have hca:=ahead_any (w1.heap.size+1) l.length at' f wr HM.out hf01 hs (Nat.le_of_lt hat)
      obtain⟨P,hP⟩:=Int.eq_ofNat_of_zero_le hpre0
      rw[hP]at hca hpreh HPD HOK2 hst0
      simp only[Int.toNat_natCast]at HOK2 HPD
      have hcs:=cstep_any w4.heap.size n i h bias gone r P wr HCT.out ⟨by omega,hr1⟩ hn01 (by omega) (by omega) (by omega)
      obtain⟨S,hS⟩:=Int.eq_ofNat_of_zero_le hst0
      rw[hS]at hcs HPD
      simp only[Int.toNat_natCast]at HPD
      have HHG:Hid (g<w1.heap.size):=by
       rcases HL.out with h'|⟨g',o',e',hg',_⟩
       ·rw[h']at hat;simp at hat
       ·injection e' with e'
        injection e' with e1 e2
        subst e1
        exact hg'
      clear hst0 hS hpre0 hP
      go_wp2_with fail
      refine hca.mono ?_
      rintro e w8 ⟨rfl,rfl⟩
      clear hca
      go_wp2_with fail
      refine hcs.mono ?_
      rintro e w9 ⟨rfl,rfl⟩
      clear hcs
      by_cases hov:2147483647<S
      ·have HZ:Hid (punD l=none):=by
        have:=HPD.out
        rw[if_pos (by omega)]at this
        exact this
       have hov':(2147483647:Int)<(S:Int):=by omega
       clear HPD
       go_wp2
       go_ret2
       refine⟨?_,HB.out.drew⟩
       rw[HT.out,HE.out,HZ.out]
       rfl
      ·have HPD2:Hid (punD l=(punL l ((ordW l).drop (k+1)) (put1 f at' 1) r (P+1) (h+1) (biasB S (h+1) (!gone)) false).map fun d=>(acc++digs S 0 bias)++d):=by
        have:=HPD.out
        rw[if_neg (by omega)]at this
        show _=_
        rw[this,Option.map_map]
        congr 1
        funext d
        simp
       have hov':¬(2147483647:Int)<(S:Int):=by omega
       have hbb:=biasB_le S (h+1) (!gone)
       have hdl:=digs_short S 0 bias 10 (by omega)
       have hcw:=wstep_any w1.heap.size w1.heap.size (PH++acc) S bias w8.drew (HF.out.below ((Below.refl _ _).drew)) (by omega) (by omega) (by simp;omega) (Nat.le_of_lt hBlt)
       have c3:w8.drew.cell? ⟨w4.heap.size,3,none⟩=some (.int .i64 bias):=(Lies.drew HCT.out).cell 3
       clear HPD
       go_wp2_with fail
       refine hcw.mono ?_
       rintro e wa ⟨rfl,ba,ma⟩
       have HFa:Hid (Bl w1.heap.size w1.heap.size (PH++(acc++digs S 0 bias)) wa):=by show Bl _ _ _ _;rw[←List.append_assoc];exact ba
       have HMa:Hid (MkAt wa (w1.heap.size+1) l.length f):=ma.mk' (HM.out.keep rfl) (by omega)
       have HCa:Hid (CtAt wa w4.heap.size n i h bias gone):=ma.lies (Lies.drew HCT.out) (by omega) (by decide)
       have HBa:Hid (Below w1.heap.size w1 wa):=(HB.out.drew).trans ma.below
       have HOa:Hid (wa.ownsRow w6.heap.size 3 1 (.slice (some ⟨gv,ov,none⟩) (ordW l).length cv) (ordW l).length (cellsN .i64 (natI (ordW l)))):=ma.own (ownN_keep HO.out (fun _ _=>rfl)) (by decide) (fun q hq=>by have:=(HO.out.lt q hq).1;omega)
       have hcella:wa.cell? ⟨g,o+at',none⟩=some (.int .i32 r):=by
        have h1:w8.drew.cell? ⟨g,o+at',none⟩=some (.int .i32 r):=hcell
        exact(ma.below.cell (p:=⟨g,o+at',none⟩) HHG.out).trans h1
       have hga:g<wa.heap.size:=Nat.lt_of_lt_of_le hg ma.below.size
       have hcn:=cnext_any w4.heap.size n i h S P bias gone r wa HCa.out (by omega) (by omega) (by omega)
       have haP:(at':Int)<(l.length:Int):=by omega
       clear ba ma hcw c3 hcell
       go_wp2_with fail
       refine hcn.mono ?_
       rintro e wb ⟨rfl,bb,mb⟩
       have HCb:Hid (CtAt wb w4.heap.size r ((P+1:Nat):Int) ((h+1:Nat):Int) (biasB S (h+1) (!gone):Nat) true):=mb
       have HMb:Hid (MkAt wb (w1.heap.size+1) l.length f):=HMa.out.keep (bb.block _ HMa.out.lt (by omega))
       have HFb:Hid (Bl w1.heap.size w1.heap.size (PH++(acc++digs S 0 bias)) wb):=HFa.out.but bb HCa.out (by decide) (by decide)
       have HBb:Hid (Below w1.heap.size w1 wb):=HBa.out.trans (bb.below (by omega) HBa.out.size)
       have HOb:Hid (wb.ownsRow w6.heap.size 3 1 (.slice (some ⟨gv,ov,none⟩) (ordW l).length cv) (ordW l).length (cellsN .i64 (natI (ordW l)))):=ownN_keep HOa.out (fun q hq=>bb.block q (HOa.out.lt q hq).2 (by have:=(HOa.out.lt q hq).1;omega))
       have hcd:=add_any (w1.heap.size+1) l.length at' 1 f wb HMb.out hf01 HOK2.out.f01 hs hat
       generalize biasB S (h+1) (!gone)=BB at HCb HPD2 hbb
       generalize digs S 0 bias=DD at HFb HPD2 hdl
       clear bb mb hcn
       go_wp2_with fail
       refine hcd.mono ?_
       rintro e wc ⟨rfl,bc,mc⟩
       have HMc:Hid (MkAt wc (w1.heap.size+1) l.length (put1 f at' 1)):=mc
       have HCc:Hid (CtAt wc w4.heap.size r ((P+1:Nat):Int) ((h+1:Nat):Int) (BB:Nat) true):=bc.lies HCb.out (by omega)
       have HFc:Hid (Bl w1.heap.size w1.heap.size (PH++(acc++DD)) wc):=HFb.out.mk' bc HMb.out
       have HBc:Hid (Below w1.heap.size w1 wc):=HBb.out.trans (bc.below (by omega) HBb.out.size)
       have HOc:Hid (wc.ownsRow w6.heap.size 3 1 (.slice (some ⟨gv,ov,none⟩) (ordW l).length cv) (ordW l).length (cellsN .i64 (natI (ordW l)))):=ownN_keep HOb.out (fun q hq=>bc.block q (HOb.out.lt q hq).2 (by have:=(HOb.out.lt q hq).1;omega))
       clear bc mc hcd
       go_wp2
       go_roundw
       case rel=>exact⟨k+1,put1 f at' 1,r,P+1,h+1,BB,true,acc++DD,by go_num,by omega,by omega,by simp;omega,HOK2,HMc,HCc,HFc,HBc,HPD2,HOc⟩
       case measure=>simp[intOf];omega
     ·have HZ:Hid (punD l=some acc):=by
       have:=HPD.out
       rw[List.drop_eq_nil_of_le (by omega)]at this
       simp only[punL,Option.map_some,List.append_nil]at this
       exact this
      have hcb:=bstr_any w1.heap.size w1.heap.size (PH++acc) wr HF.out (Nat.le_of_lt hBlt)
      clear HPD HN hav
      go_wp2_with fail
      refine hcb.mono ?_
      rintro e w8 ⟨rfl,b8⟩
      go_wp2
      go_ret2
      refine⟨?_,HB.out.trans b8⟩
      rw[HT.out,HE.out,HZ.out]
      rfl
theorem puny_any (a:Option Addr) (l:List Int) (cap:Nat) (w:World) (hn:Nts .i32 a l w) (hs:l.length≤1073741824):
  Calls Tryz.prog 181 #[.slice a l.length cap] w fun e w'=>e=.returned (.tuple #[.string (punT l),.int .i64 (punE l)])∧Below w.heap.size w w':=by
 by_cases hr:noR l<l.length
 ·exact puny_bad a l cap w hn hs hr
 ·exact puny_good a l cap w hn hs (by have:=noR_le l;omega)
end Go.Proofs.YtfjpkfhbmldmfaaGreatDoor
