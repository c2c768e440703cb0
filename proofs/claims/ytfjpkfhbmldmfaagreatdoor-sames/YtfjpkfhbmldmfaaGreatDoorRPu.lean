/-
  The document's Puny.
-/
import Derived.Test.YtfjpkfhbmldmfaaGreatDoorRLet
import Derived.Test.YtfjpkfhbmldmfaaGreatDoorREnc
import Derived.Test.YtfjpkfhbmldmfaaGreatDoorPun
namespace Go.Proofs.YtfjpkfhbmldmfaaGreatDoor
open Go.RowKit
def boolsF (f:Nat→Int) (N:Nat):Array Value:=((List.range N).map fun j=>Value.bool (decide (f j=1))).toArray
def BlAt (w:World) (g N:Nat) (f:Nat→Int):Prop:=Lies w g (boolsF f N) 4
theorem BlAt.cell {w:World} {g N:Nat} {f:Nat→Int} (h:BlAt w g N f) (k:Nat) (hk:k<N):w.cell? ⟨g,k,none⟩=some (.bool (decide (f k=1))):=by
 rw[Lies.cell h k]
 simp[boolsF,hk]
theorem boolsF_put (f:Nat→Int) (N k:Nat) (hk:k<N) (h0:f k=0):(boolsF f N).setIfInBounds k (.bool true)=boolsF (put1 f k 1) N:=by
 apply Array.ext_getElem?
 intro i
 rw[Array.getElem?_setIfInBounds]
 by_cases e:k=i
 ·subst e
  rw[if_pos rfl,if_pos (by simp[boolsF];exact hk)]
  simp[boolsF,hk,put1,h0]
 ·rw[if_neg e]
  by_cases hi:i<N
  ·simp[boolsF,put1,hi,show ¬i=k from fun h=>e h.symm]
  ·simp[boolsF,hi]
theorem BlAt.put {w:World} {g N:Nat} {f:Nat→Int} (h:BlAt w g N f) (k:Nat) (hk:k<N) (h0:f k=0):BlAt (w.setCell ⟨g,k,none⟩ (.bool true)) g N (put1 f k 1):=by
 have:=Lies.set h k (.bool true)
 rw[boolsF_put f N k hk h0]at this
 exact this
theorem boolsF_ext (f f':Nat→Int) (N:Nat) (h:∀j,j<N→f j=f' j):boolsF f N=boolsF f' N:=by
 unfold boolsF
 congr 1
 apply List.map_congr_left
 intro j hj
 rw[h j (List.mem_range.1 hj)]
theorem madeB (n:Nat):madeCells #[Value.bool false] n=boolsF (fun _=>0) n:=by
 apply Array.ext_getElem?
 intro i
 by_cases h:i<n
 ·simp[madeCells,boolsF,h,Nat.mod_one]
 ·rw[Array.getElem?_eq_none (by simp[madeCells];omega),Array.getElem?_eq_none (by simp[boolsF];omega)]
theorem infoT:(Tryz.prog.info? 4).map (fun i=>(i.zero,i.size,i.bytes))=some (some (.bool false),1,1):=by kernel_rfl
theorem make_bools (w:World) (n:Nat) (hn:n≤1073741824):
  ∃w',(Instr.makeSlice 160 (.int .i64 n) (.int .i64 n)).run Tryz.prog w=.ok (.slice (some ⟨w.heap.size,0,none⟩) n n) w'∧BlAt w' w.heap.size n (fun _=>0)∧Below w.heap.size w w'∧w'.heap.size=w.heap.size+1:=by
 obtain⟨i0,hi,hz0,hz1,hz2⟩:=info_parts infoT
 have hr:=run_make (P:=Tryz.prog) w 160 4 i0 (.bool false) Tryz.underlying160 hi hz0 .i64 .i64 n n (by omega) (by omega) (by rw[hz2];omega) (by omega)
 rw[hz1,Nat.mul_one,Int.toNat_natCast]at hr
 refine⟨_,hr,?_,(Below.refl _ _).alloc (Nat.le_refl _) _,by simp⟩
 unfold BlAt
 rw[←madeB]
 exact Lies.new w _ 4
theorem ba_app (a b:List UInt8):(⟨a.toArray⟩:ByteArray)++⟨b.toArray⟩=⟨(a++b).toArray⟩:=by
 apply ByteArray.ext
 rw[ByteArray.data_append]
 simp
theorem conv_one (w:World) (x:Int) (h0:0≤x) (h1:x<128):(convert 98 9 (.slice (some ⟨w.heap.size,0,none⟩) 1 1)).run Tryz.prog (w.alloc (.cells #[.int .u8 x] 5))=.ok (.string ⟨#[UInt8.ofNat x.toNat]⟩) (w.alloc (.cells #[.int .u8 x] 5)):=by
 have hb:Bts (some ⟨w.heap.size,0,none⟩) [UInt8.ofNat x.toNat] (w.alloc (.cells #[.int .u8 x] 5)):=by
  refine .inr ⟨w.heap.size,0,rfl,by simp,fun j hj=>?_⟩
  obtain rfl:j=0:=by simpa using hj
  rw[Nat.zero_add,(Lies.new w #[.int .u8 x] 5).cell 0]
  simp only[List.getElem_cons_zero,UInt8.toNat_ofNat']
  rw[show((x.toNat % 2 ^ 8:Nat):Int)=x from by omega]
  rfl
 exact bts_back hb 1
set_option maxHeartbeats 8000000 in
set_option maxRecDepth 100000 in
theorem dpuny_any (a:Option Addr) (l:List Int) (cap:Nat) (w:World) (hn:Nts .i32 a l w) (hs:l.length≤1073741824) (h32:∀x∈l, -2147483648≤x∧x≤2147483647):
  Calls Tryz.prog 120 #[.slice a l.length cap] w fun e w'=>e=.returned (.tuple #[.string (punT l),.int .i64 (punE l)])∧Below w.heap.size w w':=by
 have HL:Hid (Nts .i32 a l w):=hn
 have HX:Hid (∀x∈l, -2147483648≤x∧x≤2147483647):=h32
 obtain⟨w1,hmk,m1,b1,s1⟩:=make_bools w l.length hs
 have HM1:Hid (BlAt w1 w.heap.size l.length (lowF l 0)):=by
  show Lies _ _ _ _
  rw[boolsF_ext (lowF l 0) (fun _=>0) l.length (fun j _=>lowF_zero l j)]
  exact m1
 have HB1:Hid (Below w.heap.size w w1):=b1
 clear hn h32 m1 b1 s1
 go_enter Tryz.func120,Tryz.ntmps120
 go_wp2
 go_loopw [4,6,7,8,23] (fun ov cv _ _ iv wr=>∃k:Nat,iv=.int .i64 k∧k≤l.length∧ov=.string ⟨(lowB l k).toArray⟩∧cv=.int .i64 (((lowB l k).length:Nat):Int)∧Hid (BlAt wr w.heap.size l.length (lowF l k))∧Hid (Below w.heap.size w wr)∧Hid (∀j (hj:j<l.length),j<k→isR l[j])) (fun _ _ _ _ iv _=>l.length - (intOf iv).toNat)
 case atStart=>exact⟨0,rfl,Nat.zero_le _,rfl,rfl,HM1,HB1,fun j _ h=>absurd h (Nat.not_lt_zero _)⟩
 case round=>
  obtain⟨k,rfl,hk,rfl,rfl,HM,HB,HP⟩:=hrel
  have hglt:=Lies.lt HM.out
  by_cases hlk:k<l.length
  ·obtain⟨g,o,rfl,hg,hc⟩:=(HL.out.below HB.out).cell k hlk
   have h3:=HX.out l[k] (List.getElem_mem hlk)
   have hw3:IntKind.i64.wrap l[k]=l[k]:=by rw[IntKind.wrap_i64];omega
   have HI:=dis_any l[k] wr
   by_cases hr:isR l[k]
   ·rw[decide_eq_true hr]at HI
    have HPN:Hid (∀j (hj:j<l.length),j<k+1→isR l[j]):=fun j hj hjk=>by
     rcases Nat.lt_or_ge j k with h|h
     ·exact HP.out j hj h
     ·obtain rfl:j=k:=by omega
      exact hr
    have hrn:=rn_get l k hlk
    by_cases h128:l[k]<128
    ·have hLB:=lowB_yes l k hlk h128
     have hLF:Hid (∀j,lowF l (k+1) j=put1 (lowF l k) k 1 j):=lowF_yes l k (by rw[hrn];exact h128)
     have hr0:=hr.1
     have hw8:IntKind.u8.wrap l[k]=l[k]:=by rw[IntKind.wrap_u8];omega
     have hcv:=conv_one wr l[k] hr0 h128
     have hll:=lowB_length l k
     have hnl:¬9223372036854775807<(lowB l k).length+1:=by omega
     have HCL:Hid (k<l.length):=hlk
     have hki:(k:Int)<(l.length:Int):=by omega
     have hfz:=Lies.frozen HM.out k
     have hcl:=HM.out.cell k hlk
     have HREL:Hid (⟨(lowB l (k+1)).toArray⟩=(⟨(lowB l k).toArray⟩:ByteArray)++⟨#[UInt8.ofNat l[k].toNat]⟩∧(lowB l (k+1)).length=(lowB l k).length+1):=by
      refine⟨?_,by rw[hLB,List.length_append];rfl⟩
      rw[hLB,←ba_app]
      rfl
     clear hLB hrn
     generalize lowB l k=L1 at*
     go_wp2_with fail
     refine HI.mono ?_
     rintro e w2 ⟨rfl,rfl⟩
     clear HI
     go_wp2
     have hlo:lowF l k k=0:=by unfold lowF;rw[if_neg (by omega)]
     have HM3:Hid (BlAt ((w2.setCell ⟨w.heap.size,k,none⟩ (.bool true)).alloc (.cells #[.int .u8 l[k]] 5)) w.heap.size l.length (lowF l (k+1))):=by
      show Lies _ _ _ _
      rw[boolsF_ext (lowF l (k+1)) _ l.length (fun j _=>hLF.out j)]
      exact Lies.alloc (BlAt.put HM.out k hlk hlo) _
     have HB3:Hid (Below w.heap.size w ((w2.setCell ⟨w.heap.size,k,none⟩ (.bool true)).alloc (.cells #[.int .u8 l[k]] 5))):=(HB.out.setCell (p:=⟨w.heap.size,k,none⟩) (Nat.le_refl _) _).alloc (by simp;omega) _
     go_roundw
     case rel=>exact⟨k+1,by go_num,by omega,by rw[HREL.out.1];rfl,by rw[HREL.out.2];go_num,HM3,HB3,HPN⟩
     case measure=>simp[intOf];omega
    ·have hLB:=lowB_no l k hlk h128
     have hLF:=lowF_no l k (by rw[hrn];exact h128)
     go_wp2_with fail
     refine HI.mono ?_
     rintro e w2 ⟨rfl,rfl⟩
     clear HI
     go_wp2
     go_roundw
     case rel=>exact⟨k+1,by go_num,by omega,by rw[hLB],by rw[hLB],by rw[hLF];exact HM,HB,HPN⟩
     case measure=>simp[intOf];omega
   ·rw[decide_eq_false hr]at HI
    have hN:=noR_take l k hlk HP.out hr
    have HT:Hid (punT l=⟨#[]⟩):=if_pos (by omega)
    have HE:Hid (punE l=50):=if_pos (by omega)
    clear hN
    go_wp2_with fail
    refine HI.mono ?_
    rintro e w2 ⟨rfl,rfl⟩
    clear HI
    go_wp2
    go_ret2
    exact⟨by rw[HT.out,HE.out];rfl,HB.out⟩
  ·obtain rfl:k=l.length:=by omega
   have hN:=noR_full l (fun j hj=>HP.out j hj hj)
   have HR:Hid (∀r∈l,isR r):=(noR_all l).1 hN
   have HT:Hid (punT l=match punD l with
    |none=>⟨#[]⟩
    |some d=>⟨(punH l++d).toArray⟩):=by
    show _=_
    unfold punT
    rw[if_neg (by omega)]
    cases punD l<;>rfl
   have HE:Hid (punE l=match punD l with
    |none=>52
    |some _=>0):=by
    show _=_
    unfold punE
    rw[if_neg (by omega)]
    cases punD l<;>rfl
   have HOK:Hid (PunOk l (ordW l) (lowF l l.length) 128 0 (lowB l l.length).length):=punOk_start l HR.out
   have HPD:Hid (punD l=punL l (ordW l) (lowF l l.length) 128 0 (lowB l l.length).length 72 true):=rfl
   have HPH:Hid (punH l=lowB l l.length++(if lowB l l.length=[] then [] else [45])):=rfl
   have hll:=lowB_length l l.length
   have hho:=dord_any a l cap wr (HL.out.below HB.out) hs
   clear hN HP hk hlk HR HM1 HB1 hmk
   generalize lowF l l.length=F at*
   generalize lowB l l.length=L at*
   by_cases hL:L=[]
   ·have HPH2:Hid (⟨(punH l).toArray⟩=(⟨L.toArray⟩:ByteArray)):=by
     show _=_
     rw[HPH.out,if_pos hL,List.append_nil]
    have hhl:(punH l).length≤l.length+1:=by rw[HPH.out,if_pos hL,List.append_nil];omega
    have hL0:¬(0:Int)<(L.length:Int):=by rw[hL];simp
    clear HPH hL
    go_wp2_with fail
    rw[←HPH2.out]
    clear HPH2
    generalize hLL:L.length=h0 at*
    clear hLL
    generalize punH l=PH at*
    refine hho.mono ?_
    rintro e w3 ⟨⟨v,rfl,o3⟩,b3⟩
    obtain⟨av,cv,rfl⟩:=ownN_shape o3
    have HO3:Hid (w3.ownsRow wr.heap.size 3 1 (.slice av (ordW l).length cv) (ordW l).length (cellsN .i64 (natI (ordW l)))):=o3
    have HM3:Hid (BlAt w3 w.heap.size l.length F):=Lies.below HM.out b3 hglt
    have HB3:Hid (Below w.heap.size w w3):=HB.out.trans (b3.mono (Nat.le_of_lt hglt))
    have hol:=ordW_length l
    have HGL:Hid (w.heap.size<wr.heap.size):=hglt
    generalize wr.heap.size=B3 at HO3 HGL
    clear o3 b3 hho HM HB hglt
    clear wr
    go_wp2
    go_loopw [4,6,9,10,11,12,14,15,16,17,53] (fun ov qv nv iv bv fv _ _ _ _ kv wr=>∃(k:Nat) (f:Nat→Int) (n:Int) (i h bias:Nat) (first:Bool) (acc:List UInt8),kv=.int .i64 k∧k≤(ordW l).length∧bias≤4294967330∧acc.length≤11*k∧ov=.string ⟨(PH++acc).toArray⟩∧qv=.int .i64 (h:Nat)∧nv=.int .i64 n∧iv=.int .i64 (i:Nat)∧bv=.int .i64 (bias:Nat)∧fv=.bool first∧Hid (PunOk l ((ordW l).drop k) f n i h)∧Hid (BlAt wr w.heap.size l.length f)∧Hid (Below w.heap.size w wr)∧Hid (punD l=(punL l ((ordW l).drop k) f n i h bias first).map fun d=>acc++d)∧Hid (wr.ownsRow B3 3 1 (.slice av (ordW l).length cv) (ordW l).length (cellsN .i64 (natI (ordW l))))) (fun _ _ _ _ _ _ _ _ _ _ kv _=>(ordW l).length - (intOf kv).toNat)
    case atStart=>exact⟨0,F,128,0,h0,72,true,[],rfl,Nat.zero_le _,by omega,by simp,by rw[List.append_nil],rfl,rfl,rfl,rfl,rfl,HOK,HM3,HB3,by
     show _=_
     rw[HPD.out,List.drop_zero]
     cases punL l (ordW l) F 128 0 h0 72 true<;>rfl,HO3⟩
    case round=>
     clear HOK HPD HM3 HB3 HO3
     obtain⟨k,f,n,i,h,bias,first,acc,rfl,hk,hbias,hacl,rfl,rfl,rfl,rfl,rfl,rfl,HOK,HM,HB,HPD,HO⟩:=hrel
     obtain⟨av',cv',ev,HN,_,_,_,hav⟩:=own_nts HO.out
     injection ev with ev1 ev2 ev3
     subst ev1 ev3
     clear ev2
     have hMlt:=Lies.lt HM.out
     by_cases hlk:k<(ordW l).length
     ·have hdrop:(ordW l).drop k=(ordW l)[k]::(ordW l).drop (k+1):=List.drop_eq_getElem_cons hlk
      rw[hdrop]at HOK HPD
      have hst0:=HOK.out.step0
      have HOK2:Hid (PunOk l ((ordW l).drop (k+1)) (put1 f (ordW l)[k] 1) (rn l (ordW l)[k]) ((pre f (ordW l)[k]).toNat+1) (h+1)):=HOK.out.step
      obtain⟨hat,hf0,hr0,hr1,hnr⟩:=HOK.out.nxt (ordW l)[k] List.mem_cons_self
      have hnr2:n≤rn l (ordW l)[k]:=by omega
      have hpre0:=HOK.out.pre0 (ordW l)[k]
      have hpreh:=HOK.out.preh (Nat.le_of_lt hat)
      have hhl2:=HOK.out.hle
      have hile:=HOK.out.ile
      have hn01:=HOK.out.n01
      have HF01:Hid (F01 f):=HOK.out.f01
      have hnat:(natI (ordW l))[k]'(by rw[natI_length];exact hlk)=(((ordW l)[k]:Nat):Int):=by simp[natI]
      obtain⟨gv,ow,eav,hgv,hcv⟩:=HN.cell k (by rw[natI_length];exact hlk)
      rw[hnat]at hcv
      have hav2:=hav _ eav
      subst eav
      simp only at hav2
      obtain⟨hav3, -⟩:=hav2
      have HGV:Hid (B3≤gv):=hav3
      have hrnat:=rn_get l (ordW l)[k] hat
      clear hnat HN hav hdrop hav3 hnr
      simp only[punL]at HPD
      have hstp:stp l f n i h (ordW l)[k]=(rn l (ordW l)[k] - n)*((h:Int)+1)+pre f (ordW l)[k] - i:=rfl
      generalize stp l f n i h (ordW l)[k]=ST at HPD hst0 hstp
      generalize (ordW l)[k]=at' at HPD hstp HOK2 hat hf0 hr0 hr1 hpre0 hpreh hcv hrnat hnr2
      obtain⟨g,o,rfl,hg,hcell⟩:=(HL.out.below HB.out).cell at' hat
      rw[←hrnat]at hcell
      have HLr:Hid (Nts .i32 (some ⟨g,o,none⟩) l w):=HL.out
      generalize rn l at'=r at HPD hstp HOK2 hr0 hr1 hcell hnr2
      have HRN:Hid (l[at']=l[at']):=rfl
      clear hrnat HOK HRN
      obtain⟨P,hP⟩:=Int.eq_ofNat_of_zero_le hpre0
      have HPP:Hid (pre f at'=(P:Int)):=hP
      rw[hP]at hpreh HPD HOK2 hstp
      simp only[Int.toNat_natCast]at HOK2 HPD
      obtain⟨S,hS⟩:=Int.eq_ofNat_of_zero_le hst0
      rw[hS]at HPD hstp
      simp only[Int.toNat_natCast]at HPD
      have hXle:(r - n)*((h:Int)+1)≤1114111*((h:Int)+1):=Int.mul_le_mul_of_nonneg_right (by omega) (by omega)
      have hX0:0≤(r - n)*((h:Int)+1):=Int.mul_nonneg (by omega) (by omega)
      obtain⟨X,hX⟩:∃X,(r - n)*((h:Int)+1)=X:=⟨_,rfl⟩
      have hw4:IntKind.i64.wrap ((r - n)*((h:Int)+1))=X:=by rw[hX,IntKind.wrap_i64];rw[hX]at hXle hX0;omega
      rw[hX]at hstp hXle hX0
      clear hX hP hst0 hS hpre0
      have hw1:IntKind.i64.wrap r=r:=by rw[IntKind.wrap_i64];omega
      have hw2:IntKind.i64.wrap (r - n)=r - n:=by rw[IntKind.wrap_i64];omega
      have hw3:IntKind.i64.wrap ((h:Int)+1)=(h:Int)+1:=by rw[IntKind.wrap_i64];omega
      have hw5:IntKind.i64.wrap (X+(P:Int))=X+(P:Int):=by rw[IntKind.wrap_i64];omega
      have hw6:IntKind.i64.wrap (X+(P:Int) - (i:Int))=(S:Int):=by rw[IntKind.wrap_i64];omega
      have hki:(k:Int)<((ordW l).length:Int):=by omega
      have hai:(at':Int)<(l.length:Int):=by omega
      clear hXle hX0 hstp
      go_wp2_with fail
      go_loop [15,16,58] (fun pv _ jv=>∃m:Nat,jv=.int .i64 m∧m≤at'∧pv=.int .i64 (pre f m)) (fun _ _ jv=>at' - (intOf jv).toNat)
      case atStart=>exact⟨0,rfl,Nat.zero_le _,rfl⟩
      case round=>
       obtain⟨m,rfl,hm,rfl⟩:=hrel
       have hpm0:0≤pre f m:=by
        have:=pre_mono f HF01.out.1 (a:=0) (b:=m) (Nat.zero_le _)
        simpa [pre] using this
       have hpml:=pre_le f HF01.out.2 m
       by_cases hmt:m<at'
       ·have hcm:=HM.out.cell m (by omega)
        have hfm0:=HF01.out.1 m
        have hfm1:=HF01.out.2 m
        have hmi:(m:Int)<(l.length:Int):=by omega
        have HPM:Hid (pre f (m+1)=pre f m+f m):=rfl
        by_cases hf1:f m=1
        ·rw[decide_eq_true hf1]at hcm
         rw[hf1]at HPM
         generalize pre f m=p at*
         go_wp2
         go_round
         case rel=>exact⟨m+1,by go_num,by omega,by rw[HPM.out]⟩
         case measure=>simp[intOf];omega
        ·rw[decide_eq_false hf1]at hcm
         have hf0':f m=0:=by omega
         rw[hf0',Int.add_zero]at HPM
         clear hf0' hf1
         generalize pre f m=p at*
         go_wp2
         go_round
         case rel=>exact⟨m+1,by go_num,by omega,by rw[HPM.out]⟩
         case measure=>simp[intOf];omega
       ·obtain rfl:m=at':=by omega
        rw[HPP.out]
        clear hpm0 hpml hm hmt
        by_cases hov:2147483647<S
        ·have HZ:Hid (punD l=none):=by
          have:=HPD.out
          rw[if_pos (by omega)]at this
          exact this
         have hov':(2147483647:Int)<(S:Int):=by omega
         clear HPD
         go_wp2
         go_ret2
         refine⟨?_,HB.out⟩
         rw[HT.out,HE.out,HZ.out]
         rfl
        ·have HPD2:Hid (punD l=(punL l ((ordW l).drop (k+1)) (put1 f m 1) r (P+1) (h+1) (biasB S (h+1) first) false).map fun d=>(acc++digs S 0 bias)++d):=by
          have:=HPD.out
          rw[if_neg (by omega)]at this
          show _=_
          rw[this,Option.map_map]
          congr 1
          funext d
          simp
         have hov':¬(2147483647:Int)<(S:Int):=by omega
         have hbb:=biasB_le S (h+1) first
         have hdl:=digs_short S 0 bias 10 (by omega)
         have hcw:=dlet_any S 0 bias wr (by omega) (by omega) (by omega)
         have hpl:(PH++acc).length=PH.length+acc.length:=List.length_append
         have hapn:PH++(acc++digs S 0 bias)=(PH++acc)++digs S 0 bias:=by simp
         have HAPN:Hid (PH++(acc++digs S 0 bias)=(PH++acc)++digs S 0 bias):=hapn
         have hal:(acc++digs S 0 bias).length≤11*(k+1):=by rw[List.length_append];omega
         have HAL:Hid ((acc++digs S 0 bias).length≤11*(k+1)):=hal
         have hnl2:¬9223372036854775807<(PH++acc).length+(digs S 0 bias).length:=by omega
         clear HPD hapn hal
         generalize PH++acc=PA at*
         generalize acc++digs S 0 bias=AD at*
         generalize digs S 0 bias=DD at*
         go_wp2_with fail
         refine hcw.mono ?_
         rintro e w4 ⟨rfl,b4⟩
         have HM4:Hid (BlAt w4 w.heap.size l.length f):=Lies.below HM.out b4 hMlt
         have HB4:Hid (Below w.heap.size w w4):=HB.out.trans (b4.mono (Nat.le_of_lt hMlt))
         have HO4:Hid (w4.ownsRow B3 3 1 (.slice (some ⟨gv,ow,none⟩) (ordW l).length cv) (ordW l).length (cellsN .i64 (natI (ordW l)))):=ownN_below HO.out b4
         have hcell4:w4.cell? ⟨g,o+m,none⟩=some (.int .i32 r):=(b4.cell (p:=⟨g,o+m,none⟩) hg).trans hcell
         have hg4:g<w4.heap.size:=Nat.lt_of_lt_of_le hg b4.size
         have hM4lt:=Lies.lt HM4.out
         have hfz:=Lies.frozen HM4.out m
         have hcl:=HM4.out.cell m hat
         have hbi:=dbias_any S (h+1) first (by omega) (by omega) (by omega) (w4.setCell ⟨w.heap.size,m,none⟩ (.bool true))
         rw[show((h+1:Nat):Int)=(h:Int)+1 from by push_cast;rfl]at hbi
         generalize biasB S (h+1) first=BB at*
         have HM5:Hid (BlAt (w4.setCell ⟨w.heap.size,m,none⟩ (.bool true)) w.heap.size l.length (put1 f m 1)):=BlAt.put HM4.out m hat hf0
         have HB5:Hid (Below w.heap.size w (w4.setCell ⟨w.heap.size,m,none⟩ (.bool true))):=HB4.out.setCell (p:=⟨w.heap.size,m,none⟩) (Nat.le_refl _) _
         have HO5:Hid ((w4.setCell ⟨w.heap.size,m,none⟩ (.bool true)).ownsRow B3 3 1 (.slice (some ⟨gv,ow,none⟩) (ordW l).length cv) (ordW l).length (cellsN .i64 (natI (ordW l)))):=ownN_keep HO4.out (fun q hq=>Below.heap_setCell w4 _ _ q (by
          have h1:=(HO4.out.lt q hq).1
          have h2:=HGL.out
          simp only
          omega))
         clear b4 hcw hcell HM HB HO
         go_wp2_with fail
         refine hbi.mono ?_
         rintro e w6 ⟨rfl,rfl⟩
         clear hbi
         go_wp2
         go_roundw
         case rel=>exact⟨k+1,put1 f m 1,r,P+1,h+1,BB,false,AD,by go_num,by omega,by omega,HAL.out,by rw[HAPN.out,←ba_app],by go_num,rfl,by go_num,rfl,rfl,HOK2,HM5,HB5,HPD2,HO5⟩
         case measure=>simp[intOf];omega
     ·have HZ:Hid (punD l=some acc):=by
       have:=HPD.out
       rw[List.drop_eq_nil_of_le (by omega)]at this
       simp only[punL,Option.map_some,List.append_nil]at this
       exact this
      clear HPD HN hav
      go_wp2
      go_ret2
      refine⟨?_,HB.out⟩
      rw[HT.out,HE.out,HZ.out]
      rfl
   ·have hL0:(0:Int)<(L.length:Int):=by have:=List.length_pos_iff.2 hL;omega
    have HPH2:Hid (⟨(punH l).toArray⟩=(⟨L.toArray⟩:ByteArray)++⟨#[45]⟩):=by
     show _=_
     rw[HPH.out,if_neg hL,←ba_app]
    have hhl:(punH l).length≤l.length+1:=by rw[HPH.out,if_neg hL,List.length_append];simp;omega
    have hnl:¬9223372036854775807<L.length+1:=by omega
    clear HPH hL
    go_wp2_with fail
    rw[←HPH2.out]
    clear HPH2
    generalize hLL:L.length=h0 at*
    clear hLL
    generalize punH l=PH at*
    refine hho.mono ?_
    rintro e w3 ⟨⟨v,rfl,o3⟩,b3⟩
    obtain⟨av,cv,rfl⟩:=ownN_shape o3
    have HO3:Hid (w3.ownsRow wr.heap.size 3 1 (.slice av (ordW l).length cv) (ordW l).length (cellsN .i64 (natI (ordW l)))):=o3
    have HM3:Hid (BlAt w3 w.heap.size l.length F):=Lies.below HM.out b3 hglt
    have HB3:Hid (Below w.heap.size w w3):=HB.out.trans (b3.mono (Nat.le_of_lt hglt))
    have hol:=ordW_length l
    have HGL:Hid (w.heap.size<wr.heap.size):=hglt
    generalize wr.heap.size=B3 at HO3 HGL
    clear o3 b3 hho HM HB hglt
    clear wr
    go_wp2
    go_loopw [4,6,9,10,11,12,14,15,16,17,53] (fun ov qv nv iv bv fv _ _ _ _ kv wr=>∃(k:Nat) (f:Nat→Int) (n:Int) (i h bias:Nat) (first:Bool) (acc:List UInt8),kv=.int .i64 k∧k≤(ordW l).length∧bias≤4294967330∧acc.length≤11*k∧ov=.string ⟨(PH++acc).toArray⟩∧qv=.int .i64 (h:Nat)∧nv=.int .i64 n∧iv=.int .i64 (i:Nat)∧bv=.int .i64 (bias:Nat)∧fv=.bool first∧Hid (PunOk l ((ordW l).drop k) f n i h)∧Hid (BlAt wr w.heap.size l.length f)∧Hid (Below w.heap.size w wr)∧Hid (punD l=(punL l ((ordW l).drop k) f n i h bias first).map fun d=>acc++d)∧Hid (wr.ownsRow B3 3 1 (.slice av (ordW l).length cv) (ordW l).length (cellsN .i64 (natI (ordW l))))) (fun _ _ _ _ _ _ _ _ _ _ kv _=>(ordW l).length - (intOf kv).toNat)
    case atStart=>exact⟨0,F,128,0,h0,72,true,[],rfl,Nat.zero_le _,by omega,by simp,by rw[List.append_nil],rfl,rfl,rfl,rfl,rfl,HOK,HM3,HB3,by
     show _=_
     rw[HPD.out,List.drop_zero]
     cases punL l (ordW l) F 128 0 h0 72 true<;>rfl,HO3⟩
    case round=>
     clear HOK HPD HM3 HB3 HO3
     obtain⟨k,f,n,i,h,bias,first,acc,rfl,hk,hbias,hacl,rfl,rfl,rfl,rfl,rfl,rfl,HOK,HM,HB,HPD,HO⟩:=hrel
     obtain⟨av',cv',ev,HN,_,_,_,hav⟩:=own_nts HO.out
     injection ev with ev1 ev2 ev3
     subst ev1 ev3
     clear ev2
     have hMlt:=Lies.lt HM.out
     by_cases hlk:k<(ordW l).length
     ·have hdrop:(ordW l).drop k=(ordW l)[k]::(ordW l).drop (k+1):=List.drop_eq_getElem_cons hlk
      rw[hdrop]at HOK HPD
      have hst0:=HOK.out.step0
      have HOK2:Hid (PunOk l ((ordW l).drop (k+1)) (put1 f (ordW l)[k] 1) (rn l (ordW l)[k]) ((pre f (ordW l)[k]).toNat+1) (h+1)):=HOK.out.step
      obtain⟨hat,hf0,hr0,hr1,hnr⟩:=HOK.out.nxt (ordW l)[k] List.mem_cons_self
      have hnr2:n≤rn l (ordW l)[k]:=by omega
      have hpre0:=HOK.out.pre0 (ordW l)[k]
      have hpreh:=HOK.out.preh (Nat.le_of_lt hat)
      have hhl2:=HOK.out.hle
      have hile:=HOK.out.ile
      have hn01:=HOK.out.n01
      have HF01:Hid (F01 f):=HOK.out.f01
      have hnat:(natI (ordW l))[k]'(by rw[natI_length];exact hlk)=(((ordW l)[k]:Nat):Int):=by simp[natI]
      obtain⟨gv,ow,eav,hgv,hcv⟩:=HN.cell k (by rw[natI_length];exact hlk)
      rw[hnat]at hcv
      have hav2:=hav _ eav
      subst eav
      simp only at hav2
      obtain⟨hav3, -⟩:=hav2
      have HGV:Hid (B3≤gv):=hav3
      have hrnat:=rn_get l (ordW l)[k] hat
      clear hnat HN hav hdrop hav3 hnr
      simp only[punL]at HPD
      have hstp:stp l f n i h (ordW l)[k]=(rn l (ordW l)[k] - n)*((h:Int)+1)+pre f (ordW l)[k] - i:=rfl
      generalize stp l f n i h (ordW l)[k]=ST at HPD hst0 hstp
      generalize (ordW l)[k]=at' at HPD hstp HOK2 hat hf0 hr0 hr1 hpre0 hpreh hcv hrnat hnr2
      obtain⟨g,o,rfl,hg,hcell⟩:=(HL.out.below HB.out).cell at' hat
      rw[←hrnat]at hcell
      have HLr:Hid (Nts .i32 (some ⟨g,o,none⟩) l w):=HL.out
      generalize rn l at'=r at HPD hstp HOK2 hr0 hr1 hcell hnr2
      have HRN:Hid (l[at']=l[at']):=rfl
      clear hrnat HOK HRN
      obtain⟨P,hP⟩:=Int.eq_ofNat_of_zero_le hpre0
      have HPP:Hid (pre f at'=(P:Int)):=hP
      rw[hP]at hpreh HPD HOK2 hstp
      simp only[Int.toNat_natCast]at HOK2 HPD
      obtain⟨S,hS⟩:=Int.eq_ofNat_of_zero_le hst0
      rw[hS]at HPD hstp
      simp only[Int.toNat_natCast]at HPD
      have hXle:(r - n)*((h:Int)+1)≤1114111*((h:Int)+1):=Int.mul_le_mul_of_nonneg_right (by omega) (by omega)
      have hX0:0≤(r - n)*((h:Int)+1):=Int.mul_nonneg (by omega) (by omega)
      obtain⟨X,hX⟩:∃X,(r - n)*((h:Int)+1)=X:=⟨_,rfl⟩
      have hw4:IntKind.i64.wrap ((r - n)*((h:Int)+1))=X:=by rw[hX,IntKind.wrap_i64];rw[hX]at hXle hX0;omega
      rw[hX]at hstp hXle hX0
      clear hX hP hst0 hS hpre0
      have hw1:IntKind.i64.wrap r=r:=by rw[IntKind.wrap_i64];omega
      have hw2:IntKind.i64.wrap (r - n)=r - n:=by rw[IntKind.wrap_i64];omega
      have hw3:IntKind.i64.wrap ((h:Int)+1)=(h:Int)+1:=by rw[IntKind.wrap_i64];omega
      have hw5:IntKind.i64.wrap (X+(P:Int))=X+(P:Int):=by rw[IntKind.wrap_i64];omega
      have hw6:IntKind.i64.wrap (X+(P:Int) - (i:Int))=(S:Int):=by rw[IntKind.wrap_i64];omega
      have hki:(k:Int)<((ordW l).length:Int):=by omega
      have hai:(at':Int)<(l.length:Int):=by omega
      clear hXle hX0 hstp
      go_wp2_with fail
      go_loop [15,16,58] (fun pv _ jv=>∃m:Nat,jv=.int .i64 m∧m≤at'∧pv=.int .i64 (pre f m)) (fun _ _ jv=>at' - (intOf jv).toNat)
      case atStart=>exact⟨0,rfl,Nat.zero_le _,rfl⟩
      case round=>
       obtain⟨m,rfl,hm,rfl⟩:=hrel
       have hpm0:0≤pre f m:=by
        have:=pre_mono f HF01.out.1 (a:=0) (b:=m) (Nat.zero_le _)
        simpa [pre] using this
       have hpml:=pre_le f HF01.out.2 m
       by_cases hmt:m<at'
       ·have hcm:=HM.out.cell m (by omega)
        have hfm0:=HF01.out.1 m
        have hfm1:=HF01.out.2 m
        have hmi:(m:Int)<(l.length:Int):=by omega
        have HPM:Hid (pre f (m+1)=pre f m+f m):=rfl
        by_cases hf1:f m=1
        ·rw[decide_eq_true hf1]at hcm
         rw[hf1]at HPM
         generalize pre f m=p at*
         go_wp2
         go_round
         case rel=>exact⟨m+1,by go_num,by omega,by rw[HPM.out]⟩
         case measure=>simp[intOf];omega
        ·rw[decide_eq_false hf1]at hcm
         have hf0':f m=0:=by omega
         rw[hf0',Int.add_zero]at HPM
         clear hf0' hf1
         generalize pre f m=p at*
         go_wp2
         go_round
         case rel=>exact⟨m+1,by go_num,by omega,by rw[HPM.out]⟩
         case measure=>simp[intOf];omega
       ·obtain rfl:m=at':=by omega
        rw[HPP.out]
        clear hpm0 hpml hm hmt
        by_cases hov:2147483647<S
        ·have HZ:Hid (punD l=none):=by
          have:=HPD.out
          rw[if_pos (by omega)]at this
          exact this
         have hov':(2147483647:Int)<(S:Int):=by omega
         clear HPD
         go_wp2
         go_ret2
         refine⟨?_,HB.out⟩
         rw[HT.out,HE.out,HZ.out]
         rfl
        ·have HPD2:Hid (punD l=(punL l ((ordW l).drop (k+1)) (put1 f m 1) r (P+1) (h+1) (biasB S (h+1) first) false).map fun d=>(acc++digs S 0 bias)++d):=by
          have:=HPD.out
          rw[if_neg (by omega)]at this
          show _=_
          rw[this,Option.map_map]
          congr 1
          funext d
          simp
         have hov':¬(2147483647:Int)<(S:Int):=by omega
         have hbb:=biasB_le S (h+1) first
         have hdl:=digs_short S 0 bias 10 (by omega)
         have hcw:=dlet_any S 0 bias wr (by omega) (by omega) (by omega)
         have hpl:(PH++acc).length=PH.length+acc.length:=List.length_append
         have hapn:PH++(acc++digs S 0 bias)=(PH++acc)++digs S 0 bias:=by simp
         have HAPN:Hid (PH++(acc++digs S 0 bias)=(PH++acc)++digs S 0 bias):=hapn
         have hal:(acc++digs S 0 bias).length≤11*(k+1):=by rw[List.length_append];omega
         have HAL:Hid ((acc++digs S 0 bias).length≤11*(k+1)):=hal
         have hnl2:¬9223372036854775807<(PH++acc).length+(digs S 0 bias).length:=by omega
         clear HPD hapn hal
         generalize PH++acc=PA at*
         generalize acc++digs S 0 bias=AD at*
         generalize digs S 0 bias=DD at*
         go_wp2_with fail
         refine hcw.mono ?_
         rintro e w4 ⟨rfl,b4⟩
         have HM4:Hid (BlAt w4 w.heap.size l.length f):=Lies.below HM.out b4 hMlt
         have HB4:Hid (Below w.heap.size w w4):=HB.out.trans (b4.mono (Nat.le_of_lt hMlt))
         have HO4:Hid (w4.ownsRow B3 3 1 (.slice (some ⟨gv,ow,none⟩) (ordW l).length cv) (ordW l).length (cellsN .i64 (natI (ordW l)))):=ownN_below HO.out b4
         have hcell4:w4.cell? ⟨g,o+m,none⟩=some (.int .i32 r):=(b4.cell (p:=⟨g,o+m,none⟩) hg).trans hcell
         have hg4:g<w4.heap.size:=Nat.lt_of_lt_of_le hg b4.size
         have hM4lt:=Lies.lt HM4.out
         have hfz:=Lies.frozen HM4.out m
         have hcl:=HM4.out.cell m hat
         have hbi:=dbias_any S (h+1) first (by omega) (by omega) (by omega) (w4.setCell ⟨w.heap.size,m,none⟩ (.bool true))
         rw[show((h+1:Nat):Int)=(h:Int)+1 from by push_cast;rfl]at hbi
         generalize biasB S (h+1) first=BB at*
         have HM5:Hid (BlAt (w4.setCell ⟨w.heap.size,m,none⟩ (.bool true)) w.heap.size l.length (put1 f m 1)):=BlAt.put HM4.out m hat hf0
         have HB5:Hid (Below w.heap.size w (w4.setCell ⟨w.heap.size,m,none⟩ (.bool true))):=HB4.out.setCell (p:=⟨w.heap.size,m,none⟩) (Nat.le_refl _) _
         have HO5:Hid ((w4.setCell ⟨w.heap.size,m,none⟩ (.bool true)).ownsRow B3 3 1 (.slice (some ⟨gv,ow,none⟩) (ordW l).length cv) (ordW l).length (cellsN .i64 (natI (ordW l)))):=ownN_keep HO4.out (fun q hq=>Below.heap_setCell w4 _ _ q (by
          have h1:=(HO4.out.lt q hq).1
          have h2:=HGL.out
          simp only
          omega))
         clear b4 hcw hcell HM HB HO
         go_wp2_with fail
         refine hbi.mono ?_
         rintro e w6 ⟨rfl,rfl⟩
         clear hbi
         go_wp2
         go_roundw
         case rel=>exact⟨k+1,put1 f m 1,r,P+1,h+1,BB,false,AD,by go_num,by omega,by omega,HAL.out,by rw[HAPN.out,←ba_app],by go_num,rfl,by go_num,rfl,rfl,HOK2,HM5,HB5,HPD2,HO5⟩
         case measure=>simp[intOf];omega
     ·have HZ:Hid (punD l=some acc):=by
       have:=HPD.out
       rw[List.drop_eq_nil_of_le (by omega)]at this
       simp only[punL,Option.map_some,List.append_nil]at this
       exact this
      clear HPD HN hav
      go_wp2
      go_ret2
      refine⟨?_,HB.out⟩
      rw[HT.out,HE.out,HZ.out]
      rfl
end Go.Proofs.YtfjpkfhbmldmfaaGreatDoor
