/-
  The library's IndexRune of a rune beyond 127 in a text of bytes below 128; IndexAny of the bytes that end a host; hostLength.
-/
import Derived.Test.YtfjpkfhbmldmfaaGreatDoorQc9
import Derived.Test.YtfjpkfhbmldmfaaGreatDoorQe9
import Derived.WalkMore
import Derived.Test.YtfjpkfhbmldmfaaGreatDoorPg8
import Derived.Test.YtfjpkfhbmldmfaaGreatDoorPtL
import Derived.Lib.Replace
namespace Go.Proofs.YtfjpkfhbmldmfaaGreatDoor
open Go.RowKit
theorem low_ne {x c:UInt8} (hx:x.toNat<128) (hc:128≤c.toNat):x≠c:=fun e=>by
 rw[e]at hx
 omega
set_option maxHeartbeats 8000000 in
set_option maxRecDepth 100000 in
theorem idxrune_no (s:ByteArray) (hlow:∀x∈s.data.toList,x.toNat<128) (r:Int) (h1:128≤r) (h2:r≤2147483647) (w:World):
  Calls Tryz.prog 164 #[.string s,.int .i32 r] w fun e w'=>e=.returned (.int .i64 (-1))∧Below w.heap.size w w':=by
 have h0:(0:Int)≤r:=by omega
 have h128:¬r<128:=by omega
 have HL:Hid (∀x∈s.data.toList,x.toNat<128):=hlow
 clear hlow
 by_cases he:r=65533
 ·have heb:(r==65533)=true:=by rw[beq_iff_eq];exact he
  clear he
  go_enter Tryz.func164,Tryz.ntmps164
  go_wp2_with fail
  go_loopw [5,6] (fun _ _ wr=>∃pos:Nat,pos≤s.size∧Hid (wr=w.iter s pos)) (fun _ _ wr=>s.size - wr.iterPos w.heap.size)
  case atStart=>exact⟨0,Nat.zero_le _,rfl⟩
  case round=>
   obtain⟨pos,hp,HW⟩:=hrel
   obtain rfl:=HW.out
   by_cases hlt:pos<s.size
   ·have hx:(s[pos]'hlt).toNat<128:=HL.out _ (by rw[←get_list s pos hlt];exact List.getElem_mem _)
    have hnx:=fun ty=>run_next_ascii (P:=Tryz.prog) w s pos ty hlt hx
    have hne:(((s[pos]'hlt).toNat:Int)==65533)=false:=by rw[beq_eq_false_iff_ne];omega
    go_wp2_with fail
    go_roundw
    case rel=>exact⟨pos+1,hlt,rfl⟩
    case measure=>simp;omega
   ·have hnx:=fun ty=>run_next_end (P:=Tryz.prog) w s pos ty hlt
    go_wp2_with fail
    go_ret
    exact⟨rfl,(Below.refl _ w).alloc (Nat.le_refl _) _⟩
 ·have heb:(r==65533)=false:=by rw[beq_eq_false_iff_ne];exact he
  have HV:Hid (Calls Tryz.prog 192 #[.int .i32 r] w fun e w'=>e=.returned (.bool (Lib.validRune r))∧w'=w):=Tryz.utf8_ValidRune r w
  generalize Lib.validRune r=v at HV
  clear he
  cases v
  ·go_enter Tryz.func164,Tryz.ntmps164
   go_wp2_with fail
   refine HV.out.mono ?_
   rintro e w1 ⟨rfl,rfl⟩
   go_wp2_with fail
   go_ret
   exact⟨rfl,Below.refl _ _⟩
  ·obtain⟨n,hz,hn1,hn3,hlast⟩:=enc_last r h1
   have hcv:∀wx:World,(convert 21 9 (.int .i32 r)).run Tryz.prog wx=.ok (.string (Utf8.encode r)) wx:=fun wx=>by
    simp[go_sem]
   generalize Utf8.encode r=T at hz hlast hcv
   have hnT:n<T.size:=by omega
   have hl:=hlast hnT
   have HIB:Hid (∀wx:World,Calls Tryz.prog 114 #[.string (s.extract (n+1) s.size),.int .u8 ((T[n]'hnT).toNat:Int)] wx fun e w'=>e=.returned (.int .i64 (-1))∧w'=wx):=fun wx=>by
    have:=Tryz.strings_IndexByte (s.extract (n+1) s.size) ((T[n]'hnT).toNat:Int) wx
    have e:((T[n]'hnT).toNat:Int).toNat.toUInt8=T[n]'hnT:=by simp
    rw[e,index_none _ _ (fun x hx=>low_ne (HL.out x (by rw[ext_drop]at hx;exact List.mem_of_mem_drop hx)) hl)]at this
    exact this
   have hTz:(T.size:Int) - 1=(n:Int):=by omega
   have hn':(n:Int)<(T.size:Int):=by omega
   have hT4:T.size≤4:=by omega
   have HNE:Hid (∀h:n<s.size,(((s[n]'h).toNat:Int) != ((T[n]'hnT).toNat:Int))=true):=fun h=>by
    rw[bne_iff_ne]
    have:=HL.out (s[n]'h) (by rw[←get_list s n h];exact List.getElem_mem _)
    omega
   clear hz hlast hl
   go_enter Tryz.func164,Tryz.ntmps164
   go_wp2_with fail
   refine HV.out.mono ?_
   rintro e w1 ⟨rfl,rfl⟩
   clear HV
   go_wp2_with fail
   go_step3
   go_wp2_with fail
   go_loopw [9,10] (fun c _ wr=>c=.int .i64 (n:Int)∧Hid (wr=w1)) (fun _ _ _=>0)
   case atStart=>exact⟨rfl,rfl⟩
   case round=>
    obtain⟨rfl,HW⟩:=hrel
    obtain rfl:=HW.out
    by_cases hns:n<s.size
    ·have hns':(n:Int)<(s.size:Int):=by omega
     have hns2:(n:Int)+1≤(s.size:Int):=by omega
     have hne:=HNE.out hns
     have hwr:IntKind.i64.wrap ((n:Int)+1)=(n:Int)+1:=wrap_add _ _ (by omega) (by omega) (by omega)
     clear HNE
     go_wp2_with fail
     go_step3
     go_upto_region 6 with fail
     refine wp_region_late (fun wx=>True) 7 (by kernel_rfl) trivial (fun hHeld=>?_)
     refine tk9 0 (some 27) _ ?_
     simp only[Act.put,pA,pB,pC]
     refine tk9 1 (some 28) _ ?_
     simp only[Act.put,pA,pB,pC]
     refine tk9 2 (some 29) (.int .u8 ((s[n]'hns).toNat:Int)) ?_
     simp only[Act.put,pA,pB,pC]
     refine tk9 3 (some 30) _ ?_
     simp only[Act.put,pA,pB,pC]
     refine tk9 4 (some 31) _ ?_
     simp only[Act.put,pA,pB,pC]
     refine tk9 5 (some 32) (.int .u8 ((T[n]'hnT).toNat:Int)) ?_
     simp only[Act.put,pA,pB,pC]
     refine tk9 6 (some 33) (.bool true) ?_
     simp only[Act.put,pA,pB,pC]
     refine wpAnyE_done (by kernel_rfl) ?_ _
     clear hHeld
     go_upto_region 7 with fail
     refine wp_region_late (fun wx=>True) 9 (by kernel_rfl) trivial (fun hHeld=>?_)
     refine tk9 0 (some 34) _ ?_
     simp only[Act.put,pA,pB,pC]
     refine tk9 1 (some 35) _ ?_
     simp only[Act.put,pA,pB,pC]
     refine tk9 2 (some 36) (.int .i64 ((n:Int)+1)) ?_
     simp only[Act.put,pA,pB,pC]
     refine tk9 3 (some 37) (.string (s.extract (n+1) s.size)) ?_
     simp only[Act.put,pA,pB,pC]
     refine tk9 4 (some 38) _ ?_
     simp only[Act.put,pA,pB,pC]
     refine tk9 5 (some 39) _ ?_
     simp only[Act.put,pA,pB,pC]
     refine tk9 6 (some 40) (.int .u8 ((T[n]'hnT).toNat:Int)) ?_
     simp only[Act.put,pA,pB,pC]
     refine on9 7 ?_
     go_simp
     refine Calls.mono (HIB.out _) ?_
     rintro e y1 ⟨rfl,rfl⟩
     refine tk9 8 (some 11) (.int .i64 (-1)) ?_
     simp only[Act.put,pA,pB,pC]
     refine wpAnyE_done (by kernel_rfl) ?_ _
     clear hHeld
     go_wp2_with fail
     rw[Exit.noGoto_ret]
     simp only[Exit.inBlock]
     refine(?_:Exit.then _ (Exit.inBlock 1 (Exit.then _ (Exit.noGoto (Exit.inBlock 0 (bodyPost Tryz.prog Tryz.f164 _))))) .ret _ _)
     simp only[Exit.inBlock,Exit.then]
     rw[Exit.noGoto_ret]
     simp only[Exit.inBlock]
     go_ret
     exact⟨rfl,(Below.refl _ _).drew.drew⟩
    ·have hns':¬(n:Int)<(s.size:Int):=by omega
     go_wp2_with fail
     go_ret
     exact⟨rfl,Below.refl _ _⟩
open Go.RowKit
def stI (l:List UInt8):Int:=if spB (notB stopB) l<l.length then (spB (notB stopB) l:Nat) else -1
theorem st_fin:∀b:Fin 256,decide ((0:Int)≤Lib.indexByte [60,62,44,58,64,32] (UInt8.ofNat b.val))=stopB (UInt8.ofNat b.val)∧(128≤b.val→stopB (UInt8.ofNat b.val)=false)∧[60,62,44,58,64,32].contains (UInt8.ofNat b.val)=stopB (UInt8.ofNat b.val):=by decide+kernel
theorem st_is (c:UInt8):decide ((0:Int)≤Lib.indexByte [60,62,44,58,64,32] c)=stopB c∧(128≤c.toNat→stopB c=false)∧[60,62,44,58,64,32].contains c=stopB c:=by
 have:=st_fin ⟨c.toNat,c.toNat_lt⟩
 simpa using this
def NoSt (s:ByteArray) (k:Nat):Prop:=k≤s.size∧∀j (h:j<s.size),j<k→stopB s[j]=false
theorem NoSt.hit {s:ByteArray} {k:Nat} (h:NoSt s k) (hk:k<s.size) (hs:stopB s[k]=true):stI s.data.toList=(k:Int):=by
 have e:spB (notB stopB) s.data.toList=k:=spB_eq _ _ _ (by rw[len_list];exact h.1) (fun j hj hlt=>by
  rw[get_list]
  unfold notB
  rw[h.2 j (by rw[len_list]at hj;exact hj) hlt]
  rfl) (fun hl=>by
  rw[get_list]
  unfold notB
  rw[hs]
  rfl)
 unfold stI
 rw[e,len_list,if_pos hk]
theorem NoSt.none {s:ByteArray} (h:NoSt s s.size):stI s.data.toList= -1:=by
 have e:spB (notB stopB) s.data.toList=s.size:=spB_eq _ _ _ (by rw[len_list];exact Nat.le_refl _) (fun j hj hlt=>by
  rw[get_list]
  unfold notB
  rw[h.2 j (by rw[len_list]at hj;exact hj) hlt]
  rfl) (fun hl=>by rw[len_list]at hl;exact absurd hl (Nat.lt_irrefl _))
 unfold stI
 rw[e,len_list,if_neg (Nat.lt_irrefl _)]
theorem NoSt.zero (s:ByteArray):NoSt s 0:=⟨Nat.zero_le _,fun j _ h=>absurd h (Nat.not_lt_zero j)⟩
theorem NoSt.more {s:ByteArray} {k m:Nat} (h:NoSt s k) (hm:k+m≤s.size) (hs:∀j (hj:j<s.size),k≤j→j<k+m→stopB s[j]=false):NoSt s (k+m):=
 ⟨hm,fun j hj hlt=>by
  rcases Nat.lt_or_ge j k with hl|hl
  ·exact h.2 j hj hl
  ·exact hs j hj hl hlt⟩
set_option maxHeartbeats 8000000 in
set_option maxRecDepth 100000 in
theorem idxany_short (s:ByteArray) (h8:s.size≤8) (w:World):
  Calls Tryz.prog 128 #[.string s,.string ⟨#[60,62,44,58,64,32]⟩] w fun e w'=>e=.returned (.int .i64 (stI s.data.toList))∧Below w.heap.size w w':=by
 have HU:Hid (Calls Tryz.prog 165 #[.int .i64 (s.size:Int)] w fun e w'=>e=.returned (.bool false)∧w'=w):=by
  have:=Tryz.strings_shouldUseASCIISet (s.size:Int) w
  rw[decide_eq_false (show ¬(8:Int)<(s.size:Int) by omega)]at this
  exact this
 have HA:Hid (∀(x:UInt8) (wx:World),x.toNat<128→Calls Tryz.prog 164 #[.string ⟨#[60,62,44,58,64,32]⟩,.int .i32 (x.toNat:Int)] wx fun e w'=>∃i:Int,e=.returned (.int .i64 i)∧(stopB x=decide (0≤i))∧w'=wx):=fun x wx hx=>
  (Tryz.strings_IndexRune_ascii ⟨#[60,62,44,58,64,32]⟩ (x.toNat:Int) wx (by omega) (by omega)).mono (fun e w' q=>by
   have ex:(x.toNat:Int).toNat.toUInt8=x:=by simp
   rw[ex]at q
   exact⟨_,q.1,(st_is x).1.symm,q.2⟩)
 have HH:Hid (∀(r:Int) (wx:World),128≤r→r≤2147483647→Calls Tryz.prog 164 #[.string ⟨#[60,62,44,58,64,32]⟩,.int .i32 r] wx fun e w'=>e=.returned (.int .i64 (-1))∧Below wx.heap.size wx w'):=fun r wx a b=>idxrune_no ⟨#[60,62,44,58,64,32]⟩ (by decide) r a b wx
 obtain⟨X,hX⟩:∃X,X=stI s.data.toList:=⟨_,rfl⟩
 rw[←hX]
 have HX:Hid (X=stI s.data.toList):=hX
 clear hX
 go_enter Tryz.func128,Tryz.ntmps128
 go_wp2_with fail
 refine HU.out.mono ?_
 rintro e w1 ⟨rfl,rfl⟩
 clear HU
 go_wp2_with fail
 go_loopw [9,10] (fun _ _ wr=>∃pos:Nat,pos≤s.size∧Hid (wr.heap[w1.heap.size]?=some (.stringIter s pos))∧Hid (Below w1.heap.size w1 wr)∧Hid (NoSt s pos)) (fun _ _ wr=>s.size - wr.iterPos w1.heap.size)
 case atStart=>exact⟨0,Nat.zero_le _,World.iter_heap w1 s 0,(Below.refl _ w1).alloc (Nat.le_refl _) _,NoSt.zero s⟩
 case round=>
  obtain⟨pos,hp,HI,HB,HN⟩:=hrel
  by_cases hlt:pos<s.size
  ·by_cases hx:(s[pos]'hlt).toNat<128
   ·have hnx:=fun ty=>Lib.run_next_ascii_at (P:=Tryz.prog) wr w1.heap.size s pos ty HI.out hlt hx
    have HI2:Hid ((wr.iterAt w1.heap.size s (pos+1)).heap[w1.heap.size]?=some (.stringIter s (pos+1))):=Lib.iterAt_heap wr _ s pos (pos+1) HI.out
    have HB2:Hid (Below w1.heap.size w1 (wr.iterAt w1.heap.size s (pos+1))):=Lib.below_iterAt HB.out (Nat.le_refl _) s (pos+1)
    have HA1:Hid (∀wx:World,Calls Tryz.prog 164 #[.string ⟨#[60,62,44,58,64,32]⟩,.int .i32 ((s[pos]'hlt).toNat:Int)] wx fun e w'=>∃i:Int,e=.returned (.int .i64 i)∧(stopB (s[pos]'hlt)=decide (0≤i))∧w'=wx):=fun wx=>HA.out _ wx hx
    clear HA HH
    go_wp2_with fail
    refine(HA1.out _).mono ?_
    rintro e w2 ⟨i,rfl,hst,rfl⟩
    clear HA1 hnx
    by_cases hi:(0:Int)≤i
    ·rw[decide_eq_true hi]at hst
     have HXX:Hid (X=(pos:Int)):=by show _=_;rw[HX.out];exact HN.out.hit hlt hst
     clear hst HX
     go_wp2_with fail
     go_ret
     exact⟨by rw[HXX.out];rfl,HB2.out⟩
    ·rw[decide_eq_false hi]at hst
     have HN2:Hid (NoSt s (pos+1)):=HN.out.more (m:=1) hlt (fun j hj h1 h2=>by
      obtain rfl:j=pos:=by omega
      exact hst)
     clear hst
     go_wp2_with fail
     go_roundw
     case rel=>exact⟨pos+1,hlt,HI2,HB2,HN2⟩
     case measure=>have e1:=HI.out;have e2:=HI2.out;simp only[World.iterPos,e1,e2];omega
   ·have hh:=decode_high s pos hlt (by omega)
    have hle:=decode_le s pos
    have hsp:=dec_span s pos hlt (by omega)
    have hnx:=fun ty=>Lib.run_next_any_at (P:=Tryz.prog) wr w1.heap.size s pos ty HI.out hlt
    generalize (Utf8.decode s pos).2=m at hnx hh hsp
    generalize (Utf8.decode s pos).1=r at hnx hh hle
    have HI2:Hid ((wr.iterAt w1.heap.size s (pos+m)).heap[w1.heap.size]?=some (.stringIter s (pos+m))):=Lib.iterAt_heap wr _ s pos (pos+m) HI.out
    have HB2:Hid (Below w1.heap.size w1 (wr.iterAt w1.heap.size s (pos+m))):=Lib.below_iterAt HB.out (Nat.le_refl _) s (pos+m)
    have HN2:Hid (NoSt s (pos+m)):=HN.out.more hsp.1 (fun j hj h1 h2=>(st_is _).2.1 (hsp.2 j hj h1 h2))
    have HA1:Hid (∀wx:World,Calls Tryz.prog 164 #[.string ⟨#[60,62,44,58,64,32]⟩,.int .i32 (r:Int)] wx fun e w'=>e=.returned (.int .i64 (-1))∧Below wx.heap.size wx w'):=fun wx=>HH.out _ wx (by omega) (by omega)
    have hm1:=hh.2
    have hms:=hsp.1
    clear HA HH hh hsp HN
    go_wp2_with fail
    refine(HA1.out _).mono ?_
    rintro e w2 ⟨rfl,hb2⟩
    have hsz:w1.heap.size<(wr.iterAt w1.heap.size s (pos+m)).heap.size:=(Array.getElem?_eq_some_iff.1 HI2.out).1
    have HI3:Hid (w2.heap[w1.heap.size]?=some (.stringIter s (pos+m))):=(hb2.block _ hsz).trans HI2.out
    have HB3:Hid (Below w1.heap.size w1 w2):=HB2.out.trans (hb2.mono (Nat.le_of_lt hsz))
    clear HA1 hnx hb2 HI2 HB2
    go_wp2_with fail
    go_roundw
    case rel=>exact⟨pos+m,hms,HI3,HB3,HN2⟩
    case measure=>have e1:=HI.out;have e2:=HI3.out;simp only[World.iterPos,e1,e2];omega
  ·have hnx:=fun ty=>Lib.run_next_end_at (P:=Tryz.prog) wr w1.heap.size s pos ty HI.out hlt
   have HXX:Hid (X= -1):=by
    show _=_
    rw[HX.out]
    obtain rfl:pos=s.size:=by omega
    exact HN.out.none
   clear HX HA HH
   go_wp2_with fail
   go_ret
   exact⟨by rw[HXX.out];rfl,HB.out⟩
theorem zeroA (w:World):(zeroValue 175).run Tryz.prog w=.ok (.agg (Array.replicate 256 (.bool false))) w:=by
 have h:(Tryz.prog.info? 175).map (fun i=>(i.zero,i.size))=some (some (.agg (Array.replicate 256 (.bool false))),256):=by kernel_rfl
 exact(zero_of_info h).1 w
theorem infoA:(Tryz.prog.info? 175).map (·.size)=some 256:=by kernel_rfl
set_option maxHeartbeats 8000000 in
set_option maxRecDepth 100000 in
theorem idxany_long (s:ByteArray) (h8:8<s.size) (hs:s.size≤140737488355328) (w:World):
  Calls Tryz.prog 128 #[.string s,.string ⟨#[60,62,44,58,64,32]⟩] w fun e w'=>e=.returned (.int .i64 (stI s.data.toList))∧Below w.heap.size w w':=by
 have HU:Hid (Calls Tryz.prog 165 #[.int .i64 (s.size:Int)] w fun e w'=>e=.returned (.bool true)∧w'=w):=by
  have:=Tryz.strings_shouldUseASCIISet (s.size:Int) w
  rw[decide_eq_true (show(8:Int)<(s.size:Int) by omega)]at this
  exact this
 obtain⟨V,hVz,hVo,hVat,hM⟩:∃V:Array Value,V.size=256∧V.all (·.oneCell')=true∧(∀x:UInt8,V[x.toNat]?=some (.bool (stopB x)))∧Calls Tryz.prog 166 #[.string ⟨#[60,62,44,58,64,32]⟩] w fun e w'=>e=.returned (.tuple #[.agg V,.bool true])∧w'=w.alloc (.cells V 175):=by
  refine⟨Lib.setCells [60,62,44,58,64,32],Lib.setCells_size _,Lib.setCells_one _,fun x=>?_,?_⟩
  ·rw[Lib.setCells_at,(st_is x).2.2]
  ·exact Tryz.strings_makeASCIISet zeroA ⟨#[60,62,44,58,64,32]⟩ w (by decide) (by
    intro j b hb
    have hm:b∈[60,62,44,58,64,32]:=List.mem_of_getElem? hb
    exact(show ∀b∈([60,62,44,58,64,32]:List UInt8),b.toNat<128 by decide) b hm)
 have HM:Hid (Calls Tryz.prog 166 #[.string ⟨#[60,62,44,58,64,32]⟩] w fun e w'=>e=.returned (.tuple #[.agg V,.bool true])∧w'=w.alloc (.cells V 175)):=hM
 have HV:Hid (∀x:UInt8,V[x.toNat]?=some (.bool (stopB x))):=hVat
 have HZ:Hid (V.size=256):=hVz
 clear hM hVat hVz
 obtain⟨X,hX⟩:∃X,X=stI s.data.toList:=⟨_,rfl⟩
 rw[←hX]
 have HX:Hid (X=stI s.data.toList):=hX
 clear hX
 go_enter Tryz.func128,Tryz.ntmps128
 go_wp2_with fail
 refine HU.out.mono ?_
 rintro e w1 ⟨rfl,rfl⟩
 clear HU
 go_wp2_with fail
 refine HM.out.mono ?_
 rintro e w2 ⟨rfl,rfl⟩
 clear HM
 have hzz:=zeroA
 have HL0:Hid (Lies ((w1.alloc (.cells V 175)).alloc (.cells (Array.replicate 256 (.bool false)) 175)) (w1.heap.size+1) (Array.replicate 256 (.bool false)) 175):=new_one w1 _ _ _
 have HB0:Hid (Below w1.heap.size w1 ((w1.alloc (.cells V 175)).alloc (.cells (Array.replicate 256 (.bool false)) 175))):=((Below.refl _ w1).alloc (Nat.le_refl _) _).alloc (by simp) _
 have HL1:Hid (Lies (((w1.alloc (.cells V 175)).alloc (.cells (Array.replicate 256 (.bool false)) 175)).setRow (w1.heap.size+1) V) (w1.heap.size+1) V 175):=HL0.out.row V
 have HB1:Hid (Below w1.heap.size w1 (((w1.alloc (.cells V 175)).alloc (.cells (Array.replicate 256 (.bool false)) 175)).setRow (w1.heap.size+1) V)):=below_row HB0.out (by omega) _
 go_upto_region 10 with(refine wpList_store_row rfl 175 _ _ rfl (w1.heap.size+1) rfl (Array.replicate 256 (.bool false)) V rfl 175 HL0.out (by rw[HZ.out];exact infoA) (by rw[HZ.out,Array.size_replicate]) hVo rfl ?_)
 generalize (((w1.alloc (.cells V 175)).alloc (.cells (Array.replicate 256 (.bool false)) 175)).setRow (w1.heap.size+1) V)=W at HL1 HB1 ⊢
 have HC:Hid (∀x:UInt8,Calls Tryz.prog 167 #[.pointer (some ⟨w1.heap.size+1,0,none⟩),.int .u8 (x.toNat:Int)] W fun e w'=>e=.returned (.bool (stopB x))∧w'=W):=fun x=>Tryz.asciiSet_contains (w1.heap.size+1) x (stopB x) W ((HL1.out.cell x.toNat).trans (HV.out x))
 clear HL0 HB0 HL1 HV HZ hVo hzz
 go_wp2_with fail
 go_loop [8] (fun i=>∃k:Nat,k≤s.size∧i=.int .i64 k∧Hid (NoSt s k)) (fun i=>s.size - (intOf i).toNat)
 case atStart=>exact⟨0,Nat.zero_le _,rfl,NoSt.zero s⟩
 case round=>
  obtain⟨k,hk,rfl,HN⟩:=hrel
  by_cases hlt:k<s.size
  ·have hlt':(k:Int)<(s.size:Int):=by omega
   have HC1:=HC.out (s[k]'hlt)
   by_cases hst:stopB (s[k]'hlt)=true
   ·rw[hst]at HC1
    have HC2:Hid (Calls Tryz.prog 167 #[.pointer (some ⟨w1.heap.size+1,0,none⟩),.int .u8 ((s[k]'hlt).toNat:Int)] W fun e w'=>e=.returned (.bool true)∧w'=W):=HC1
    have HXX:Hid (X=(k:Int)):=by show _=_;rw[HX.out];exact HN.out.hit hlt hst
    clear hst HX HC HC1
    go_wp2_with fail
    refine HC2.out.mono ?_
    rintro e w2 ⟨rfl,rfl⟩
    go_wp2_with fail
    go_ret
    exact⟨by rw[HXX.out];rfl,HB1.out⟩
   ·rw[Bool.not_eq_true]at hst
    rw[hst]at HC1
    have HC2:Hid (Calls Tryz.prog 167 #[.pointer (some ⟨w1.heap.size+1,0,none⟩),.int .u8 ((s[k]'hlt).toNat:Int)] W fun e w'=>e=.returned (.bool false)∧w'=W):=HC1
    have HN2:Hid (NoSt s (k+1)):=HN.out.more (m:=1) hlt (fun j hj h1 h2=>by
     obtain rfl:j=k:=by omega
     exact hst)
    clear hst HC HC1
    go_wp2_with fail
    refine HC2.out.mono ?_
    rintro e w2 ⟨rfl,rfl⟩
    go_wp2_with fail
    go_round
    case rel=>exact⟨k+1,hlt,by go_num,HN2⟩
    case measure=>simp[intOf];omega
  ·have hlt':¬(k:Int)<(s.size:Int):=by omega
   have HXX:Hid (X= -1):=by
    show _=_
    rw[HX.out]
    obtain rfl:k=s.size:=by omega
    exact HN.out.none
   clear HX HC
   go_wp2_with fail
   go_ret
   exact⟨by rw[HXX.out];rfl,HB1.out⟩
theorem idxany (s:ByteArray) (hs:s.size≤140737488355328) (w:World):
  Calls Tryz.prog 128 #[.string s,.string ⟨#[60,62,44,58,64,32]⟩] w fun e w'=>e=.returned (.int .i64 (stI s.data.toList))∧Below w.heap.size w w':=by
 rcases Nat.lt_or_ge 8 s.size with h|h
 ·exact idxany_long s h hs w
 ·exact idxany_short s h w
open Go.RowKit
theorem idx_sp (c:UInt8):∀l:List UInt8,Lib.indexByte l c=if spB (notB (· ==c)) l<l.length then (spB (notB (· ==c)) l:Int) else -1
 |[]=>rfl
 |x::r=>by
  rw[Lib.indexByte,idx_sp c r,spB,List.length_cons]
  have hle:=spB_le (notB (· ==c)) r
  by_cases h:(x==c)=true
  ·have hn:¬notB (· ==c) x=true:=by
    show ¬(!(x==c))=true
    rw[h]
    decide
   rw[if_pos h,if_neg hn,if_pos (by omega)]
   rfl
  ·have hn:notB (· ==c) x=true:=by
    show(!(x==c))=true
    rw[Bool.not_eq_true]at h
    rw[h]
    rfl
   rw[if_neg h,if_pos hn]
   generalize spB (notB (· ==c)) r=n at hle ⊢
   by_cases h2:n<r.length
   ·have e1:(if n<r.length then (n:Int) else -1)=(n:Int):=if_pos h2
    have e2:¬((n:Int)== -1)=true:=by rw[beq_iff_eq];omega
    rw[e1,if_neg e2,if_pos (by omega)]
    rfl
   ·have e1:(if n<r.length then (n:Int) else -1)= -1:=if_neg h2
    rw[e1,if_pos (show((-1:Int)== -1)=true from rfl),if_neg (by omega)]
theorem pre_91 (l:List UInt8):Lib.hasPrefix l [91]=decide (l.head?=some 91):=by
 cases l with
 |nil=>rfl
 |cons c r=>
  unfold Lib.hasPrefix
  simp only[List.isPrefixOf,Bool.and_true,List.head?_cons,Option.some.injEq]
  by_cases h:c=91
  ·subst h
   rfl
  ·rw[decide_eq_false h,beq_eq_false_iff_ne]
   exact fun e=>h e.symm
set_option maxHeartbeats 4000000 in
set_option maxRecDepth 100000 in
theorem hl_any (s:ByteArray) (hs:s.size≤140737488355328) (w:World):
  Calls Tryz.prog 94 #[.string s] w fun e w'=>e=.returned (.int .i64 (hstN s.data.toList:Nat))∧Below w.heap.size w w':=by
 have HA:Hid (Calls Tryz.prog 128 #[.string s,.string ⟨#[60,62,44,58,64,32]⟩] w fun e w'=>e=.returned (.int .i64 (stI s.data.toList))∧Below w.heap.size w w'):=idxany s hs w
 have HP:Hid (∀wx:World,Calls Tryz.prog 129 #[.string s,.string ⟨#[91]⟩] wx fun e w'=>e=.returned (.bool (decide (s.data.toList.head?=some 91)))∧w'=wx):=fun wx=>by
  have:=Tryz.strings_HasPrefix s ⟨#[91]⟩ wx
  rw[pre_91]at this
  exact this
 have HI:Hid (∀wx:World,Calls Tryz.prog 114 #[.string s,.int .u8 93] wx fun e w'=>e=.returned (.int .i64 (if spB (notB (· ==93)) s.data.toList<s.size then (spB (notB (· ==93)) s.data.toList:Int) else -1))∧w'=wx):=fun wx=>by
  have:=Tryz.strings_IndexByte s 93 wx
  have e:((93:Int)).toNat.toUInt8=93:=rfl
  rw[e,idx_sp,len_list]at this
  exact this
 have h1:=spB_le (notB stopB) s.data.toList
 have h2:=spB_le (notB (· ==93)) s.data.toList
 unfold stI at HA
 unfold hstN
 rw[len_list]at h1 h2 HA ⊢
 generalize spB (notB stopB) s.data.toList=k at h1 HA ⊢
 generalize spB (notB (· ==93)) s.data.toList=m at h2 HI ⊢
 by_cases hh:s.data.toList.head?=some 91
 ·rw[decide_eq_true hh]at HP
  rw[if_pos hh]
  generalize (if k<s.size then (k:Int) else -1)=x at HA
  clear hh h1
  by_cases hm:m<s.size
  ·rw[if_pos hm]at HI ⊢
   have hm0:¬(m:Int)<0:=by omega
   go_enter Tryz.func94,Tryz.ntmps94
   go_wp2_with fail
   refine HA.out.mono ?_
   rintro e w1 ⟨rfl,hb⟩
   go_wp2_with fail
   refine(HP.out _).mono ?_
   rintro e w2 ⟨rfl,rfl⟩
   go_wp2_with fail
   refine(HI.out _).mono ?_
   rintro e w2 ⟨rfl,rfl⟩
   clear HA HP HI
   go_wp2_with fail
   go_ret
   exact⟨rfl,hb⟩
  ·rw[if_neg hm]at HI ⊢
   have hms:m=s.size:=by omega
   subst hms
   go_enter Tryz.func94,Tryz.ntmps94
   go_wp2_with fail
   refine HA.out.mono ?_
   rintro e w1 ⟨rfl,hb⟩
   go_wp2_with fail
   refine(HP.out _).mono ?_
   rintro e w2 ⟨rfl,rfl⟩
   go_wp2_with fail
   refine(HI.out _).mono ?_
   rintro e w2 ⟨rfl,rfl⟩
   clear HA HP HI
   go_wp2_with fail
   go_ret
   exact⟨rfl,hb⟩
 ·rw[decide_eq_false hh]at HP
  rw[if_neg hh]
  clear hh h2 HI
  by_cases hk:k<s.size
  ·rw[if_pos hk]at HA
   have hk0:¬(k:Int)<0:=by omega
   go_enter Tryz.func94,Tryz.ntmps94
   go_wp2_with fail
   refine HA.out.mono ?_
   rintro e w1 ⟨rfl,hb⟩
   go_wp2_with fail
   refine(HP.out _).mono ?_
   rintro e w2 ⟨rfl,rfl⟩
   clear HA HP
   go_wp2_with fail
   go_ret
   exact⟨rfl,hb⟩
  ·rw[if_neg hk]at HA
   have hks:k=s.size:=by omega
   subst hks
   go_enter Tryz.func94,Tryz.ntmps94
   go_wp2_with fail
   refine HA.out.mono ?_
   rintro e w1 ⟨rfl,hb⟩
   go_wp2_with fail
   refine(HP.out _).mono ?_
   rintro e w2 ⟨rfl,rfl⟩
   clear HA HP
   go_wp2_with fail
   go_ret
   exact⟨rfl,hb⟩
def repB (c:UInt8) (n:List UInt8):List UInt8→List UInt8
 |[]=>[]
 |x::r=>if x=c then n++repB c n r else x::repB c n r
theorem repB_none (c:UInt8) (n:List UInt8):∀l:List UInt8,l.count c=0→repB c n l=l
 |[],_=>rfl
 |x::r,h=>by
  rw[List.count_cons]at h
  by_cases hx:x=c
  ·rw[hx]at h
   simp at h
  ·rw[repB,if_neg hx,repB_none c n r (by omega)]
theorem rep_cut (c:UInt8) (n:List UInt8):∀l:List UInt8,0<l.count c→spB (notB (· ==c)) l<l.length∧repB c n l=l.take (spB (notB (· ==c)) l)++n++repB c n (l.drop (spB (notB (· ==c)) l+1))∧l.count c=(l.drop (spB (notB (· ==c)) l+1)).count c+1
 |[],h=>by simp at h
 |x::r,h=>by
  by_cases hx:x=c
  ·have hn:¬notB (· ==c) x=true:=by
    show ¬(!(x==c))=true
    rw[beq_iff_eq.2 hx]
    decide
   rw[spB,if_neg hn]
   refine⟨by simp,?_,?_⟩
   ·rw[repB,if_pos hx]
    simp
   ·rw[List.count_cons,if_pos (beq_iff_eq.2 hx)]
    simp
  ·have hn:notB (· ==c) x=true:=by
    show(!(x==c))=true
    rw[beq_eq_false_iff_ne.2 hx]
    rfl
   rw[List.count_cons,if_neg (by rw[beq_iff_eq];exact hx),Nat.add_zero]at h
   obtain⟨h1,h2,h3⟩:=rep_cut c n r h
   rw[spB,if_pos hn]
   refine⟨by rw[List.length_cons];omega,?_,?_⟩
   ·rw[repB,if_neg hx,h2]
    simp
   ·rw[List.count_cons,if_neg (by rw[beq_iff_eq];exact hx),Nat.add_zero,h3]
    simp
theorem repK (c:UInt8) (n:List UInt8):∀(k:Nat) (l:List UInt8),l.count c=k→Lib.replaceK [c] n k l=repB c n l
 |0,l,h=>by rw[Lib.replaceK,repB_none c n l h]
 |k+1,l,h=>by
  obtain⟨h1,h2,h3⟩:=rep_cut c n l (by omega)
  have hi:Lib.index l [c]=(spB (notB (· ==c)) l:Nat):=by
   rw[Lib.index_one,idx_sp,if_pos h1]
  rw[Lib.replaceK_hit [c] n k l _ hi,h2]
  congr 1
  exact repK c n k _ (by rw[List.length_singleton];omega)
theorem repAll (c:UInt8) (n:List UInt8) (hn:n.length≠1) (l:List UInt8):Lib.replaceAll l [c] n=repB c n l:=by
 unfold Lib.replaceAll Lib.replace Lib.replaceNum
 have h1:([c]==n)=false:=by
  rw[beq_eq_false_iff_ne]
  intro e
  rw[←e]at hn
  exact hn rfl
 rw[h1,if_neg (by decide),if_pos (.inl (by decide)),Lib.count_one]
 exact repK c n _ l rfl
theorem esc_rep:∀l:List UInt8,repB 34 [92,34] (repB 92 [92,92] l)=escL l
 |[]=>rfl
 |x::r=>by
  rw[repB,escL]
  by_cases h:x=92
  ·rw[if_pos h,if_pos (.inr h),h,List.cons_append,List.cons_append,List.nil_append,repB,if_neg (by decide),repB,if_neg (by decide),esc_rep r]
  ·rw[if_neg h,repB]
   by_cases h2:x=34
   ·rw[if_pos h2,if_pos (.inl h2),esc_rep r,h2]
    rfl
   ·rw[if_neg h2,if_neg (fun hh=>hh.elim h2 h),esc_rep r]
theorem repB_len (c:UInt8) (n:List UInt8) (hn:n.length=2):∀l:List UInt8,(repB c n l).length=l.length+l.count c
 |[]=>rfl
 |x::r=>by
  rw[repB,List.count_cons,List.length_cons]
  by_cases h:x=c
  ·rw[if_pos h,if_pos (beq_iff_eq.2 h),List.length_append,hn,repB_len c n hn r]
   omega
  ·rw[if_neg h,if_neg (by rw[beq_iff_eq];exact h),List.length_cons,repB_len c n hn r]
   omega
end Go.Proofs.YtfjpkfhbmldmfaaGreatDoor
