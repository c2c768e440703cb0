/-
  The program's local.
-/
import Derived.Test.YtfjpkfhbmldmfaaGreatDoorXd9
import Derived.Test.YtfjpkfhbmldmfaaGreatDoorPtL
import Derived.Shelf.Strings.Builder1
import Derived.Shelf.Strings.Builder2
import Derived.Shelf.Strings.Search1
import Derived.Shelf.Strings.Search2
import Derived.Shelf.Strings.Search3
import Derived.Shelf.Strings.Count
import Derived.Shelf.Strings.Split
import Derived.Shelf.Strings.Replace
import Derived.Shelf.Small.Strs
import Derived.Shelf.Unicode.DecodeSlow
import Derived.Shelf.Unicode.DecodeAny
import Derived.Test.YtfjpkfhbmldmfaaGreatDoorProg
import Derived.Test.YtfjpkfhbmldmfaaGreatDoorPtR
import Derived.Shelf.Strconv.Itoa0
import Derived.Shelf.Strconv.Itoa1
import Derived.Shelf.LaysM
import Derived.Shelf.Strconv.Itoa2
import Derived.Shelf.Strconv.Itoa3
import Derived.Shelf.Small.Bits
import Derived.Lib.Walk
import Derived.Lib.ItoaMem
import Derived.Lib.AppendIntMem
import Derived.WalkKit
import Derived.BigCall
import Derived.BigGuard
import Derived.Laws.IdiomStrings
import Derived.Below
namespace Go.Proofs.YtfjpkfhbmldmfaaGreatDoor
open Go.RowKit
theorem But.cell {g:Nat} {w w':World} (h:But g w w') {p:Addr} (hp:p.block≠g) (hl:p.block<w.heap.size):w'.cell? p=w.cell? p:=World.cell?_of_block (h.block p.block hl hp)
theorem Tb.but {w w':World} {b:Nat} (h:Tb w) (hb:But b w w') (hg:10≤b):Tb w':=by
 obtain⟨te,pe,he⟩:=h.es
 refine⟨fun c hc=>?_,Nat.lt_of_lt_of_le h.gcl hb.size,h.fst.but hb (by omega),⟨te,pe,?_⟩,?_⟩
 ·rw[hb.cell (p:=⟨0,c,none⟩) (by show 0≠b;omega) h.gcl]
  exact h.cls c hc
 ·exact(hb.cell (p:=⟨8,0,none⟩) (by show 8≠b;omega) (World.block_lt_of_cell? w _ he)).trans he
 ·exact(hb.cell (p:=⟨7,15,none⟩) (by show 7≠b;omega) (World.block_lt_of_cell? w _ h.t64)).trans h.t64
theorem meR_me (s:ByteArray) (a:Nat):meR s a=shE a (meL (s.data.toList.drop a)):=by
 unfold meR meL nxB
 by_cases h:(s.data.toList.drop a).head?=some 34
 ·rw[if_pos (decide_eq_true h),if_pos h,List.drop_drop]
  have:=qtM_shift a (s.data.toList.drop (a+1)) 1 false (by omega)
  have e:1+a=a+1:=by omega
  rw[e]at this
  rw[this]
  cases hq:qtM 1 false (s.data.toList.drop (a+1)) with
  |error x=>
   cases x with
   |none=>rfl
   |some p=>simp[shQ,shE,Nat.add_comm]
  |ok x=>simp[shQ,shE,Nat.add_comm]
 ·rw[if_neg (by rw[decide_eq_false h];decide),if_neg h]
  split
  ·rfl
  ·rfl
theorem take_size (s:ByteArray) (a n:Nat) (h:a+n≤s.size):((s.data.toList.drop a).take n).length=n:=by
 rw[List.length_take,List.length_drop,len_list]
 omega
set_option maxHeartbeats 8000000 in
set_option maxRecDepth 100000 in
theorem local_any (b:Nat) (h10:10≤b) (s:ByteArray) (a:Nat) (ha:a≤s.size) (hs:s.size≤140737488355328) (wide:Bool) (w:World) (hT:Tb w) (h:RdAt w b s a wide 0 0):
  Calls Tryz.prog 68 #[.pointer (some ⟨b,0,none⟩)] w (Come b s wide w (strV (shE a (lcl wide (s.data.toList.drop a))))):=by
 have HM:Hid (Calls Tryz.prog 93 #[.pointer (some ⟨b,0,none⟩)] w (Come b s wide w (strV (meR s a)))):=meant_any b s a ha hs wide w hT h
 rw[meR_me]at HM
 rw[lcl_me]
 obtain⟨c0,c1,_,_,_⟩:=h.cells
 have HTB:Hid (Tb w):=hT
 clear h hT
 cases hm:meL (s.data.toList.drop a) with
 |error x=>
  obtain⟨er,p⟩:=x
  rw[hm]at HM
  dsimp only
  go_enter Tryz.func68,Tryz.ntmps68
  go_wp2_with fail
  refine HM.out.mono ?_
  rintro e w1 ⟨h1,rfl,a',h2⟩
  exact⟨rfl,h1,rfl,a',h2⟩
 |ok x=>
  obtain⟨m,n⟩:=x
  rw[hm]at HM
  dsimp only
  have hn:=meL_le hm
  rw[List.length_drop,len_list]at hn
  have hsz:=take_size s a n (by omega)
  obtain⟨E,hE⟩:∃E,E=a+n:=⟨_,rfl⟩
  obtain⟨t,ht⟩:∃t,t=s.extract a E:=⟨_,rfl⟩
  have htx:s.extract a E=t:=ht.symm
  have htl:t.data.toList=(s.data.toList.drop a).take n:=by rw[ht,hE,ext_txt,txt_list]
  have htz:t.size=n:=by rw[←len_list,htl,hsz]
  rw[←htl]at hsz ⊢
  rw[hsz]
  obtain⟨Y,hY⟩:∃Y,Y=strV (shE a (if 64<n then .error (90,0) else if fwL wide t.data.toList<n then .error (94,fwL wide t.data.toList) else .ok (m,n))):=⟨_,rfl⟩
  rw[←hY]
  have HY:Hid (Y=strV (shE a (if 64<n then .error (90,0) else if fwL wide t.data.toList<n then .error (94,fwL wide t.data.toList) else .ok (m,n)))):=hY
  have HM1:Hid (Calls Tryz.prog 93 #[.pointer (some ⟨b,0,none⟩)] w fun e w'=>e=.returned (.string (txt m))∧But b w w'∧RdAt w' b s E wide 0 0):=HM.out.mono (fun e w' q=>by
   obtain⟨h1,h2,h3⟩:=q
   rw[hE]
   exact⟨h2,h1,h3⟩)
  have HE:Hid (E=a+n):=hE
  have HTZ:Hid (t.size=n):=htz
  have hEs:E≤s.size:=by omega
  have haE:a≤E:=by omega
  have hts:t.size≤140737488355328:=by omega
  clear HM hm hn hsz ht htl hY hE htz
  obtain⟨M,hM⟩:∃M,M=txt m:=⟨_,rfl⟩
  rw[←hM]at HM1
  have HMM:Hid (M=txt m):=hM
  clear hM
  go_enter Tryz.func68,Tryz.ntmps68
  go_wp2_with fail
  refine HM1.out.mono ?_
  rintro e w1 ⟨rfl,hb1,hr1⟩
  clear HM1 c0 c1
  have HT1:Hid (Tb w1):=HTB.out.but hb1 h10
  have HB1:Hid (But b w w1):=hb1
  have HR1:Hid (RdAt w1 b s E wide 0 0):=hr1
  obtain⟨c0,c1,c2,_,_⟩:=hr1.cells
  have haE':(a:Int)≤(E:Int):=by omega
  have hEs':(E:Int)≤(s.size:Int):=by omega
  clear hr1 hb1 HTB
  go_upto_region 3 with fail
  refine wp_region_late (fun wx=>wx.cell? ⟨b,0,none⟩=some (.string s)∧wx.cell? ⟨b,1,none⟩=some (.int .i64 (E:Int))) 11 (by kernel_rfl) ⟨c0,c1⟩ (fun hHeld=>?_)
  refine tk9 0 (some 13) _ ?_
  simp only[Act.put,pA,pB,pC]
  refine tk9 1 (some 14) _ ?_
  simp only[Act.put,pA,pB,pC]
  refine tk9 2 (some 15) _ ?_
  simp only[Act.put,pA,pB,pC]
  refine tk9 3 (some 16) _ ?_
  simp only[Act.put,pA,pB,pC]
  refine tk9 4 (some 17) _ ?_
  simp only[Act.put,pA,pB,pC]
  refine tk9 5 (some 18) _ ?_
  simp only[Act.put,pA,pB,pC]
  refine tk9 6 (some 19) _ ?_
  simp only[Act.put,pA,pB,pC]
  refine tk9 7 (some 20) _ ?_
  simp only[Act.put,pA,pB,pC]
  refine tk9 8 (some 21) _ ?_
  simp only[Act.put,pA,pB,pC]
  refine tk9 9 (some 22) (.string t) ?_
  simp only[Act.put,pA,pB,pC]
  refine tk9 10 (some 5) _ ?_
  simp only[Act.put,pA,pB,pC]
  refine wpAnyE_done (by kernel_rfl) ?_ _
  clear hHeld
  have HF:Hid (∀er p:Nat,∀wx,Below w1.heap.size w1 wx→Calls Tryz.prog 42 #[.pointer (some ⟨b,0,none⟩),.int .i64 (er:Nat),.int .i64 (p:Nat)] wx fun e w'=>e=gaveUp er∧RdAt w' b s E wide er p∧But b w w'):=fun er p wx hx=>(fail_any b s E wide er p wx (HR1.out.below hx)).mono (fun e w' q=>⟨q.1,q.2.1,(HB1.out.thenBelow hx).trans q.2.2⟩)
  by_cases h6:64<n
  ·have h6':(64:Int)<(t.size:Int):=by have:=HTZ.out;omega
   have hy:=HY.out
   rw[if_pos h6]at hy
   subst hy
   have HF1:Hid (Calls Tryz.prog 42 #[.pointer (some ⟨b,0,none⟩),.int .i64 90,.int .i64 (a:Nat)] w1.drew fun e w'=>e=gaveUp 90∧RdAt w' b s E wide 90 a∧But b w w'):=HF.out 90 a w1.drew (Below.refl _ w1).drew
   clear HF HY h6
   go_wp2_with fail
   refine HF1.out.mono ?_
   rintro e w2 ⟨rfl,h1,h2⟩
   exact⟨rfl,h2,rfl,E,h1⟩
  ·have h6':¬(64:Int)<(t.size:Int):=by have:=HTZ.out;omega
   have hy:=HY.out
   rw[if_neg h6]at hy
   obtain⟨k,hk⟩:∃k,k=fwL wide t.data.toList:=⟨_,rfl⟩
   rw[←hk]at hy
   have hkl:k≤n:=by
    have:=fwL_le wide t.data.toList
    rw[←hk,len_list,HTZ.out]at this
    exact this
   have HFW:Hid (Calls Tryz.prog 77 #[.string t,.bool wide] w1.drew fun e w'=>e=.returned (.int .i64 (k:Nat))∧Below w1.heap.size w1 w'):=(fw_any t wide hts w1.drew HT1.out.drew.cls HT1.out.drew.fst).mono (fun e w' q=>⟨by rw[q.1,hk];rfl,(Below.refl _ w1).drew.trans q.2⟩)
   have HY2:Hid (Y=strV (shE a (if k<n then .error (94,k) else .ok (m,n)))):=hy
   clear hk HY h6 hy
   have d2:w1.drew.cell? ⟨b,2,none⟩=some (.bool wide):=c2
   go_wp2_with fail
   refine HFW.out.mono ?_
   rintro e w2 ⟨rfl,hb2⟩
   clear HFW
   have HB2:Hid (Below w1.heap.size w1 w2):=hb2
   clear hb2
   have hy:=HY2.out
   clear HY2
   by_cases h7:k<n
   ·have h7':(k:Int)<(t.size:Int):=by have:=HTZ.out;omega
    rw[if_pos h7]at hy
    subst hy
    have HF1:Hid (Calls Tryz.prog 42 #[.pointer (some ⟨b,0,none⟩),.int .i64 94,.int .i64 ((a:Int)+(k:Int))] w2 fun e w'=>e=gaveUp 94∧RdAt w' b s E wide 94 (a+k)∧But b w w'):=HF.out 94 (a+k) w2 HB2.out
    have hak:a+k≤140737488355328:=by have:=HE.out;omega
    clear HF h7
    go_wp2_with fail
    refine HF1.out.mono ?_
    rintro e w3 ⟨rfl,h1,h2⟩
    exact⟨rfl,h2,rfl,E,h1⟩
   ·have h7':¬(k:Int)<(t.size:Int):=by have:=HTZ.out;omega
    rw[if_neg h7]at hy
    have hy2:Y=.ok (.string M,E):=by rw[hy,HE.out,HMM.out];rfl
    subst hy2
    clear hy HF h7
    go_wp2_with fail
    go_ret
    exact⟨HB1.out.thenBelow HB2.out,rfl,HR1.out.below HB2.out⟩
end Go.Proofs.YtfjpkfhbmldmfaaGreatDoor
namespace Go.Proofs
def Tryz.lays155_ren:Go.Shelf.Ren:=⟨fun|155=>107|154=>142|138=>174|165=>144|143=>162|166=>145|197=>175|169=>146|195=>206|218=>207|240=>177|241=>178|219=>183|260=>208|276=>209|277=>210|217=>151|225=>194|224=>193|267=>226|266=>182|314=>243|n=>n,fun|9=>9|3=>3|4=>4|72=>145|0=>0|76=>149|105=>125|21=>21|5=>5|70=>143|20=>20|37=>98|75=>148|127=>181|164=>207|46=>155|119=>231|139=>234|138=>233|146=>248|51=>237|80=>88|n=>n,fun|1=>2|3=>3|4=>4|n=>n⟩
theorem Tryz.lays155:Go.Proofs.Lays.n155 Tryz.prog Tryz.lays155_ren:={
 mixed:=by kernel_rfl
 f138:=Tryz.func174.trans (congrArg some (by kernel_rfl))
 f143:=Tryz.func162.trans (congrArg some (by kernel_rfl))
 f154:=Tryz.func142.trans (congrArg some (by kernel_rfl))
 f155:=Tryz.func107.trans (congrArg some (by kernel_rfl))
 f165:=Tryz.func144.trans (congrArg some (by kernel_rfl))
 f166:=Tryz.func145.trans (congrArg some (by kernel_rfl))
 f169:=Tryz.func146.trans (congrArg some (by kernel_rfl))
 f195:=Tryz.func206.trans (congrArg some (by kernel_rfl))
 f197:=Tryz.func175.trans (congrArg some (by kernel_rfl))
 f217:=Tryz.func151.trans (congrArg some (by kernel_rfl))
 f218:=Tryz.func207.trans (congrArg some (by kernel_rfl))
 f219:=Tryz.func183.trans (congrArg some (by kernel_rfl))
 f224:=Tryz.func193.trans (congrArg some (by kernel_rfl))
 f225:=Tryz.func194.trans (congrArg some (by kernel_rfl))
 f240:=Tryz.func177.trans (congrArg some (by kernel_rfl))
 f241:=Tryz.func178.trans (congrArg some (by kernel_rfl))
 f260:=Tryz.func208.trans (congrArg some (by kernel_rfl))
 f266:=Tryz.func182.trans (congrArg some (by kernel_rfl))
 f267:=Tryz.func226.trans (congrArg some (by kernel_rfl))
 f276:=Tryz.func209.trans (congrArg some (by kernel_rfl))
 f277:=Tryz.func210.trans (congrArg some (by kernel_rfl))
 f314:=Tryz.func243.trans (congrArg some (by kernel_rfl))
 t0:=Tryz.underlying0
 a0:=Tryz.isAgg0
 z0:=Tryz.sizeOf0
 v0:=Tryz.zeroValue0
 t3:=Tryz.underlying3
 a3:=Tryz.isAgg3
 z3:=Tryz.sizeOf3
 v3:=Tryz.zeroValue3
 t4:=Tryz.underlying4
 a4:=Tryz.isAgg4
 z4:=Tryz.sizeOf4
 v4:=Tryz.zeroValue4
 t5:=Tryz.underlying5
 a5:=Tryz.isAgg5
 z5:=Tryz.sizeOf5
 v5:=Tryz.zeroValue5
 t9:=Tryz.underlying9
 a9:=Tryz.isAgg9
 z9:=Tryz.sizeOf9
 v9:=Tryz.zeroValue9
 t20:=Tryz.underlying20
 a20:=Tryz.isAgg20
 z20:=Tryz.sizeOf20
 v20:=Tryz.zeroValue20
 t21:=Tryz.underlying21
 a21:=Tryz.isAgg21
 z21:=Tryz.sizeOf21
 v21:=Tryz.zeroValue21
 t37:=Tryz.underlying98
 a37:=Tryz.isAgg98
 z37:=Tryz.sizeOf98
 v37:=Tryz.zeroValue98
 t46:=Tryz.underlying155
 a46:=Tryz.isAgg155
 z46:=Tryz.sizeOf155
 v46:=Tryz.zeroValue155
 t51:=Tryz.underlying237
 a51:=Tryz.isAgg237
 z51:=Tryz.sizeOf237
 v51:=Tryz.zeroValue237
 t70:=Tryz.underlying143
 a70:=Tryz.isAgg143
 z70:=Tryz.sizeOf143
 v70:=Tryz.zeroValue143
 t72:=Tryz.underlying145
 a72:=Tryz.isAgg145
 z72:=Tryz.sizeOf145
 v72:=Tryz.zeroValue145
 t75:=Tryz.underlying148
 a75:=Tryz.isAgg148
 z75:=Tryz.sizeOf148
 v75:=Tryz.zeroValue148
 t76:=Tryz.underlying149
 a76:=Tryz.isAgg149
 z76:=Tryz.sizeOf149
 v76:=Tryz.zeroValue149
 t105:=Tryz.underlying125
 a105:=Tryz.isAgg125
 z105:=Tryz.sizeOf125
 v105:=Tryz.zeroValue125
 t119:=Tryz.underlying231
 a119:=Tryz.isAgg231
 z119:=Tryz.sizeOf231
 t127:=Tryz.underlying181
 a127:=Tryz.isAgg181
 z127:=Tryz.sizeOf181
 v127:=Tryz.zeroValue181
 t138:=Tryz.underlying233
 a138:=Tryz.isAgg233
 z138:=Tryz.sizeOf233
 v138:=Tryz.zeroValue233
 t139:=Tryz.underlying234
 a139:=Tryz.isAgg234
 z139:=Tryz.sizeOf234
 v139:=Tryz.zeroValue234
 t146:=Tryz.underlying248
 a146:=Tryz.isAgg248
 z146:=Tryz.sizeOf248
 v146:=Tryz.zeroValue248
 t164:=Tryz.underlying207
 a164:=Tryz.isAgg207
 z164:=Tryz.sizeOf207
 v164:=Tryz.zeroValue207
 g1:=by kernel_rfl
 g3:=by kernel_rfl
 g4:=by kernel_rfl}
theorem Tryz.Builder_Extra_155:Builder.Extra Tryz.prog Tryz.lays155_ren:={
 sizeBuilder:=by kernel_rfl
 liesBuilder:=by kernel_rfl
 t5:=Tryz.underlying5
 a5:=Tryz.isAgg5
 z5:=Tryz.sizeOf5
 v5:=Tryz.zeroValue5
 infoByte:=by kernel_rfl
 cellsByte:=by kernel_rfl
 sizeByte:=by kernel_rfl
 neB5:=by decide}
open Go.RowKit Go.Lib in
theorem Tryz.strings_ReplaceAll (s old new:ByteArray) (m:Int) (w:World) (hs:s.size<4294967281) (hm:w.cell? ⟨2,0,none⟩=some (.int .i64 m)) (h1:1≤old.size) (hlen:s.size+Lib.countB s old*new.size≤140737488355328):
 Calls Tryz.prog 107 #[.string s,.string old,.string new] w fun e w'=>
  e=.returned (.string ⟨(Lib.replaceAll s.data.toList old.data.toList new.data.toList).toArray⟩)∧Below w.heap.size w w':=Any.strings_ReplaceAll Tryz.lays155 Tryz.Builder_Extra_155 s old new m w hs hm h1 hlen
end Go.Proofs
namespace Go.Proofs.YtfjpkfhbmldmfaaGreatDoor
open Go.RowKit
structure RepOk (s:ByteArray) (w:World):Prop where
 one:∀wx,Below w.heap.size w wx→Calls Tryz.prog 107 #[.string s,.string ⟨#[92]⟩,.string ⟨#[92,92]⟩] wx fun e w'=>e=.returned (.string (txt (repB 92 [92,92] s.data.toList)))∧Below wx.heap.size wx w'
 two:∀wx,Below w.heap.size w wx→Calls Tryz.prog 107 #[.string (txt (repB 92 [92,92] s.data.toList)),.string ⟨#[34]⟩,.string ⟨#[92,34]⟩] wx fun e w'=>e=.returned (.string (txt (escL s.data.toList)))∧Below wx.heap.size wx w'
theorem count_le (c:UInt8) (l:List UInt8):l.count c≤l.length:=List.count_le_length
theorem rep_small (s:ByteArray) (hs:s.size≤1073741824) (c d:UInt8) (m:Int) (wx:World) (hm:wx.cell? ⟨2,0,none⟩=some (.int .i64 m)):
  Calls Tryz.prog 107 #[.string s,.string ⟨#[c]⟩,.string ⟨#[d,c]⟩] wx fun e w'=>e=.returned (.string (txt (repB c [d,c] s.data.toList)))∧Below wx.heap.size wx w':=by
 have hc:Lib.countB s ⟨#[c]⟩≤s.size:=by
  show Lib.count s.data.toList [c]≤_
  rw[Lib.count_one,←len_list]
  exact count_le _ _
 have:=Tryz.strings_ReplaceAll s ⟨#[c]⟩ ⟨#[d,c]⟩ m wx (by omega) hm (by show 1≤1;exact Nat.le_refl _) (by show s.size+Lib.countB s ⟨#[c]⟩*2≤_;omega)
 rw[repAll c [d,c] (by simp) s.data.toList]at this
 exact this
theorem RepOk.small (s:ByteArray) (hs:s.size≤536870912) (w:World) (hm:∃m,w.cell? ⟨2,0,none⟩=some (.int .i64 m)):RepOk s w:=by
 obtain⟨m,hm⟩:=hm
 have h1:∀wx,Below w.heap.size w wx→wx.cell? ⟨2,0,none⟩=some (.int .i64 m):=fun wx hx=>(hx.cell (p:=⟨2,0,none⟩) (World.block_lt_of_cell? w _ hm)).trans hm
 refine⟨fun wx hx=>rep_small s (by omega) 92 92 m wx (h1 wx hx),fun wx hx=>?_⟩
 have hz:(txt (repB 92 [92,92] s.data.toList)).size≤1073741824:=by
  rw[txt_size,repB_len 92 [92,92] rfl,len_list]
  have:=count_le 92 s.data.toList
  rw[len_list]at this
  omega
 have:=rep_small (txt (repB 92 [92,92] s.data.toList)) hz 34 92 m wx (h1 wx hx)
 rw[txt_list,esc_rep]at this
 exact this
set_option maxHeartbeats 4000000 in
set_option maxRecDepth 20000 in
theorem wloc_any (s:ByteArray) (hs:s.size≤140737488355328) (w:World) (hT:Tb w) (hr:RepOk s w):
  Calls Tryz.prog 76 #[.string s] w fun e w'=>e=.returned (.string (txt (wrL s.data.toList)))∧Below w.heap.size w w':=by
 have HA:Hid (Calls Tryz.prog 106 #[.string s] w fun e w'=>e=.returned (.int .i64 (rowL s.data.toList:Nat))∧w'=w):=atoms_any s (by unfold maxLen;omega) w hT.cls
 have H1:Hid (∀wx,Below w.heap.size w wx→Calls Tryz.prog 107 #[.string s,.string ⟨#[92]⟩,.string ⟨#[92,92]⟩] wx fun e w'=>e=.returned (.string (txt (repB 92 [92,92] s.data.toList)))∧Below wx.heap.size wx w'):=hr.one
 have H2:Hid (∀wx,Below w.heap.size w wx→Calls Tryz.prog 107 #[.string (txt (repB 92 [92,92] s.data.toList)),.string ⟨#[34]⟩,.string ⟨#[92,34]⟩] wx fun e w'=>e=.returned (.string (txt (escL s.data.toList)))∧Below wx.heap.size wx w'):=hr.two
 have hle:=rowL_le s.data.toList
 rw[len_list]at hle
 obtain⟨R,hR⟩:∃R,R=txt (wrL s.data.toList):=⟨_,rfl⟩
 rw[←hR]
 have HP:Hid (plainL s.data.toList=(decide (0<s.size)&&decide (rowL s.data.toList=s.size))):=by
  show _=_
  unfold plainL
  rw[len_list]
  congr 1
  rw[Bool.eq_iff_iff,decide_eq_true_eq,decide_eq_true_eq,←len_list,List.length_pos_iff]
 have HR1:Hid (plainL s.data.toList=true→R=s):=fun h=>by
  rw[hR]
  unfold wrL
  rw[if_pos h,txt_back]
 have HR2:Hid (plainL s.data.toList=false→R=⟨#[34]⟩++txt (escL s.data.toList)++⟨#[34]⟩):=fun h=>by
  rw[hR]
  unfold wrL
  rw[if_neg (by rw[h];decide)]
  have e1:(⟨#[34]⟩:ByteArray)=txt [34]:=rfl
  rw[e1,txt_cat,txt_cat]
  rfl
 have hT2:(txt (escL s.data.toList)).size≤281474976710656:=by
  rw[txt_size]
  have:=escL_two s.data.toList
  rw[len_list]at this
  omega
 clear hT hr hR
 generalize rowL s.data.toList=n at HA hle HP
 generalize repB 92 [92,92] s.data.toList=m1 at H1 H2
 generalize txt m1=T1 at H1 H2
 generalize txt (escL s.data.toList)=T2 at H2 HR2 hT2
 by_cases h1:0<n
 ·have h1':(0:Int)<(n:Int):=by omega
  by_cases h2:n=s.size
  ·have h2':((n:Int)==(s.size:Int))=true:=by rw[beq_iff_eq];omega
   have HRR:Hid (R=s):=HR1.out (by rw[HP.out,decide_eq_true (by omega),decide_eq_true h2];rfl)
   clear HR1 HR2 HP H1 H2 h2
   go_enter Tryz.func76,Tryz.ntmps76
   go_wp2_with fail
   refine HA.out.mono ?_
   rintro e w1 ⟨rfl,rfl⟩
   go_wp2_with fail
   go_ret
   exact⟨by rw[HRR.out];rfl,Below.refl _ _⟩
  ·have h2':((n:Int)==(s.size:Int))=false:=by rw[beq_eq_false_iff_ne];omega
   have HRR:Hid (R=⟨#[34]⟩++T2++⟨#[34]⟩):=HR2.out (by rw[HP.out,decide_eq_false h2,Bool.and_false])
   clear HR1 HR2 HP h2
   go_enter Tryz.func76,Tryz.ntmps76
   go_wp2_with fail
   refine HA.out.mono ?_
   rintro e w1 ⟨rfl,rfl⟩
   go_wp2_with fail
   refine(H1.out _ (Below.refl _ _)).mono ?_
   rintro e w2 ⟨rfl,hb2⟩
   have HB2:Hid (Below w1.heap.size w1 w2):=hb2
   clear hb2
   go_wp2_with fail
   refine(H2.out _ HB2.out).mono ?_
   rintro e w3 ⟨rfl,hb3⟩
   have HB3:Hid (Below w1.heap.size w1 w3):=HB2.out.trans (hb3.mono HB2.out.size)
   clear hb3
   go_wp2_with fail
   go_ret
   exact⟨by rw[HRR.out];rfl,HB3.out⟩
 ·have h1':¬(0:Int)<(n:Int):=by omega
  have HRR:Hid (R=⟨#[34]⟩++T2++⟨#[34]⟩):=HR2.out (by
   rw[HP.out]
   by_cases h0:0<s.size
   ·rw[decide_eq_false (show ¬n=s.size by omega),Bool.and_false]
   ·rw[decide_eq_false h0,Bool.false_and])
  clear HR1 HR2 HP
  go_enter Tryz.func76,Tryz.ntmps76
  go_wp2_with fail
  refine HA.out.mono ?_
  rintro e w1 ⟨rfl,rfl⟩
  go_wp2_with fail
  refine(H1.out _ (Below.refl _ _)).mono ?_
  rintro e w2 ⟨rfl,hb2⟩
  have HB2:Hid (Below w1.heap.size w1 w2):=hb2
  clear hb2
  go_wp2_with fail
  refine(H2.out _ HB2.out).mono ?_
  rintro e w3 ⟨rfl,hb3⟩
  have HB3:Hid (Below w1.heap.size w1 w3):=HB2.out.trans (hb3.mono HB2.out.size)
  clear hb3
  go_wp2_with fail
  go_ret
  exact⟨by rw[HRR.out];rfl,HB3.out⟩
end Go.Proofs.YtfjpkfhbmldmfaaGreatDoor
namespace Go.Proofs
def Tryz.lays283_ren:Go.Shelf.Ren:=⟨fun|283=>211|n=>n,fun|3=>3|9=>9|4=>4|n=>n,fun|n=>n⟩
theorem Tryz.lays283:Go.Proofs.Lays.n283 Tryz.prog Tryz.lays283_ren:={
 mixed:=by kernel_rfl
 f283:=Tryz.func211.trans (congrArg some (by kernel_rfl))
 t3:=Tryz.underlying3
 a3:=Tryz.isAgg3
 z3:=Tryz.sizeOf3
 v3:=Tryz.zeroValue3
 t4:=Tryz.underlying4
 a4:=Tryz.isAgg4
 z4:=Tryz.sizeOf4
 v4:=Tryz.zeroValue4
 t9:=Tryz.underlying9
 a9:=Tryz.isAgg9
 z9:=Tryz.sizeOf9
 v9:=Tryz.zeroValue9}
open Go.Lib in
theorem Tryz.internal_strconv_small (i:Nat) (h:i<100) (w:World):
 Calls Tryz.prog 211 #[.int .i64 i] w fun e w'=>e=.returned (.string ⟨(Lib.decDigits i).toArray⟩)∧w'=w:=Any.internal_strconv_small Tryz.lays283 i h w
def Tryz.laysM284_ren:Go.Shelf.Ren:=⟨fun|284=>212|129=>230|317=>229|318=>231|n=>n,fun|53=>153|3=>3|212=>236|0=>0|4=>4|46=>155|5=>5|9=>9|n=>n,fun|17=>5|n=>n⟩
theorem Tryz.laysM284:Go.Proofs.LaysM.n284 Tryz.prog Tryz.laysM284_ren:={
 mixed:=by kernel_rfl
 f129:=Tryz.func230.trans (congrArg some (by kernel_rfl))
 f284:=Tryz.func212.trans (congrArg some (by kernel_rfl))
 f317:=Tryz.func229.trans (congrArg some (by kernel_rfl))
 f318:=Tryz.func231.trans (congrArg some (by kernel_rfl))
 t0:=Tryz.underlying0
 a0:=Tryz.isAgg0
 z0:=Tryz.sizeOf0
 v0:=Tryz.zeroValue0
 t3:=Tryz.underlying3
 a3:=Tryz.isAgg3
 z3:=Tryz.sizeOf3
 v3:=Tryz.zeroValue3
 t4:=Tryz.underlying4
 a4:=Tryz.isAgg4
 z4:=Tryz.sizeOf4
 v4:=Tryz.zeroValue4
 t5:=Tryz.underlying5
 a5:=Tryz.isAgg5
 z5:=Tryz.sizeOf5
 v5:=Tryz.zeroValue5
 t9:=Tryz.underlying9
 a9:=Tryz.isAgg9
 z9:=Tryz.sizeOf9
 v9:=Tryz.zeroValue9
 t46:=Tryz.underlying155
 a46:=Tryz.isAgg155
 z46:=Tryz.sizeOf155
 v46:=Tryz.zeroValue155
 t53:=Tryz.underlying153
 a53:=Tryz.isAgg153
 z53:=Tryz.sizeOf153
 v53:=Tryz.zeroValue153
 t212:=Tryz.underlying236
 a212:=Tryz.isAgg236
 z212:=Tryz.sizeOf236
 v212:=Tryz.zeroValue236
 g17:=by kernel_rfl
 i0:=by kernel_rfl
 i3:=by kernel_rfl
 i4:=by kernel_rfl
 i5:=by kernel_rfl
 i9:=by kernel_rfl
 i46:=by kernel_rfl
 i53:=by kernel_rfl
 i212:=by kernel_rfl
 m17:=by kernel_rfl}
open Go.Lib in
theorem Tryz.internal_strconv_numDigits (u:Nat) (h1:1≤u) (h2:u<18446744073709551616) (w:World) (htab:Lib.TabIs Tryz.prog w "internal/strconv.uint64pow10" .u64 Lib.pow10Tab):
 Calls Tryz.prog 212 #[.int .u64 u] w fun e w'=>e=.returned (.int .i64 (Lib.nDigits u))∧w'=w:=Any.internal_strconv_numDigits Tryz.laysM284 u h1 h2 w htab
def Tryz.lays285_ren:Go.Shelf.Ren:=⟨fun|285=>213|n=>n,fun|37=>98|53=>153|3=>3|4=>4|51=>237|9=>9|5=>5|0=>0|n=>n,fun|n=>n⟩
theorem Tryz.lays285:Go.Proofs.Lays.n285 Tryz.prog Tryz.lays285_ren:={
 mixed:=by kernel_rfl
 f285:=Tryz.func213.trans (congrArg some (by kernel_rfl))
 t0:=Tryz.underlying0
 a0:=Tryz.isAgg0
 z0:=Tryz.sizeOf0
 v0:=Tryz.zeroValue0
 t3:=Tryz.underlying3
 a3:=Tryz.isAgg3
 z3:=Tryz.sizeOf3
 v3:=Tryz.zeroValue3
 t4:=Tryz.underlying4
 a4:=Tryz.isAgg4
 z4:=Tryz.sizeOf4
 v4:=Tryz.zeroValue4
 t5:=Tryz.underlying5
 a5:=Tryz.isAgg5
 z5:=Tryz.sizeOf5
 v5:=Tryz.zeroValue5
 t9:=Tryz.underlying9
 a9:=Tryz.isAgg9
 z9:=Tryz.sizeOf9
 v9:=Tryz.zeroValue9
 t37:=Tryz.underlying98
 a37:=Tryz.isAgg98
 z37:=Tryz.sizeOf98
 v37:=Tryz.zeroValue98
 t51:=Tryz.underlying237
 a51:=Tryz.isAgg237
 z51:=Tryz.sizeOf237
 v51:=Tryz.zeroValue237
 t53:=Tryz.underlying153
 a53:=Tryz.isAgg153
 z53:=Tryz.sizeOf153
 v53:=Tryz.zeroValue153}
open Go.RowKit Go.Sort Go.Lib in
theorem Tryz.internal_strconv_formatBase10 (blk off cap:Nat) (u:Nat) (d:Array UInt8) (w:World) (hH:Holds (fun (b:UInt8)=>Value.int .u8 (b.toNat:Int)) w blk off d) (hu:u<10 ^ d.size) (hu64:u<18446744073709551616) (hsz:d.size<4611686018427387904):
 Calls Tryz.prog 213 #[.slice (some ⟨blk,off,none⟩) d.size cap,.int .u64 u] w fun e w'=>
  e=.returned (.tuple #[])∧∃(n v':Nat) (dk:Array UInt8),w'=(putRow (fun (b:UInt8)=>Value.int .u8 (b.toNat:Int)) w blk off dk).drewN n∧FmtInv d.size u 0 v' dk:=Any.internal_strconv_formatBase10 Tryz.lays285 blk off cap u d w hH hu hu64 hsz
end Go.Proofs
namespace Go.Proofs.YtfjpkfhbmldmfaaGreatDoor
open Go.RowKit Go.Sort Go.Lib
def PowTab (w:World):Prop:=Lib.TabIs Tryz.prog w "internal/strconv.uint64pow10" .u64 Lib.pow10Tab
set_option maxHeartbeats 6400000 in
set_option maxRecDepth 100000 in
theorem ifmt_small (u:Nat) (hu:u<100) (w:World):
  Calls Tryz.prog 179 #[.int .u64 (u:Int),.int .i64 10] w fun e w'=>e=.returned (.string ⟨(Lib.decDigits u).toArray⟩)∧Below w.heap.size w w':=by
 go_enter Tryz.func179,Tryz.ntmps179
 go_wp2_with (go_at_call 211;refine(Tryz.internal_strconv_small u hu _).mono ?_;rintro e w' ⟨rfl,rfl⟩)
 go_ret
 exact⟨rfl,Below.refl _ _⟩
set_option maxHeartbeats 6400000 in
set_option maxRecDepth 100000 in
theorem ifmt_big (u:Nat) (hu:100≤u) (hu64:u<18446744073709551616) (w:World) (htab:PowTab w):
  Calls Tryz.prog 179 #[.int .u64 (u:Int),.int .i64 10] w fun e w'=>e=.returned (.string ⟨(Lib.decDigits u).toArray⟩)∧Below w.heap.size w w':=by
 have hu1:1≤u:=by omega
 have hnd20:Lib.nDigits u≤20:=by have:=Lib.numDigits_eq u hu1 hu64;split at this<;>omega
 have hal:Tryz.prog.arrayLen 211=24:=by simp[Program.arrayLen,Tryz.underlying211]
 have hsl:∀W,(Instr.sliceAt 211 (.pointer (some ⟨w.heap.size,0,none⟩)) none (some (.int .i64 (Lib.nDigits u:Int))) none).run Tryz.prog W=.ok (.slice (some ⟨w.heap.size,0,none⟩) (Lib.nDigits u) 24) W:=fun W=>by
  rw[run_sliceAt_array_h W 211 ⟨w.heap.size,0,none⟩ (by simp[Program.arrayLen,Program.elem,Tryz.underlying211]) .i64 (Lib.nDigits u:Int) (by omega) (by rw[hal];omega)]
  go_simp
 have hH0:=Lib.holds_zero0 w 211 (Lib.nDigits u) (by omega)
 have hfmt:=Tryz.internal_strconv_formatBase10 w.heap.size 0 24 u (Array.replicate (Lib.nDigits u) 0) (w.alloc (.cells Lib.zeros24 211)) hH0 (by rw[Array.size_replicate];exact Lib.lt_pow_nDigits u) hu64 (by rw[Array.size_replicate];omega)
 rw[Array.size_replicate]at hfmt
 have HH0:=Lib.hid hH0
 have iu:(100:Int)≤(u:Int):=by omega
 clear hH0 hal
 have HTAB:Hid (PowTab w):=htab
 clear htab
 go_enter Tryz.func179,Tryz.ntmps179
 go_wp2_with (go_at_call 212;refine(Tryz.internal_strconv_numDigits u hu1 hu64 _ (Lib.tabIs_alloc HTAB.out _)).mono ?_;rintro e w' ⟨rfl,rfl⟩)
 refine hfmt.mono ?_
 rintro e w' ⟨rfl,k,v',dk,rfl,hF⟩
 have hcv:(convert 98 9 (.slice (some ⟨w.heap.size,0,none⟩) (Lib.nDigits u) 24)).run Tryz.prog ((putRow (fun (b:UInt8)=>Value.int .u8 (b.toNat:Int)) (w.alloc (.cells Lib.zeros24 211)) w.heap.size 0 dk).drewN k)=.ok (.string ⟨(Lib.decDigits u).toArray⟩) ((putRow (fun (b:UInt8)=>Value.int .u8 (b.toNat:Int)) (w.alloc (.cells Lib.zeros24 211)) w.heap.size 0 dk).drewN k):=by
  have h:=run_convert_bytes_back (P:=Tryz.prog) ((putRow (fun (b:UInt8)=>Value.int .u8 (b.toNat:Int)) (w.alloc (.cells Lib.zeros24 211)) w.heap.size 0 dk).drewN k) 98 9 5 ⟨w.heap.size,0,none⟩ 24 (Lib.decDigits u) Tryz.underlying98 Tryz.underlying5 Tryz.underlying9 (fun j hj=>by
   rw[Lib.row_is_numeral hF j hj,Lib.add_plain,World.cell?_drewN]
   exact cell?_putRow (fun (b:UInt8)=>Value.int .u8 (b.toNat:Int)) _ w.heap.size 0 _ dk HH0.out (by rw[hF.size,Array.size_replicate]) j (by rw[hF.size];rw[Lib.decDigits_length]at hj;exact hj))
  rw[Lib.decDigits_length]at h
  exact h
 obtain⟨os,eo⟩:=Lib.fin_at w (.cells Lib.zeros24 211) dk k 0
 have HB:Hid (Below w.heap.size w ((putRow (fun (b:UInt8)=>Value.int .u8 (b.toNat:Int)) (w.alloc (.cells Lib.zeros24 211)) w.heap.size 0 dk).drewN k)):=by
  show Below _ _ _
  rw[eo]
  exact Lib.below_grow w.heap.size w (Nat.le_refl _) k os
 generalize (putRow (fun (b:UInt8)=>Value.int .u8 (b.toNat:Int)) (w.alloc (.cells Lib.zeros24 211)) w.heap.size 0 dk).drewN k=W2 at hcv HB ⊢
 clear eo HH0 hfmt
 go_wp2
 go_ret
 exact⟨rfl,HB.out⟩
set_option maxHeartbeats 1000000 in
theorem decm_any (n:Nat) (hn:n<18446744073709551616) (w:World) (htab:PowTab w):
  Calls Tryz.prog 147 #[.int .u64 (n:Int)] w fun e w'=>e=.returned (.string ⟨(Lib.decDigits n).toArray⟩)∧Below w.heap.size w w':=by
 have h:∀w,PowTab w→Calls Tryz.prog 179 #[.int .u64 (n:Int),.int .i64 10] w fun e w'=>e=.returned (.string ⟨(Lib.decDigits n).toArray⟩)∧Below w.heap.size w w':=fun w ht=>by
  by_cases hs:n<100
  ·exact ifmt_small n hs w
  ·exact ifmt_big n (by omega) hn w ht
 have HTAB:Hid (PowTab w):=htab
 clear htab
 have HH:Hid (∀w,PowTab w→Calls Tryz.prog 179 #[.int .u64 (n:Int),.int .i64 10] w fun e w'=>e=.returned (.string ⟨(Lib.decDigits n).toArray⟩)∧Below w.heap.size w w'):=h
 clear h
 go_enter Tryz.func147,Tryz.ntmps147
 go_wp2_with (first|(go_at_call 148;go_in)|(go_at_call 179;refine(HH.out _ HTAB.out).mono ?_;rintro e w' ⟨rfl,hb⟩))
 go_ret
 exact⟨rfl,hb⟩
end Go.Proofs.YtfjpkfhbmldmfaaGreatDoor
