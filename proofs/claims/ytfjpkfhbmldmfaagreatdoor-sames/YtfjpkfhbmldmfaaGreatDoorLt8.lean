/-
  The library's contracts on strings, laid at this program.
-/
import Derived.Shelf.Strings.Builder1
import Derived.Shelf.Strings.Builder2
import Derived.Shelf.Strings.OnBuilder
import Derived.Shelf.Strings.Search1
import Derived.Shelf.Strings.Search2
import Derived.Shelf.Strings.Search3
import Derived.Shelf.Strings.Count
import Derived.Shelf.Strings.Shaped
import Derived.Shelf.Strings.Split
import Derived.Shelf.Small.Bits
import Derived.Shelf.Small.Strs
import Derived.Shelf.Strings.Cut
import Derived.Shelf.Strings.RuneCount
import Derived.Shelf.Bits.Mul64
import Derived.Shelf.Unicode.DecodeSlow
import Derived.Test.YtfjpkfhbmldmfaaGreatDoorProg
import Derived.Test.YtfjpkfhbmldmfaaGreatDoorPg8
import Derived.Test.YtfjpkfhbmldmfaaGreatDoorV6a
import Derived.Test.YtfjpkfhbmldmfaaGreatDoorLate5
namespace Go.Proofs
def Tryz.lays156_ren:Go.Shelf.Ren:=⟨fun|156=>109|165=>144|166=>145|169=>146|240=>177|241=>178|276=>209|277=>210|n=>n,fun|31=>50|9=>9|3=>3|4=>4|0=>0|20=>20|72=>145|76=>149|70=>143|37=>98|75=>148|127=>181|164=>207|5=>5|80=>88|n=>n,fun|n=>n⟩
theorem Tryz.lays156:Go.Proofs.Lays.n156 Tryz.prog Tryz.lays156_ren:={
 mixed:=by kernel_rfl
 f156:=Tryz.func109.trans (congrArg some (by kernel_rfl))
 f165:=Tryz.func144.trans (congrArg some (by kernel_rfl))
 f166:=Tryz.func145.trans (congrArg some (by kernel_rfl))
 f169:=Tryz.func146.trans (congrArg some (by kernel_rfl))
 f240:=Tryz.func177.trans (congrArg some (by kernel_rfl))
 f241:=Tryz.func178.trans (congrArg some (by kernel_rfl))
 f276:=Tryz.func209.trans (congrArg some (by kernel_rfl))
 f277:=Tryz.func210.trans (congrArg some (by kernel_rfl))
 t0:=Tryz.underlying0
 a0:=Tryz.isAgg0
 z0:=Tryz.sizeOf0
 v0:=Tryz.zeroValue0
 t3:=Tryz.underlying3
 a3:=Tryz.isAgg3
 z3:=Tryz.sizeOf3
 v3:=Tryz.zeroValue3
 t4:=Tryz.underlying4
 a4:=Tryz.isAgg4
 z4:=Tryz.sizeOf4
 v4:=Tryz.zeroValue4
 t9:=Tryz.underlying9
 a9:=Tryz.isAgg9
 z9:=Tryz.sizeOf9
 v9:=Tryz.zeroValue9
 t20:=Tryz.underlying20
 a20:=Tryz.isAgg20
 z20:=Tryz.sizeOf20
 v20:=Tryz.zeroValue20
 t31:=Tryz.underlying50
 a31:=Tryz.isAgg50
 z31:=Tryz.sizeOf50
 v31:=Tryz.zeroValue50
 t37:=Tryz.underlying98
 a37:=Tryz.isAgg98
 z37:=Tryz.sizeOf98
 v37:=Tryz.zeroValue98
 t70:=Tryz.underlying143
 a70:=Tryz.isAgg143
 z70:=Tryz.sizeOf143
 v70:=Tryz.zeroValue143
 t72:=Tryz.underlying145
 a72:=Tryz.isAgg145
 z72:=Tryz.sizeOf145
 v72:=Tryz.zeroValue145
 t75:=Tryz.underlying148
 a75:=Tryz.isAgg148
 z75:=Tryz.sizeOf148
 v75:=Tryz.zeroValue148
 t76:=Tryz.underlying149
 a76:=Tryz.isAgg149
 z76:=Tryz.sizeOf149
 v76:=Tryz.zeroValue149
 t127:=Tryz.underlying181
 a127:=Tryz.isAgg181
 z127:=Tryz.sizeOf181
 v127:=Tryz.zeroValue181
 t164:=Tryz.underlying207
 a164:=Tryz.isAgg207
 z164:=Tryz.sizeOf207
 v164:=Tryz.zeroValue207}
theorem Tryz.Builder_Extra_156:Builder.Extra Tryz.prog Tryz.lays156_ren:={
 sizeBuilder:=by kernel_rfl
 liesBuilder:=by kernel_rfl
 t5:=Tryz.underlying5
 a5:=Tryz.isAgg5
 z5:=Tryz.sizeOf5
 v5:=Tryz.zeroValue5
 infoByte:=by kernel_rfl
 cellsByte:=by kernel_rfl
 sizeByte:=by kernel_rfl
 neB5:=by decide}
open Go.RowKit in
theorem Tryz.strings_Join_none (a:Option Addr) (c:Nat) (sep:ByteArray) (w:World):
 Calls Tryz.prog 109 #[.slice a 0 c,.string sep] w fun e w'=>e=.returned (.string ⟨#[]⟩)∧w'=w:=Any.strings_Join_none Tryz.lays156 Tryz.Builder_Extra_156 a c sep w
open Go.RowKit in
theorem Tryz.strings_Join (bk o c:Nat) (xs:List ByteArray) (sep:ByteArray) (w:World) (hcells:∀(j:Nat) x,xs[j]?=some x→w.cell? ⟨bk,o+j,none⟩=some (.string x)) (hbk:bk<w.heap.size) (hN:xs.length≤140737488355328) (hcap:xs.length≤c) (hlen:(Lib.join (xs.map (·.data.toList)) sep.data.toList).length≤140737488355328):
 Calls Tryz.prog 109 #[.slice (some ⟨bk,o,none⟩) xs.length c,.string sep] w fun e w'=>e=.returned (.string ⟨(Lib.join (xs.map (·.data.toList)) sep.data.toList).toArray⟩)∧Below w.heap.size w w':=Any.strings_Join Tryz.lays156 Tryz.Builder_Extra_156 bk o c xs sep w hcells hbk hN hcap hlen
def Tryz.lays137_ren:Go.Shelf.Ren:=⟨fun|137=>114|217=>151|266=>182|n=>n,fun|9=>9|5=>5|3=>3|n=>n,fun|n=>n⟩
theorem Tryz.lays137:Go.Proofs.Lays.n137 Tryz.prog Tryz.lays137_ren:={
 mixed:=by kernel_rfl
 f137:=Tryz.func114.trans (congrArg some (by kernel_rfl))
 f217:=Tryz.func151.trans (congrArg some (by kernel_rfl))
 f266:=Tryz.func182.trans (congrArg some (by kernel_rfl))
 t3:=Tryz.underlying3
 a3:=Tryz.isAgg3
 z3:=Tryz.sizeOf3
 v3:=Tryz.zeroValue3
 t5:=Tryz.underlying5
 a5:=Tryz.isAgg5
 z5:=Tryz.sizeOf5
 v5:=Tryz.zeroValue5
 t9:=Tryz.underlying9
 a9:=Tryz.isAgg9
 z9:=Tryz.sizeOf9
 v9:=Tryz.zeroValue9}
open Go.RowKit in
theorem Tryz.strings_IndexByte (s:ByteArray) (c:Int) (w:World):
 Calls Tryz.prog 114 #[.string s,.int .u8 c] w fun e w'=>e=.returned (.int .i64 (Lib.indexByte s.data.toList c.toNat.toUInt8))∧w'=w:=Any.strings_IndexByte Tryz.lays137 s c w
def Tryz.lays146_ren:Go.Shelf.Ren:=⟨fun|146=>117|221=>153|268=>184|138=>174|143=>162|195=>206|197=>175|218=>207|219=>183|260=>208|217=>151|225=>194|224=>193|267=>226|266=>182|314=>243|n=>n,fun|9=>9|31=>50|3=>3|4=>4|0=>0|105=>125|21=>21|5=>5|46=>155|119=>231|139=>234|138=>233|146=>248|51=>237|n=>n,fun|1=>2|3=>3|4=>4|n=>n⟩
theorem Tryz.lays146:Go.Proofs.Lays.n146 Tryz.prog Tryz.lays146_ren:={
 mixed:=by kernel_rfl
 f138:=Tryz.func174.trans (congrArg some (by kernel_rfl))
 f143:=Tryz.func162.trans (congrArg some (by kernel_rfl))
 f146:=Tryz.func117.trans (congrArg some (by kernel_rfl))
 f195:=Tryz.func206.trans (congrArg some (by kernel_rfl))
 f197:=Tryz.func175.trans (congrArg some (by kernel_rfl))
 f217:=Tryz.func151.trans (congrArg some (by kernel_rfl))
 f218:=Tryz.func207.trans (congrArg some (by kernel_rfl))
 f219:=Tryz.func183.trans (congrArg some (by kernel_rfl))
 f221:=Tryz.func153.trans (congrArg some (by kernel_rfl))
 f224:=Tryz.func193.trans (congrArg some (by kernel_rfl))
 f225:=Tryz.func194.trans (congrArg some (by kernel_rfl))
 f260:=Tryz.func208.trans (congrArg some (by kernel_rfl))
 f266:=Tryz.func182.trans (congrArg some (by kernel_rfl))
 f267:=Tryz.func226.trans (congrArg some (by kernel_rfl))
 f268:=Tryz.func184.trans (congrArg some (by kernel_rfl))
 f314:=Tryz.func243.trans (congrArg some (by kernel_rfl))
 t0:=Tryz.underlying0
 a0:=Tryz.isAgg0
 z0:=Tryz.sizeOf0
 v0:=Tryz.zeroValue0
 t3:=Tryz.underlying3
 a3:=Tryz.isAgg3
 z3:=Tryz.sizeOf3
 v3:=Tryz.zeroValue3
 t4:=Tryz.underlying4
 a4:=Tryz.isAgg4
 z4:=Tryz.sizeOf4
 v4:=Tryz.zeroValue4
 t5:=Tryz.underlying5
 a5:=Tryz.isAgg5
 z5:=Tryz.sizeOf5
 v5:=Tryz.zeroValue5
 t9:=Tryz.underlying9
 a9:=Tryz.isAgg9
 z9:=Tryz.sizeOf9
 v9:=Tryz.zeroValue9
 t21:=Tryz.underlying21
 a21:=Tryz.isAgg21
 z21:=Tryz.sizeOf21
 v21:=Tryz.zeroValue21
 t31:=Tryz.underlying50
 a31:=Tryz.isAgg50
 z31:=Tryz.sizeOf50
 v31:=Tryz.zeroValue50
 t46:=Tryz.underlying155
 a46:=Tryz.isAgg155
 z46:=Tryz.sizeOf155
 v46:=Tryz.zeroValue155
 t51:=Tryz.underlying237
 a51:=Tryz.isAgg237
 z51:=Tryz.sizeOf237
 v51:=Tryz.zeroValue237
 t105:=Tryz.underlying125
 a105:=Tryz.isAgg125
 z105:=Tryz.sizeOf125
 v105:=Tryz.zeroValue125
 t119:=Tryz.underlying231
 a119:=Tryz.isAgg231
 z119:=Tryz.sizeOf231
 t138:=Tryz.underlying233
 a138:=Tryz.isAgg233
 z138:=Tryz.sizeOf233
 v138:=Tryz.zeroValue233
 t139:=Tryz.underlying234
 a139:=Tryz.isAgg234
 z139:=Tryz.sizeOf234
 v139:=Tryz.zeroValue234
 t146:=Tryz.underlying248
 a146:=Tryz.isAgg248
 z146:=Tryz.sizeOf248
 v146:=Tryz.zeroValue248
 g1:=by kernel_rfl
 g3:=by kernel_rfl
 g4:=by kernel_rfl}
open Go.RowKit Go.Lib in
theorem Tryz.strings_Split (s sep:ByteArray) (m:Int) (w:World) (hs:s.size<4294967281) (hm:w.cell? ⟨2,0,none⟩=some (.int .i64 m)) (h1:1≤sep.size):
 Calls Tryz.prog 117 #[.string s,.string sep] w fun e w'=>
  e=.returned (.slice (some ⟨w.heap.size,0,none⟩) (Lib.countB s sep+1) (Lib.countB s sep+1))∧w'=w.alloc (.cells ((Lib.splitB sep 0 (Lib.countB s sep) s).map Value.string).toArray 9):=Any.strings_Split Tryz.lays146 (by kernel_rfl) s sep m w hs hm h1
end Go.Proofs
namespace Go.Proofs.YtfjpkfhbmldmfaaGreatDoor
open Go.RowKit
set_option maxRecDepth 100000 in
theorem build_six (l:List Nat) (hl:l.length=16):Array.foldl (fun (cs:Array Value) (x:Value×Nat)=>cs.setIfInBounds (2+x.snd) x.fst) #[.int .i64 3,.string ⟨#[]⟩,.int .u8 0,.int .u8 0,.int .u8 0,.int .u8 0,.int .u8 0,.int .u8 0,.int .u8 0,.int .u8 0,.int .u8 0,.int .u8 0,.int .u8 0,.int .u8 0,.int .u8 0,.int .u8 0,.int .u8 0,.int .u8 0] (bytesV l).zipIdx 0 16=hostC ⟨3,[],l⟩:=by
 match l,hl with
 |[a0,a1,a2,a3,a4,a5,a6,a7,a8,a9,a10,a11,a12,a13,a14,a15],_=>first|kernel_rfl|(simp[bytesV,hostC])
theorem index_colon:∀l:List UInt8,Lib.indexByte l 58=match colonAt l with|some k=>(k:Int)|none=> -1
 |[]=>rfl
 |c::r=>by
  rw[Lib.indexByte,colonAt,index_colon r]
  by_cases hc:c=58
  ·rw[if_pos hc,if_pos (by rw[hc];rfl)]
   rfl
  ·rw[if_neg hc,if_neg (by simpa using hc)]
   cases colonAt r with
   |none=>rfl
   |some k=>
    dsimp only[Option.map_some]
    rw[if_neg (by simp)]
    rfl
theorem host_tag (t:ByteArray):hostV ⟨4,t.data.toList,z16⟩=.agg #[.int .i64 4,.string t,.int .u8 0,.int .u8 0,.int .u8 0,.int .u8 0,.int .u8 0,.int .u8 0,.int .u8 0,.int .u8 0,.int .u8 0,.int .u8 0,.int .u8 0,.int .u8 0,.int .u8 0,.int .u8 0,.int .u8 0,.int .u8 0]:=by
 show Value.agg #[.int .i64 4,.string ⟨t.data.toList.toArray⟩,.int .u8 0,.int .u8 0,.int .u8 0,.int .u8 0,.int .u8 0,.int .u8 0,.int .u8 0,.int .u8 0,.int .u8 0,.int .u8 0,.int .u8 0,.int .u8 0,.int .u8 0,.int .u8 0,.int .u8 0,.int .u8 0]=_
 rw[Array.toArray_toList]
theorem lastIs_is (l:List UInt8):lastIs l 93=decide (l.getLast?=some 93):=by
 unfold lastIs
 cases l.getLast? with
 |none=>rfl
 |some c=>rw[Bool.eq_iff_iff];simp
theorem v6V_is (r:Except Nat (List Nat)):v6V r=.tuple #[.agg (bytesV (addrOf 16 r)),.agg (spotV (spotOf r))]:=by
 cases r<;>rfl
theorem v4V_is (r:Except Nat (List Nat)):v4V r=.tuple #[.agg (bytesV (addrOf 4 r)),.agg (spotV (spotOf r))]:=by
 cases r<;>rfl
theorem addr6_len (s:List UInt8):(addrOf 16 (v6 s)).length=16:=by
 cases h:v6 s with
 |ok x=>exact(v6_ok s x h).1
 |error p=>exact List.length_replicate
theorem addr4_four (s:List UInt8):∃a b c d,addrOf 4 (v4 s)=[a,b,c,d]:=by
 cases h:v4 s with
 |ok x=>
  obtain⟨a,b,c,d,rfl,_⟩:=v4_four' s x h
  exact⟨a,b,c,d,rfl⟩
 |error p=>exact⟨0,0,0,0,rfl⟩
theorem inner_ext (s:ByteArray):(s.extract 1 (s.size - 1)).data.toList=(s.data.toList.drop 1).take (s.size - 2):=by
 rw[ext_list,List.drop_take]
 congr 1
structure LtS (w:World) (a:Nat) (wr:World):Prop where
 r1:Lies wr w.heap.size #[.int .i64 0,.string ⟨#[]⟩,.int .u8 0,.int .u8 0,.int .u8 0,.int .u8 0,.int .u8 0,.int .u8 0,.int .u8 0,.int .u8 0,.int .u8 0,.int .u8 0,.int .u8 0,.int .u8 0,.int .u8 0,.int .u8 0,.int .u8 0,.int .u8 0] 25
 r2:Lies wr (w.heap.size+1) #[.int .i64 0,.int .i64 0] 32
 pa:Lies wr (w.heap.size+2) #[.int .i64 (a:Nat)] 3
 below:Below w.heap.size w wr
theorem LtS.later {w wr wx:World} {a:Nat} (h:LtS w a wr) (hb:Below wr.heap.size wr wx):LtS w a wx:=
 ⟨h.r1.below hb h.r1.lt,h.r2.below hb h.r2.lt,h.pa.below hb h.pa.lt,h.below.trans (hb.mono (Nat.le_of_lt h.r1.lt))⟩
theorem LtS.setA {w wr:World} {a:Nat} (h:LtS w a wr) (m:Nat):LtS w m (wr.setCell ⟨w.heap.size+2,0,none⟩ (.int .i64 (m:Nat))):=
 ⟨h.r1.set_other (a:=⟨w.heap.size+2,0,none⟩) (by show w.heap.size≠w.heap.size+2;omega) _,h.r2.set_other (a:=⟨w.heap.size+2,0,none⟩) (by show w.heap.size+1≠w.heap.size+2;omega) _,h.pa.set 0 _,h.below.setCell (p:=⟨w.heap.size+2,0,none⟩) (by show w.heap.size≤w.heap.size+2;omega) _⟩
theorem lt_ret {w wr:World} (x:Ho) (hx:x.a.length=16) (e:Nat×Nat) (R:Ending→World→Prop) (tmps:Array Value) (h1:Lies wr w.heap.size #[.int .i64 0,.string ⟨#[]⟩,.int .u8 0,.int .u8 0,.int .u8 0,.int .u8 0,.int .u8 0,.int .u8 0,.int .u8 0,.int .u8 0,.int .u8 0,.int .u8 0,.int .u8 0,.int .u8 0,.int .u8 0,.int .u8 0,.int .u8 0,.int .u8 0] 25) (h2:Lies wr (w.heap.size+1) #[.int .i64 0,.int .i64 0] 32) (hp:tmps.getD 2 undef=.pointer (some ⟨w.heap.size,0,none⟩)) (hq:tmps.getD 3 undef=.pointer (some ⟨w.heap.size+1,0,none⟩))
  (hR:R (.returned (.tuple #[hostV x,.agg (spotV e)])) ((wr.setRow w.heap.size (hostC x)).setRow (w.heap.size+1) (spotV e))):bodyPost Tryz.prog Tryz.f130 R .ret {tmps:=tmps,defers:=[]} ((wr.setRow w.heap.size (hostC x)).setRow (w.heap.size+1) (spotV e)):=
 bodyPost_ret (ret_host (x:=x) (e:=e) (p:=2) (q:=3) (by kernel_rfl) rfl rfl rfl rfl tmps _ w.heap.size (w.heap.size+1) hx hp hq ((h1.row _).row_other (by omega) _) ((h2.row_other (by omega) _).row _)) rfl hR
set_option maxHeartbeats 8000000 in
set_option maxRecDepth 100000 in
theorem lit_any (s:ByteArray) (te:TypeId) (pe:Value) (w:World) (ht:Table w) (hg:0<w.heap.size) (hv:w.cell? ⟨8,0,none⟩=some (.iface te pe)) (h91:s.data.toList.head?=some 91) (hs:s.size≤140737488355328):
  Calls Tryz.prog 130 #[.string s] w fun e w'=>e=.returned (.tuple #[hostV (lit s.data.toList).1,.agg (spotV (lit s.data.toList).2)])∧Below w.heap.size w w':=by
 have HT:Hid (∀wx,Below w.heap.size w wx→Table wx):=fun wx hb=>ht.below hg hb
 have HG:Hid (∀wx,Below w.heap.size w wx→0<wx.heap.size):=fun wx hb=>Nat.lt_of_lt_of_le hg hb.size
 have HES:Hid (∀wx,Below w.heap.size w wx→wx.cell? ⟨8,0,none⟩=some (.iface te pe)):=fun wx hb=>(hb.cell (p:=⟨8,0,none⟩) (World.block_lt_of_cell? w _ hv)).trans hv
 have L1:Hid (Lies ((w.alloc (.cells #[.int .i64 0,.string ⟨#[]⟩,.int .u8 0,.int .u8 0,.int .u8 0,.int .u8 0,.int .u8 0,.int .u8 0,.int .u8 0,.int .u8 0,.int .u8 0,.int .u8 0,.int .u8 0,.int .u8 0,.int .u8 0,.int .u8 0,.int .u8 0,.int .u8 0] 25)).alloc (.cells #[.int .i64 0,.int .i64 0] 32)) w.heap.size #[.int .i64 0,.string ⟨#[]⟩,.int .u8 0,.int .u8 0,.int .u8 0,.int .u8 0,.int .u8 0,.int .u8 0,.int .u8 0,.int .u8 0,.int .u8 0,.int .u8 0,.int .u8 0,.int .u8 0,.int .u8 0,.int .u8 0,.int .u8 0,.int .u8 0] 25):=(Lies.new w _ _).alloc _
 have L2:Hid (Lies ((w.alloc (.cells #[.int .i64 0,.string ⟨#[]⟩,.int .u8 0,.int .u8 0,.int .u8 0,.int .u8 0,.int .u8 0,.int .u8 0,.int .u8 0,.int .u8 0,.int .u8 0,.int .u8 0,.int .u8 0,.int .u8 0,.int .u8 0,.int .u8 0,.int .u8 0,.int .u8 0] 25)).alloc (.cells #[.int .i64 0,.int .i64 0] 32)) (w.heap.size+1) #[.int .i64 0,.int .i64 0] 32):=new_one w _ _ _
 have HB:Hid (Below w.heap.size w ((w.alloc (.cells #[.int .i64 0,.string ⟨#[]⟩,.int .u8 0,.int .u8 0,.int .u8 0,.int .u8 0,.int .u8 0,.int .u8 0,.int .u8 0,.int .u8 0,.int .u8 0,.int .u8 0,.int .u8 0,.int .u8 0,.int .u8 0,.int .u8 0,.int .u8 0,.int .u8 0] 25)).alloc (.cells #[.int .i64 0,.int .i64 0] 32))):=((Below.refl _ _).alloc (Nat.le_refl _) _).alloc (by simp) _
 have HLEN:=len_list s
 have H91:Hid (s.data.toList.head?=some 91):=h91
 have hs1:1≤s.size:=by
  rcases Nat.eq_zero_or_pos s.size with h|h
  ·rw[←HLEN]at h
   rw[List.eq_nil_of_length_eq_zero h]at h91
   cases h91
  ·exact h
 clear ht hg hv h91
 go_enter Tryz.func130,Tryz.ntmps130
 go_upto_region 1 with fail
 have HSZ:Hid (((w.alloc (.cells #[.int .i64 0,.string ⟨#[]⟩,.int .u8 0,.int .u8 0,.int .u8 0,.int .u8 0,.int .u8 0,.int .u8 0,.int .u8 0,.int .u8 0,.int .u8 0,.int .u8 0,.int .u8 0,.int .u8 0,.int .u8 0,.int .u8 0,.int .u8 0,.int .u8 0] 25)).alloc (.cells #[.int .i64 0,.int .i64 0] 32)).heap.size=w.heap.size+2):=by show _=_;simp
 generalize (w.alloc (.cells #[.int .i64 0,.string ⟨#[]⟩,.int .u8 0,.int .u8 0,.int .u8 0,.int .u8 0,.int .u8 0,.int .u8 0,.int .u8 0,.int .u8 0,.int .u8 0,.int .u8 0,.int .u8 0,.int .u8 0,.int .u8 0,.int .u8 0,.int .u8 0,.int .u8 0] 25)).alloc (.cells #[.int .i64 0,.int .i64 0] 32)=wA at L1 L2 HB HSZ ⊢
 have hzA:=L2.out.lt
 by_cases h255:255<s.size
 ·have HV:Hid (lit s.data.toList=(ho0,(82,255))):=by
   show _=_
   unfold lit
   rw[if_pos (by rw[HLEN];exact h255)]
  have h255':(255:Int)<(s.size:Int):=by omega
  clear HLEN
  go_wp2_with (first|(refine wpList_store_row rfl 25 _ _ rfl w.heap.size rfl _ #[.int .i64 0,.string ⟨#[]⟩,.int .u8 0,.int .u8 0,.int .u8 0,.int .u8 0,.int .u8 0,.int .u8 0,.int .u8 0,.int .u8 0,.int .u8 0,.int .u8 0,.int .u8 0,.int .u8 0,.int .u8 0,.int .u8 0,.int .u8 0,.int .u8 0] rfl 25 L1.out infoHo rfl (by simp[Value.oneCell']) rfl ?_)|(refine wpList_store_row rfl 32 _ _ rfl (w.heap.size+1) rfl _ #[.int .i64 82,.int .i64 255] rfl 32 (L2.out.row_other (by omega) _) infoSp rfl (by simp[Value.oneCell']) rfl ?_))
  exact lt_ret ho0 rfl (82,255) _ _ L1.out L2.out rfl rfl ⟨by rw[HV.out],below_row (below_row HB.out (Nat.le_refl _) _) (by omega) _⟩
 have h255':¬(255:Int)<(s.size:Int):=by omega
 have HLS:=hass_one s 93 wA (by unfold maxLen;omega)
 rw[lastIs_is]at HLS
 by_cases h93:s.data.toList.getLast?=some 93
 case neg=>
  have HV:Hid (lit s.data.toList=(ho0,(82,s.size))):=by
   show _=_
   unfold lit
   rw[if_neg (by rw[HLEN];exact h255),if_pos h93,HLEN]
  rw[decide_eq_false h93]at HLS
  have HLS2:Hid (Calls Tryz.prog 169 #[.string s,.string ⟨#[93]⟩] wA fun e w'=>e=.returned (.bool false)∧w'=wA):=HLS
  clear HLEN HLS h93
  go_wp2_with fail
  refine HLS2.out.mono ?_
  rintro e w1 ⟨rfl,rfl⟩
  clear HLS2
  go_wp2_with (first|(refine wpList_store_row rfl 25 _ _ rfl w.heap.size rfl _ #[.int .i64 0,.string ⟨#[]⟩,.int .u8 0,.int .u8 0,.int .u8 0,.int .u8 0,.int .u8 0,.int .u8 0,.int .u8 0,.int .u8 0,.int .u8 0,.int .u8 0,.int .u8 0,.int .u8 0,.int .u8 0,.int .u8 0,.int .u8 0,.int .u8 0] rfl 25 L1.out infoHo rfl (by simp[Value.oneCell']) rfl ?_)|(refine wpList_store_row rfl 32 _ _ rfl (w.heap.size+1) rfl _ #[.int .i64 82,.int .i64 (s.size:Int)] rfl 32 (L2.out.row_other (by omega) _) infoSp rfl (by simp[Value.oneCell']) rfl ?_))
  exact lt_ret ho0 rfl (82,s.size) _ _ L1.out L2.out rfl rfl ⟨by rw[HV.out],below_row (below_row HB.out (Nat.le_refl _) _) (by omega) _⟩
 rw[decide_eq_true h93]at HLS
 have HLS2:Hid (Calls Tryz.prog 169 #[.string s,.string ⟨#[93]⟩] wA fun e w'=>e=.returned (.bool true)∧w'=wA):=HLS
 have hs2:2≤s.size:=by
  rcases Nat.lt_or_ge s.size 2 with h|h
  ·have h1:s.data.toList.length=1:=by omega
   match hl:s.data.toList,h1 with
   |[c],_=>
    rw[hl]at h93
    have:=H91.out
    rw[hl]at this
    simp at h93 this
    rw[h93]at this
    exact absurd this (by decide)
  ·exact h
 obtain⟨t,htd⟩:∃t:ByteArray,t=s.extract 1 (s.size - 1):=⟨_,rfl⟩
 have htl:t.data.toList=(s.data.toList.drop 1).take (s.size - 2):=by rw[htd];exact inner_ext s
 have hts:t.size≤253:=by
  rw[←len_list t,htl,List.length_take,List.length_drop,HLEN]
  omega
 have HV:Hid (lit s.data.toList=if sixB t.data.toList=true then told 6 ⟨3,[],addrOf 16 (v6 (t.data.toList.drop 5))⟩ (spotOf (v6 (t.data.toList.drop 5)))
   else match colonAt t.data.toList with
    |some k=>told 1 ⟨4,t.data.toList,z16⟩ (tagged t.data.toList k)
    |none=>told 1 (fourH (addrOf 4 (v4 t.data.toList))) (spotOf (v4 t.data.toList))):=by
  show _=_
  unfold lit
  rw[HLEN,if_neg h255,if_neg (by simpa using h93),←htl]
  rfl
 have HS0:Hid (LtS w 1 (wA.alloc (.cells #[.int .i64 1] 3))):=by
  have hsz:wA.heap.size=w.heap.size+2:=HSZ.out
  refine⟨L1.out.alloc _,L2.out.alloc _,?_,HB.out.alloc (by omega) _⟩
  have:=Lies.new wA #[.int .i64 1] 3
  rw[hsz]at this
  exact this
 have htx:s.extract 1 (s.size - 1)=t:=htd.symm
 have hn1:(1:Int)≤(s.size:Int) - 1:=by omega
 clear HLEN HLS h93 htl htd H91
 go_wp2_with fail
 refine HLS2.out.mono ?_
 rintro e w1 ⟨rfl,rfl⟩
 clear HLS2
 go_upto_region 7 with fail
 have hszA:=HSZ.out
 rw[hszA]
 generalize w1.alloc (.cells #[.int .i64 1] 3)=wB at HS0 ⊢
 clear HSZ L1 L2 HB hzA hszA htx hn1 w1
 go_wp2_with fail
 refine(six_any t _).mono ?_
 rintro e w2 ⟨rfl,hb2⟩
 have HS2:Hid (LtS w 1 w2):=HS0.out.later hb2
 clear hb2 HS0 wB
 have hc2:=HS2.out.pa.cell 0
 have hf2:=HS2.out.pa.frozen 0
 have hz2:=HS2.out.pa.lt
 simp at hc2
 obtain⟨b6,hb6⟩:∃b,b=sixB t.data.toList:=⟨_,rfl⟩
 have HB6:Hid (b6=sixB t.data.toList):=hb6
 have HV1:=HV.out
 rw[←hb6]at HV1 ⊢
 clear hb6 HV
 cases b6
 case true=>
  have h5:5≤t.size:=by
   have:=HB6.out
   unfold sixB at this
   rw[len_list]at this
   simp at this
   exact this.1
  rw[if_pos rfl]at HV1
  have HVV:Hid (lit s.data.toList=told 6 ⟨3,[],addrOf 16 (v6 (t.data.toList.drop 5))⟩ (spotOf (v6 (t.data.toList.drop 5)))):=HV1
  have h5':(5:Int)≤(t.size:Int):=by omega
  have HS3:Hid (LtS w 6 (w2.setCell ⟨w.heap.size+2,0,none⟩ (.int .i64 6))):=HS2.out.setA 6
  have hl16:=addr6_len (t.data.toList.drop 5)
  have hsp:(spotOf (v6 (t.data.toList.drop 5))).2≤1000000000000:=by
   cases h:v6 (t.data.toList.drop 5) with
   |ok x=>exact Nat.zero_le _
   |error p=>
    have:=v6_le _ p h
    rw[List.length_drop,len_list]at this
    show p≤_
    omega
  have HV6:Hid (∀wx,Below w.heap.size w wx→Calls Tryz.prog 171 #[.string (t.extract 5 t.size)] wx fun e w'=>e=.returned (.tuple #[.agg (bytesV (addrOf 16 (v6 (t.data.toList.drop 5)))),.agg (spotV (spotOf (v6 (t.data.toList.drop 5))))])∧Below wx.heap.size wx w'):=fun wx hb=>by
   have:=v6_any (t.extract 5 t.size) te pe wx (HT.out wx hb) (HG.out wx hb) (HES.out wx hb) (by rw[ByteArray.size_extract];omega)
   rw[ext_drop,v6V_is]at this
   exact this
  generalize addrOf 16 (v6 (t.data.toList.drop 5))=l at HVV hl16 HV6
  generalize spotOf (v6 (t.data.toList.drop 5))=sp at HVV hsp HV6
  clear HV1 HB6 HS2
  go_upto_region 9 with fail
  generalize w2.setCell ⟨w.heap.size+2,0,none⟩ (.int .i64 6)=w3 at HS3 ⊢
  clear hc2 hf2 hz2 w2
  go_wp2_with fail
  refine(HV6.out _ HS3.out.below).mono ?_
  rintro e w4 ⟨rfl,hb4⟩
  have HS4:Hid (LtS w 6 w4):=HS3.out.later hb4
  clear hb4 HS3 HV6 w3
  have hzz:=HS4.out.pa.lt
  have K1:Hid (Lies ((w4.alloc (.cells #[.int .u8 0,.int .u8 0,.int .u8 0,.int .u8 0,.int .u8 0,.int .u8 0,.int .u8 0,.int .u8 0,.int .u8 0,.int .u8 0,.int .u8 0,.int .u8 0,.int .u8 0,.int .u8 0,.int .u8 0,.int .u8 0] 23)).alloc (.cells #[.int .i64 0,.int .i64 0] 32)) w4.heap.size #[.int .u8 0,.int .u8 0,.int .u8 0,.int .u8 0,.int .u8 0,.int .u8 0,.int .u8 0,.int .u8 0,.int .u8 0,.int .u8 0,.int .u8 0,.int .u8 0,.int .u8 0,.int .u8 0,.int .u8 0,.int .u8 0] 23):=(Lies.new w4 _ _).alloc _
  have K2:Hid (Lies ((w4.alloc (.cells #[.int .u8 0,.int .u8 0,.int .u8 0,.int .u8 0,.int .u8 0,.int .u8 0,.int .u8 0,.int .u8 0,.int .u8 0,.int .u8 0,.int .u8 0,.int .u8 0,.int .u8 0,.int .u8 0,.int .u8 0,.int .u8 0] 23)).alloc (.cells #[.int .i64 0,.int .i64 0] 32)) (w4.heap.size+1) #[.int .i64 0,.int .i64 0] 32):=new_one w4 _ _ _
  have K3:Hid (Below w4.heap.size w4 ((w4.alloc (.cells #[.int .u8 0,.int .u8 0,.int .u8 0,.int .u8 0,.int .u8 0,.int .u8 0,.int .u8 0,.int .u8 0,.int .u8 0,.int .u8 0,.int .u8 0,.int .u8 0,.int .u8 0,.int .u8 0,.int .u8 0,.int .u8 0] 23)).alloc (.cells #[.int .i64 0,.int .i64 0] 32))):=((Below.refl _ _).alloc (Nat.le_refl _) _).alloc (by simp) _
  have hbs:(bytesV l).size=16:=by rw[bytesV_size,hl16]
  have M1:Hid (Lies ((((w4.alloc (.cells #[.int .u8 0,.int .u8 0,.int .u8 0,.int .u8 0,.int .u8 0,.int .u8 0,.int .u8 0,.int .u8 0,.int .u8 0,.int .u8 0,.int .u8 0,.int .u8 0,.int .u8 0,.int .u8 0,.int .u8 0,.int .u8 0] 23)).alloc (.cells #[.int .i64 0,.int .i64 0] 32)).setRow w4.heap.size (bytesV l)).setRow (w4.heap.size+1) (spotV sp)) w4.heap.size (bytesV l) 23):=(K1.out.row _).row_other (by omega) _
  have M2:Hid (Lies ((((w4.alloc (.cells #[.int .u8 0,.int .u8 0,.int .u8 0,.int .u8 0,.int .u8 0,.int .u8 0,.int .u8 0,.int .u8 0,.int .u8 0,.int .u8 0,.int .u8 0,.int .u8 0,.int .u8 0,.int .u8 0,.int .u8 0,.int .u8 0] 23)).alloc (.cells #[.int .i64 0,.int .i64 0] 32)).setRow w4.heap.size (bytesV l)).setRow (w4.heap.size+1) (spotV sp)) (w4.heap.size+1) (spotV sp) 32):=(K2.out.row_other (by omega) _).row _
  have M3:Hid (LtS w 6 ((((w4.alloc (.cells #[.int .u8 0,.int .u8 0,.int .u8 0,.int .u8 0,.int .u8 0,.int .u8 0,.int .u8 0,.int .u8 0,.int .u8 0,.int .u8 0,.int .u8 0,.int .u8 0,.int .u8 0,.int .u8 0,.int .u8 0,.int .u8 0] 23)).alloc (.cells #[.int .i64 0,.int .i64 0] 32)).setRow w4.heap.size (bytesV l)).setRow (w4.heap.size+1) (spotV sp))):=HS4.out.later (below_row (below_row K3.out (Nat.le_refl _) _) (by omega) _)
  go_upto_region 10 with(first|(refine wpList_store_row rfl 23 _ _ rfl w4.heap.size rfl _ (bytesV l) rfl 23 K1.out (by rw[hbs];exact info16) (by rw[hbs];rfl) (bytesV_one _) rfl ?_)|(refine wpList_store_row rfl 32 _ _ rfl (w4.heap.size+1) rfl _ (spotV sp) rfl 32 (K2.out.row_other (by omega) _) infoSp rfl (by simp[spotV,Value.oneCell']) rfl ?_))
  generalize (((w4.alloc (.cells #[.int .u8 0,.int .u8 0,.int .u8 0,.int .u8 0,.int .u8 0,.int .u8 0,.int .u8 0,.int .u8 0,.int .u8 0,.int .u8 0,.int .u8 0,.int .u8 0,.int .u8 0,.int .u8 0,.int .u8 0,.int .u8 0] 23)).alloc (.cells #[.int .i64 0,.int .i64 0] 32)).setRow w4.heap.size (bytesV l)).setRow (w4.heap.size+1) (spotV sp)=w5 at M1 M2 M3 ⊢
  clear K1 K2 K3 HS4
  have HBD:Hid _:=build_six l hl16
  have hc6:=M3.out.pa.cell 0
  have HTO:Hid (Calls Tryz.prog 170 #[hostV ⟨3,[],l⟩,.agg (spotV sp),.pointer (some ⟨w.heap.size+2,0,none⟩)] w5 fun en w'=>en=.returned (.tuple #[hostV (told 6 ⟨3,[],l⟩ sp).1,.agg (spotV (told 6 ⟨3,[],l⟩ sp).2)])∧Below w5.heap.size w5 w'):=told_any ⟨3,[],l⟩ hl16 sp (w.heap.size+2) 6 w5 hc6 (by omega)
  have hxl:=told_len (p:=6) (h:=⟨3,[],l⟩) (e:=sp) hl16
  obtain⟨x,hx⟩:∃x,x=(told 6 ⟨3,[],l⟩ sp).1:=⟨_,rfl⟩
  obtain⟨sq,hsq⟩:∃sq,sq=(told 6 ⟨3,[],l⟩ sp).2:=⟨_,rfl⟩
  rw[←hx]at HTO hxl
  rw[←hsq]at HTO
  have HVV2:Hid (lit s.data.toList=(x,sq)):=by show _=_;rw[HVV.out,hx,hsq]
  clear HVV hx hsq hc6
  have HVV:=HVV2
  clear HVV2
  go_wp2_with (first|(refine wpList_load_row rfl 23 _ rfl w4.heap.size rfl (bytesV l) 23 _ M1.out Tryz.underlying23 rfl (by rw[hbs];exact info16) ?_)|(refine wpList_load_row rfl 32 _ rfl (w4.heap.size+1) rfl (spotV sp) 32 _ M2.out Tryz.underlying32 rfl infoSp ?_))
  rw[HBD.out]
  refine HTO.out.mono ?_
  rintro e w6 ⟨rfl,hb6⟩
  have HS6:Hid (LtS w 6 w6):=M3.out.later hb6
  clear hb6 M1 M2 M3 HTO HBD
  have hz6:=HS6.out.pa.lt
  go_wp2_with (first|(refine wpList_store_row rfl 25 _ _ rfl w.heap.size rfl _ (hostC (x)) rfl 25 HS6.out.r1 (by rw[hostC_size _ hxl];exact infoHo) (by rw[hostC_size _ hxl];rfl) (hostC_one _) rfl ?_)|(refine wpList_store_row rfl 32 _ _ rfl (w.heap.size+1) rfl _ (spotV sq) rfl 32 (HS6.out.r2.row_other (by omega) _) infoSp rfl (by simp[spotV,Value.oneCell']) rfl ?_))
  exact lt_ret (x) hxl sq _ _ HS6.out.r1 HS6.out.r2 rfl rfl ⟨by rw[HVV.out],below_row (below_row HS6.out.below (Nat.le_refl _) _) (by omega) _⟩
 case false=>
  rw[if_neg (by decide)]at HV1
  have HV2:Hid _:=HV1
  clear HV1 HB6
  have HIX:=Tryz.strings_IndexByte t 58 w2
  rw[show(58:Int).toNat.toUInt8=58 from rfl,index_colon]at HIX
  cases hcol:colonAt t.data.toList with
  |some k=>
   rw[hcol]at HIX
   have HV3:=HV2.out
   rw[hcol]at HV3
   dsimp only at HV3
   have hk:k<t.size:=by
    have:=(colonAt_some hcol).1
    rw[len_list]at this
    exact this
   have HIX2:Hid (Calls Tryz.prog 114 #[.string t,.int .u8 58] w2 fun e w'=>e=.returned (.int .i64 (k:Int))∧w'=w2):=HIX
   have HWT:Hid (Calls Tryz.prog 140 #[.string t,.int .i64 (k:Nat)] w2 fun e w'=>e=.returned (.agg (spotV (tagged t.data.toList k)))∧Below w2.heap.size w2 w'):=wt_any t k w2 (HT.out _ HS2.out.below) (HG.out _ HS2.out.below) hk (by omega)
   have htg:=tagged_le t.data.toList k (by rw[len_list];exact hk)
   rw[len_list]at htg
   have HTO:Hid (∀wx,LtS w 1 wx→Calls Tryz.prog 170 #[.agg #[.int .i64 4,.string t,.int .u8 0,.int .u8 0,.int .u8 0,.int .u8 0,.int .u8 0,.int .u8 0,.int .u8 0,.int .u8 0,.int .u8 0,.int .u8 0,.int .u8 0,.int .u8 0,.int .u8 0,.int .u8 0,.int .u8 0,.int .u8 0],.agg (spotV (tagged t.data.toList k)),.pointer (some ⟨w.heap.size+2,0,none⟩)] wx fun en w'=>en=.returned (.tuple #[hostV (told 1 ⟨4,t.data.toList,z16⟩ (tagged t.data.toList k)).1,.agg (spotV (told 1 ⟨4,t.data.toList,z16⟩ (tagged t.data.toList k)).2)])∧Below wx.heap.size wx w'):=fun wx hwx=>by
    have:=told_any ⟨4,t.data.toList,z16⟩ rfl (tagged t.data.toList k) (w.heap.size+2) 1 wx (hwx.pa.cell 0) (by omega)
    rw[host_tag]at this
    exact this
   have hxl:=told_len (p:=1) (h:=⟨4,t.data.toList,z16⟩) (e:=tagged t.data.toList k) rfl
   generalize tagged t.data.toList k=sp at HWT htg HTO hxl HV3
   obtain⟨x,hx⟩:∃x,x=(told 1 ⟨4,t.data.toList,z16⟩ sp).1:=⟨_,rfl⟩
   obtain⟨sq,hsq⟩:∃sq,sq=(told 1 ⟨4,t.data.toList,z16⟩ sp).2:=⟨_,rfl⟩
   rw[←hx]at HTO hxl
   rw[←hsq]at HTO
   have HVV:Hid (lit s.data.toList=(x,sq)):=by show _=_;rw[HV3,hx,hsq]
   have hk0:(0:Int)≤(k:Int):=by omega
   clear HV3 HV2 HIX hx hsq hcol
   go_wp2_with fail
   refine HIX2.out.mono ?_
   rintro e w3 ⟨rfl,rfl⟩
   go_wp2_with fail
   refine HWT.out.mono ?_
   rintro e w5 ⟨rfl,hb5⟩
   have HS5:Hid (LtS w 1 w5):=HS2.out.later hb5
   clear hb5 HWT HIX2 HS2 hc2 hf2 hz2
   go_wp2_with fail
   refine(HTO.out _ HS5.out).mono ?_
   rintro e w6 ⟨rfl,hb6⟩
   have HS6:Hid (LtS w 1 w6):=HS5.out.later hb6
   clear hb6 HTO HS5
   have hz6:=HS6.out.pa.lt
   go_wp2_with (first|(refine wpList_store_row rfl 25 _ _ rfl w.heap.size rfl _ (hostC (x)) rfl 25 HS6.out.r1 (by rw[hostC_size _ hxl];exact infoHo) (by rw[hostC_size _ hxl];rfl) (hostC_one _) rfl ?_)|(refine wpList_store_row rfl 32 _ _ rfl (w.heap.size+1) rfl _ (spotV sq) rfl 32 (HS6.out.r2.row_other (by omega) _) infoSp rfl (by simp[spotV,Value.oneCell']) rfl ?_))
   exact lt_ret (x) hxl sq _ _ HS6.out.r1 HS6.out.r2 rfl rfl ⟨by rw[HVV.out],below_row (below_row HS6.out.below (Nat.le_refl _) _) (by omega) _⟩
  |none=>
   rw[hcol]at HIX
   have HV3:=HV2.out
   rw[hcol]at HV3
   dsimp only at HV3
   have HIX2:Hid (Calls Tryz.prog 114 #[.string t,.int .u8 58] w2 fun e w'=>e=.returned (.int .i64 (-1))∧w'=w2):=HIX
   have HV4:Hid (Calls Tryz.prog 172 #[.string t] w2 fun e w'=>e=.returned (.tuple #[.agg (bytesV (addrOf 4 (v4 t.data.toList))),.agg (spotV (spotOf (v4 t.data.toList)))])∧Below w2.heap.size w2 w'):=by
    have:=v4_any t w2 (HT.out _ HS2.out.below) (HG.out _ HS2.out.below) (by omega)
    rw[v4V_is]at this
    exact this
   have hsp:(spotOf (v4 t.data.toList)).2≤1000000000000:=by
    cases h:v4 t.data.toList with
    |ok x=>exact Nat.zero_le _
    |error p=>
     have:=v4_le' _ p h
     rw[len_list]at this
     show p≤_
     omega
   obtain⟨q0,q1,q2,q3,hq⟩:=addr4_four t.data.toList
   rw[hq]at HV3 HV4
   have HTO:Hid (∀wx,LtS w 1 wx→Calls Tryz.prog 170 #[hostV (fourH [q0,q1,q2,q3]),.agg (spotV (spotOf (v4 t.data.toList))),.pointer (some ⟨w.heap.size+2,0,none⟩)] wx fun en w'=>en=.returned (.tuple #[hostV (told 1 (fourH [q0,q1,q2,q3]) (spotOf (v4 t.data.toList))).1,.agg (spotV (told 1 (fourH [q0,q1,q2,q3]) (spotOf (v4 t.data.toList))).2)])∧Below wx.heap.size wx w'):=fun wx hwx=>
    told_any (fourH [q0,q1,q2,q3]) rfl _ (w.heap.size+2) 1 wx (hwx.pa.cell 0) (by omega)
   have hxl:=told_len (p:=1) (h:=fourH [q0,q1,q2,q3]) (e:=spotOf (v4 t.data.toList)) rfl
   generalize spotOf (v4 t.data.toList)=sp at HV4 hsp HTO hxl HV3
   obtain⟨x,hx⟩:∃x,x=(told 1 (fourH [q0,q1,q2,q3]) sp).1:=⟨_,rfl⟩
   obtain⟨sq,hsq⟩:∃sq,sq=(told 1 (fourH [q0,q1,q2,q3]) sp).2:=⟨_,rfl⟩
   rw[←hx]at HTO hxl
   rw[←hsq]at HTO
   have HVV:Hid (lit s.data.toList=(x,sq)):=by show _=_;rw[HV3,hx,hsq]
   have HFH:Hid (∀wx,Calls Tryz.prog 102 #[.agg #[.int .u8 (q0:Nat),.int .u8 (q1:Nat),.int .u8 (q2:Nat),.int .u8 (q3:Nat)]] wx fun e w'=>e=.returned (hostV (fourH [q0,q1,q2,q3]))∧Below wx.heap.size wx w'):=fun wx=>fh_any q0 q1 q2 q3 wx
   have HV5:Hid (Calls Tryz.prog 172 #[.string t] w2 fun e w'=>e=.returned (.tuple #[.agg #[.int .u8 (q0:Nat),.int .u8 (q1:Nat),.int .u8 (q2:Nat),.int .u8 (q3:Nat)],.agg #[.int .i64 (sp.1:Nat),.int .i64 (sp.2:Nat)]])∧Below w2.heap.size w2 w'):=HV4
   generalize hostV (fourH [q0,q1,q2,q3])=hv4 at HTO HFH
   clear HV3 HV2 HIX hx hsq hcol hq HV4
   go_wp2_with fail
   refine HIX2.out.mono ?_
   rintro e w3 ⟨rfl,rfl⟩
   go_wp2_with fail
   refine HV5.out.mono ?_
   rintro e w4 ⟨rfl,hb4⟩
   have HS4:Hid (LtS w 1 w4):=HS2.out.later hb4
   have HZ4:Hid (w.heap.size+2<w4.heap.size):=HS4.out.pa.lt
   clear hb4 HV5 HIX2 HS2 hc2 hf2 hz2
   have M1:Hid (Lies ((w4.alloc (.cells #[.int .u8 (q0:Nat),.int .u8 (q1:Nat),.int .u8 (q2:Nat),.int .u8 (q3:Nat)] 108)).alloc (.cells #[.int .i64 (sp.1:Nat),.int .i64 (sp.2:Nat)] 32)) w4.heap.size #[.int .u8 (q0:Nat),.int .u8 (q1:Nat),.int .u8 (q2:Nat),.int .u8 (q3:Nat)] 108):=(Lies.new w4 _ _).alloc _
   have M2:Hid (Lies ((w4.alloc (.cells #[.int .u8 (q0:Nat),.int .u8 (q1:Nat),.int .u8 (q2:Nat),.int .u8 (q3:Nat)] 108)).alloc (.cells #[.int .i64 (sp.1:Nat),.int .i64 (sp.2:Nat)] 32)) (w4.heap.size+1) #[.int .i64 (sp.1:Nat),.int .i64 (sp.2:Nat)] 32):=new_one w4 _ _ _
   have M3:Hid (LtS w 1 ((w4.alloc (.cells #[.int .u8 (q0:Nat),.int .u8 (q1:Nat),.int .u8 (q2:Nat),.int .u8 (q3:Nat)] 108)).alloc (.cells #[.int .i64 (sp.1:Nat),.int .i64 (sp.2:Nat)] 32))):=HS4.out.later (((Below.refl _ _).alloc (Nat.le_refl _) _).alloc (by simp) _)
   go_upto_region 15 with fail
   generalize (w4.alloc (.cells #[.int .u8 (q0:Nat),.int .u8 (q1:Nat),.int .u8 (q2:Nat),.int .u8 (q3:Nat)] 108)).alloc (.cells #[.int .i64 (sp.1:Nat),.int .i64 (sp.2:Nat)] 32)=w5 at M1 M2 M3 ⊢
   clear HS4
   have HSV:Hid (∀wx,Below w5.heap.size w5 wx→wx.cell? ⟨w4.heap.size,0,none⟩=some (.int .u8 (q0:Int))∧wx.cell? ⟨w4.heap.size,1,none⟩=some (.int .u8 (q1:Int))∧wx.cell? ⟨w4.heap.size,2,none⟩=some (.int .u8 (q2:Int))∧wx.cell? ⟨w4.heap.size,3,none⟩=some (.int .u8 (q3:Int))∧wx.cell? ⟨w4.heap.size+1,0,none⟩=some (.int .i64 (sp.1:Int))∧wx.cell? ⟨w4.heap.size+1,1,none⟩=some (.int .i64 (sp.2:Int))):=fun wx hb=>by
    have h1:=M1.out.below hb M1.out.lt
    have h2:=M2.out.below hb M2.out.lt
    exact⟨h1.cell 0,h1.cell 1,h1.cell 2,h1.cell 3,h2.cell 0,h2.cell 1⟩
   have hS0:=HSV.out w5.drew (Below.refl _ w5).drew
   have hz4:w.heap.size+2<w4.heap.size:=HZ4.out
   refine wp_region_late (fun wx=>wx.cell? ⟨w4.heap.size,0,none⟩=some (.int .u8 (q0:Int))∧wx.cell? ⟨w4.heap.size,1,none⟩=some (.int .u8 (q1:Int))∧wx.cell? ⟨w4.heap.size,2,none⟩=some (.int .u8 (q2:Int))∧wx.cell? ⟨w4.heap.size,3,none⟩=some (.int .u8 (q3:Int))∧wx.cell? ⟨w4.heap.size+1,0,none⟩=some (.int .i64 (sp.1:Int))∧wx.cell? ⟨w4.heap.size+1,1,none⟩=some (.int .i64 (sp.2:Int))) 9 (by kernel_rfl) hS0 (fun hHeld=>?_)
   refine wpAnyE_tk (i:=0) (d:=some 65) (v:=?_) rfl (by kernel_rfl) (by kernel_rfl) (by kernel_rfl) rfl (fun _ _ _ h=>h) rfl rfl ?hy (by first|assumption|go_simp) ?_
   case hy=>(intro w' hSw;(try dsimp only at hSw);go_simp<;>(first|with_reducible rfl|omega|skip))
   simp only[Act.put,pA,pB,pC]
   refine wpAnyE_tk (i:=1) (d:=some 66) (v:=.agg #[.int .u8 (q0:Int),.int .u8 (q1:Int),.int .u8 (q2:Int),.int .u8 (q3:Int)]) rfl (by kernel_rfl) (by kernel_rfl) (by kernel_rfl) rfl (fun _ _ _ h=>h) rfl rfl ?hy (by first|assumption|go_simp) ?_
   case hy=>(intro w' hSw;(try dsimp only at hSw);go_simp<;>(first|with_reducible rfl|omega|skip))
   simp only[Act.put,pA,pB,pC]
   refine wpAnyE_tk (i:=3) (d:=some 68) (v:=.agg #[.int .i64 (sp.1:Int),.int .i64 (sp.2:Int)]) rfl (by kernel_rfl) (by kernel_rfl) (by kernel_rfl) rfl (fun _ _ _ h=>h) rfl rfl ?hy (by first|assumption|go_simp) ?_
   case hy=>(intro w' hSw;(try dsimp only at hSw);go_simp<;>(first|with_reducible rfl|omega|skip))
   simp only[Act.put,pA,pB,pC]
   refine on9 2 ?_
   go_simp
   refine Calls.mono (HFH.out _) ?_
   rintro e w6 ⟨rfl,hb6⟩
   have hb6':Below w5.heap.size w5 w6:=(Below.refl _ w5).drew.trans hb6
   refine⟨HSV.out _ hb6',?_⟩
   have M6:=M3.out.later hb6'
   refine on9 4 ?_
   go_simp
   refine Calls.mono (HTO.out _ M6) ?_
   rintro e w7 ⟨rfl,hb7⟩
   have hb7':Below w5.heap.size w5 w7:=hb6'.trans (hb7.mono hb6'.size)
   refine⟨HSV.out _ hb7',?_⟩
   have HS6:Hid (LtS w 1 w7):=M3.out.later hb7'
   have hh7:=HSV.out _ hb7'
   clear hHeld hS0 HFH HTO
   refine wpAnyE_tk (i:=5) (d:=some 70) (v:=hostV x) rfl (by kernel_rfl) (by kernel_rfl) (by kernel_rfl) rfl (fun _ _ _ h=>h) rfl rfl ?hy (by first|assumption|go_simp) ?_
   case hy=>(intro w' hSw;(try dsimp only at hSw);go_simp<;>(first|with_reducible rfl|omega|skip))
   simp only[Act.put,pA,pB,pC]
   refine wpAnyE_tk (i:=6) (d:=some 71) (v:=.agg (spotV sq)) rfl (by kernel_rfl) (by kernel_rfl) (by kernel_rfl) rfl (fun _ _ _ h=>h) rfl rfl ?hy (by first|assumption|go_simp) ?_
   case hy=>(intro w' hSw;(try dsimp only at hSw);go_simp<;>(first|with_reducible rfl|omega|skip))
   simp only[Act.put,pA,pB,pC]
   have N1:=M1.out.below hb7' M1.out.lt
   have N2:=M2.out.below hb7' M2.out.lt
   refine on9 7 ?_
   refine oper_store_row 25 _ _ rfl w.heap.size rfl #[.int .i64 0,.string ⟨#[]⟩,.int .u8 0,.int .u8 0,.int .u8 0,.int .u8 0,.int .u8 0,.int .u8 0,.int .u8 0,.int .u8 0,.int .u8 0,.int .u8 0,.int .u8 0,.int .u8 0,.int .u8 0,.int .u8 0,.int .u8 0,.int .u8 0] (hostC x) rfl 25 HS6.out.r1 (by rw[hostC_size _ hxl];exact infoHo) (by rw[hostC_size _ hxl];rfl) (hostC_one _) rfl ?_
   have N3:=N1.row_other (show w4.heap.size≠w.heap.size by omega) (hostC x)
   have N4:=N2.row_other (show w4.heap.size+1≠w.heap.size by omega) (hostC x)
   refine⟨Or.inr ⟨N3.cell 0,N3.cell 1,N3.cell 2,N3.cell 3,N4.cell 0,N4.cell 1⟩,?_⟩
   refine on9 8 ?_
   refine oper_store_row 32 _ _ rfl (w.heap.size+1) rfl #[.int .i64 0,.int .i64 0] (spotV sq) rfl 32 (HS6.out.r2.row_other (by omega) _) infoSp rfl (by simp[spotV,Value.oneCell']) rfl ?_
   have N5:=N3.row_other (show w4.heap.size≠w.heap.size+1 by omega) (spotV sq)
   have N6:=N4.row_other (show w4.heap.size+1≠w.heap.size+1 by omega) (spotV sq)
   refine⟨Or.inr ⟨N5.cell 0,N5.cell 1,N5.cell 2,N5.cell 3,N6.cell 0,N6.cell 1⟩,?_⟩
   refine wpAnyE_done (by kernel_rfl) ?_ _
   clear hh7 N1 N2 N3 N4 N5 N6
   go_wp2
   exact lt_ret x hxl sq _ _ HS6.out.r1 HS6.out.r2 rfl rfl ⟨by rw[HVV.out],below_row (below_row HS6.out.below (Nat.le_refl _) _) (by omega) _⟩
end Go.Proofs.YtfjpkfhbmldmfaaGreatDoor
