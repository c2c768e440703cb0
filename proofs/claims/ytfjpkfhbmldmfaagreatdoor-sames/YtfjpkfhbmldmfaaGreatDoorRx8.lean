/-
  The library's further contracts on strings, laid at this program.
-/
import Derived.Shelf.Strings.Builder1
import Derived.Shelf.Strings.Builder2
import Derived.Shelf.Strings.OnBuilder
import Derived.Shelf.Strings.Search1
import Derived.Shelf.Strings.Search2
import Derived.Shelf.Strings.Search3
import Derived.Shelf.Strings.Cut
import Derived.Shelf.Strings.Count
import Derived.Shelf.Strings.Shaped
import Derived.Shelf.Strings.Repeat
import Derived.Shelf.Small.Bits
import Derived.Shelf.Small.Strs
import Derived.Shelf.Bits.Mul64
import Derived.Test.YtfjpkfhbmldmfaaGreatDoorProg
import Derived.Test.YtfjpkfhbmldmfaaGreatDoorRUn
import Derived.Test.YtfjpkfhbmldmfaaGreatDoorRPu
import Derived.Test.YtfjpkfhbmldmfaaGreatDoorCu8
namespace Go.Proofs
def Tryz.lays145_ren:Go.Shelf.Ren:=⟨fun|145=>116|220=>152|219=>183|217=>151|225=>194|224=>193|267=>226|266=>182|314=>243|n=>n,fun|9=>9|4=>4|59=>118|3=>3|5=>5|46=>155|146=>248|51=>237|n=>n,fun|1=>2|n=>n⟩
theorem Tryz.lays145:Go.Proofs.Lays.n145 Tryz.prog Tryz.lays145_ren:={
 mixed:=by kernel_rfl
 f145:=Tryz.func116.trans (congrArg some (by kernel_rfl))
 f217:=Tryz.func151.trans (congrArg some (by kernel_rfl))
 f219:=Tryz.func183.trans (congrArg some (by kernel_rfl))
 f220:=Tryz.func152.trans (congrArg some (by kernel_rfl))
 f224:=Tryz.func193.trans (congrArg some (by kernel_rfl))
 f225:=Tryz.func194.trans (congrArg some (by kernel_rfl))
 f266:=Tryz.func182.trans (congrArg some (by kernel_rfl))
 f267:=Tryz.func226.trans (congrArg some (by kernel_rfl))
 f314:=Tryz.func243.trans (congrArg some (by kernel_rfl))
 t3:=Tryz.underlying3
 a3:=Tryz.isAgg3
 z3:=Tryz.sizeOf3
 v3:=Tryz.zeroValue3
 t4:=Tryz.underlying4
 a4:=Tryz.isAgg4
 z4:=Tryz.sizeOf4
 v4:=Tryz.zeroValue4
 t5:=Tryz.underlying5
 a5:=Tryz.isAgg5
 z5:=Tryz.sizeOf5
 v5:=Tryz.zeroValue5
 t9:=Tryz.underlying9
 a9:=Tryz.isAgg9
 z9:=Tryz.sizeOf9
 v9:=Tryz.zeroValue9
 t46:=Tryz.underlying155
 a46:=Tryz.isAgg155
 z46:=Tryz.sizeOf155
 v46:=Tryz.zeroValue155
 t51:=Tryz.underlying237
 a51:=Tryz.isAgg237
 z51:=Tryz.sizeOf237
 v51:=Tryz.zeroValue237
 t59:=Tryz.underlying118
 a59:=Tryz.isAgg118
 z59:=Tryz.sizeOf118
 v59:=Tryz.zeroValue118
 t146:=Tryz.underlying248
 a146:=Tryz.isAgg248
 z146:=Tryz.sizeOf248
 v146:=Tryz.zeroValue248
 g1:=by kernel_rfl}
open Go.RowKit Go.Lib in
theorem Tryz.strings_Cut (s sep:ByteArray) (m:Int) (w:World) (hs:s.size<4294967281) (hm:w.cell? ⟨2,0,none⟩=some (.int .i64 m)):
 Calls Tryz.prog 116 #[.string s,.string sep] w fun e w'=>e=.returned (.tuple #[.string ⟨(Lib.cut s.data.toList sep.data.toList).1.toArray⟩,.string ⟨(Lib.cut s.data.toList sep.data.toList).2.1.toArray⟩,.bool (Lib.cut s.data.toList sep.data.toList).2.2])∧∃n,w'=w.drewN n:=Any.strings_Cut Tryz.lays145 s sep m w hs hm
end Go.Proofs
namespace Go.Proofs.YtfjpkfhbmldmfaaGreatDoor
open Go.RowKit
def cellsS (L:List (List UInt8)):List Value:=L.map fun x=>Value.string ⟨x.toArray⟩
theorem info9:(Tryz.prog.info? 9).map (fun i=>(i.zero,i.size,i.bytes))=some (some (.string ⟨#[]⟩),1,16):=by kernel_rfl
theorem info_partsG {e:TypeId} {z:Value} {n b:Nat} (h:(Tryz.prog.info? e).map (fun i=>(i.zero,i.size,i.bytes))=some (some z,n,b)):∃i,Tryz.prog.info? e=some i∧i.zero=some z∧i.size=n∧i.bytes=b:=by
 cases hq:Tryz.prog.info? e with
 |none=>rw[hq]at h;cases h
 |some i=>
  rw[hq]at h
  simp at h
  exact⟨i,rfl,h.1,h.2.1,h.2.2⟩
theorem wpList_append_str {ops:Array Oper} {rest:List Oper} {o:Oper} {a:Act} {w:World} {Q:Exit→Act→World→Prop} (hgd:o.guard=none) (s x:Operand)
  (ho:o.op=.call {callee:=.builtin .append,args:=#[s,x],argTypes:=#[50,50]}) (base:Nat) (v:Value) (n:Nat) (xs:List (List UInt8)) (hs:a.eval s=v) (hown:w.ownsRow base 9 1 v n (cellsS xs))
  (g:Nat) (y:List UInt8) (c:Nat) (hx:a.eval x=.slice (some ⟨g,0,none⟩) 1 c) (hb:w.cell? ⟨g,0,none⟩=some (.string ⟨y.toArray⟩)) (hbytes:(n+1)*16≤140737488355328) (hbase:base≤w.heap.size)
  (h:∀v' w',w'.ownsRow base 9 1 v' (n+1) (cellsS (xs++[y]))→w.grownBy w' v.ownBlock→wpList Tryz.prog ops Q rest (a.put o.dst v') w'):wpList Tryz.prog ops Q (o::rest) a w:=by
 obtain⟨i0,hi,hz0,hz1,hz2⟩:=info_partsG info9
 refine wpList_append_own _ hgd s x 50 ho base 9 i0 (.string ⟨#[]⟩) 1 16 Tryz.underlying50 hi hz0 hz1 hz2 rfl (by decide) v n _ hs hown ⟨g,0,none⟩ 1 c (cellsS [y]) hx rfl (fun j u hu=>?_) (fun v hv=>?_) (by unfold maxLen;omega) hbytes hbase ?_
 ·cases j with
  |zero=>
   obtain rfl:Value.string ⟨y.toArray⟩=u:=by simpa [cellsS] using hu
   exact hb
  |succ j=>simp[cellsS]at hu
 ·obtain rfl:v=Value.string ⟨y.toArray⟩:=by simpa [cellsS] using hv
  rfl
 ·intro v' w' hown' hgrow _
  exact h v' w' (by unfold cellsS at hown' ⊢;rw[List.map_append];exact hown') hgrow
theorem own_strs {w:World} {base n:Nat} {v:Value} {L:List (List UInt8)} (h:w.ownsRow base 9 1 v n (cellsS L)) (hL:L≠[]):∃g cap,v=.slice (some ⟨g,0,none⟩) L.length cap∧L.length≤cap∧base≤g∧g<w.heap.size∧∀(j:Nat) x,(L.map fun l=>(⟨l.toArray⟩:ByteArray))[j]?=some x→w.cell? ⟨g,0+j,none⟩=some (.string x):=by
 obtain⟨h1,h2⟩:=id h
 have hl:L.length=n:=by simp[cellsS]at h1;omega
 rcases h2 with⟨rfl,h0⟩|⟨g,cap,cur,rfl,hb,hg,hcap,_⟩
 ·exact absurd (List.eq_nil_of_length_eq_zero (hl.trans h0)) hL
 ·subst hl
  refine⟨g,cap,rfl,hcap,hb,(Array.getElem?_eq_some_iff.1 hg).1,fun j x hx=>?_⟩
  rw[List.getElem?_map]at hx
  obtain⟨l,hl,rfl⟩:=Option.map_eq_some_iff.1 hx
  have hj:j<L.length:=(List.getElem?_eq_some_iff.1 hl).1
  have:=h.cellAt j (by omega)
  rw[Nat.zero_add,this]
  unfold cellsS
  rw[List.getElem?_map,hl]
  rfl
theorem join_own {w:World} {base n:Nat} {v:Value} {L:List (List UInt8)} (h:w.ownsRow base 9 1 v n (cellsS L)) (hL:L≠[]) (sep:ByteArray) (hz:L.length≤1000000) (hlen:(joinL sep.data.toList L).length≤140737488355328):
  Calls Tryz.prog 109 #[v,.string sep] w fun e w'=>e=.returned (.string ⟨(joinL sep.data.toList L).toArray⟩)∧Below w.heap.size w w':=by
 obtain⟨g,cap,rfl,hc,_,hg,hcells⟩:=own_strs h hL
 have:=Tryz.strings_Join g 0 cap (L.map fun l=>(⟨l.toArray⟩:ByteArray)) sep w hcells hg (by rw[List.length_map];omega) (by rw[List.length_map];exact hc) (by rw[texts_back,join_joinL];exact hlen)
 rw[texts_back,join_joinL,List.length_map]at this
 exact this
theorem decR_32 (l:List UInt8):∀x∈decR l, -2147483648≤x∧x≤2147483647:=fun x hx=>by
 unfold decR at hx
 split at hx
 ·cases hx
 ·obtain⟨h1,h2,_⟩:=decL_isR l x hx
  omega
set_option maxHeartbeats 8000000 in
set_option maxRecDepth 100000 in
theorem raE_any (h:Ho) (ok:h.Ok) (w:World) (hn:h.n.length≤140737488351232) (hck:¬check h true=0):
  Calls Tryz.prog 82 #[hostV h] w fun e w'=>e=.returned (ascV (ascii asciiL h))∧Below w.heap.size w w':=by
 have ha:=ok.len
 have hsz:=hostC_size h ha
 obtain⟨HC,hHC⟩:∃HC,HC=hostC h:=⟨_,rfl⟩
 have e1:hostV h=.agg HC:=by rw[hHC];rfl
 have HHC:Hid (HC=hostC h):=hHC
 rw[←hHC]at hsz
 have L1:Hid (Lies ((w.alloc (.cells HC 25)).alloc (.cells #[.int .i64 0,.string ⟨#[]⟩,.int .u8 0,.int .u8 0,.int .u8 0,.int .u8 0,.int .u8 0,.int .u8 0,.int .u8 0,.int .u8 0,.int .u8 0,.int .u8 0,.int .u8 0,.int .u8 0,.int .u8 0,.int .u8 0,.int .u8 0,.int .u8 0] 25)) w.heap.size HC 25):=(Lies.new w _ _).alloc _
 have L2:Hid (Lies ((w.alloc (.cells HC 25)).alloc (.cells #[.int .i64 0,.string ⟨#[]⟩,.int .u8 0,.int .u8 0,.int .u8 0,.int .u8 0,.int .u8 0,.int .u8 0,.int .u8 0,.int .u8 0,.int .u8 0,.int .u8 0,.int .u8 0,.int .u8 0,.int .u8 0,.int .u8 0,.int .u8 0,.int .u8 0] 25)) (w.heap.size+1) #[.int .i64 0,.string ⟨#[]⟩,.int .u8 0,.int .u8 0,.int .u8 0,.int .u8 0,.int .u8 0,.int .u8 0,.int .u8 0,.int .u8 0,.int .u8 0,.int .u8 0,.int .u8 0,.int .u8 0,.int .u8 0,.int .u8 0,.int .u8 0,.int .u8 0] 25):=new_one w _ _ _
 have HB:Hid (Below w.heap.size w ((w.alloc (.cells HC 25)).alloc (.cells #[.int .i64 0,.string ⟨#[]⟩,.int .u8 0,.int .u8 0,.int .u8 0,.int .u8 0,.int .u8 0,.int .u8 0,.int .u8 0,.int .u8 0,.int .u8 0,.int .u8 0,.int .u8 0,.int .u8 0,.int .u8 0,.int .u8 0,.int .u8 0,.int .u8 0] 25))):=((Below.refl _ _).alloc (Nat.le_refl _) _).alloc (by simp) _
 have HCK:Hid (∀wx,Calls Tryz.prog 70 #[.agg HC,.bool true] wx fun e w'=>e=.returned (.int .i64 (check h true:Nat))∧Below wx.heap.size wx w'):=fun wx=>by
  rw[←e1]
  exact rcheck_any h ha true wx hn
 rw[e1]
 clear hHC e1
 go_enter Tryz.func82,Tryz.ntmps82
 go_upto_region 1 with fail
 generalize (w.alloc (.cells HC 25)).alloc (.cells #[.int .i64 0,.string ⟨#[]⟩,.int .u8 0,.int .u8 0,.int .u8 0,.int .u8 0,.int .u8 0,.int .u8 0,.int .u8 0,.int .u8 0,.int .u8 0,.int .u8 0,.int .u8 0,.int .u8 0,.int .u8 0,.int .u8 0,.int .u8 0,.int .u8 0] 25)=wA at L1 L2 HB ⊢
 go_wp2_with (refine wpList_load_row rfl 25 _ rfl w.heap.size rfl HC 25 _ L1.out Tryz.underlying25 rfl (by rw[hsz];exact infoHo) ?_)
 refine(HCK.out _).mono ?_
 rintro e w1 ⟨rfl,hb1⟩
 have K1:Hid (Lies w1 w.heap.size HC 25):=L1.out.below hb1 L1.out.lt
 have K2:Hid (Lies w1 (w.heap.size+1) #[.int .i64 0,.string ⟨#[]⟩,.int .u8 0,.int .u8 0,.int .u8 0,.int .u8 0,.int .u8 0,.int .u8 0,.int .u8 0,.int .u8 0,.int .u8 0,.int .u8 0,.int .u8 0,.int .u8 0,.int .u8 0,.int .u8 0,.int .u8 0,.int .u8 0] 25):=L2.out.below hb1 L2.out.lt
 have KB:Hid (Below w.heap.size w w1):=HB.out.trans (hb1.mono (Nat.le_of_lt L1.out.lt))
 clear hb1 L1 L2 HB HCK
 have hz1:=K2.out.lt
 have K1h:Lies w1 w.heap.size (hostC h) 25:=by rw[←HHC.out];exact K1.out
 obtain⟨c0,c1⟩:=host_cells K1h
 have hf1:=K1h.frozen 1
 have HV:Hid (ascii asciiL h=(ho0,check h true)):=by show _=_;unfold ascii;rw[if_neg hck]
 have hck':((check h true:Int)==0)=false:=by rw[beq_eq_false_iff_ne];omega
 have hck2:((check h true:Int) != 0)=true:=by rw[bne,hck'];rfl
 generalize check h true=ck at HV hck' hck2 ⊢
 clear hck
 go_wp2_with (refine wpList_store_row rfl 25 _ _ rfl (w.heap.size+1) rfl _ #[.int .i64 0,.string ⟨#[]⟩,.int .u8 0,.int .u8 0,.int .u8 0,.int .u8 0,.int .u8 0,.int .u8 0,.int .u8 0,.int .u8 0,.int .u8 0,.int .u8 0,.int .u8 0,.int .u8 0,.int .u8 0,.int .u8 0,.int .u8 0,.int .u8 0] rfl 25 K2.out infoHo rfl (by simp[Value.oneCell']) rfl ?_)
 exact bodyPost_ret (results_mix (p:=2) (q:=3) (by kernel_rfl) _ _ (w.heap.size+1) ho0 rfl (.int .i64 (ck:Int)) rfl rfl (K2.out.row _)) rfl ⟨by rw[HV.out];rfl,below_row KB.out (by omega) _⟩
set_option maxHeartbeats 8000000 in
set_option maxRecDepth 100000 in
theorem raO_any (h:Ho) (ok:h.Ok) (w:World) (hn:h.n.length≤140737488351232) (hck:check h true=0) (k1:¬h.k=1) (k4:¬h.k=4):
  Calls Tryz.prog 82 #[hostV h] w fun e w'=>e=.returned (ascV (ascii asciiL h))∧Below w.heap.size w w':=by
 have ha:=ok.len
 have hsz:=hostC_size h ha
 obtain⟨HC,hHC⟩:∃HC,HC=hostC h:=⟨_,rfl⟩
 have e1:hostV h=.agg HC:=by rw[hHC];rfl
 have HHC:Hid (HC=hostC h):=hHC
 rw[←hHC]at hsz
 have L1:Hid (Lies ((w.alloc (.cells HC 25)).alloc (.cells #[.int .i64 0,.string ⟨#[]⟩,.int .u8 0,.int .u8 0,.int .u8 0,.int .u8 0,.int .u8 0,.int .u8 0,.int .u8 0,.int .u8 0,.int .u8 0,.int .u8 0,.int .u8 0,.int .u8 0,.int .u8 0,.int .u8 0,.int .u8 0,.int .u8 0] 25)) w.heap.size HC 25):=(Lies.new w _ _).alloc _
 have L2:Hid (Lies ((w.alloc (.cells HC 25)).alloc (.cells #[.int .i64 0,.string ⟨#[]⟩,.int .u8 0,.int .u8 0,.int .u8 0,.int .u8 0,.int .u8 0,.int .u8 0,.int .u8 0,.int .u8 0,.int .u8 0,.int .u8 0,.int .u8 0,.int .u8 0,.int .u8 0,.int .u8 0,.int .u8 0,.int .u8 0] 25)) (w.heap.size+1) #[.int .i64 0,.string ⟨#[]⟩,.int .u8 0,.int .u8 0,.int .u8 0,.int .u8 0,.int .u8 0,.int .u8 0,.int .u8 0,.int .u8 0,.int .u8 0,.int .u8 0,.int .u8 0,.int .u8 0,.int .u8 0,.int .u8 0,.int .u8 0,.int .u8 0] 25):=new_one w _ _ _
 have HB:Hid (Below w.heap.size w ((w.alloc (.cells HC 25)).alloc (.cells #[.int .i64 0,.string ⟨#[]⟩,.int .u8 0,.int .u8 0,.int .u8 0,.int .u8 0,.int .u8 0,.int .u8 0,.int .u8 0,.int .u8 0,.int .u8 0,.int .u8 0,.int .u8 0,.int .u8 0,.int .u8 0,.int .u8 0,.int .u8 0,.int .u8 0] 25))):=((Below.refl _ _).alloc (Nat.le_refl _) _).alloc (by simp) _
 have HCK:Hid (∀wx,Calls Tryz.prog 70 #[.agg HC,.bool true] wx fun e w'=>e=.returned (.int .i64 (check h true:Nat))∧Below wx.heap.size wx w'):=fun wx=>by
  rw[←e1]
  exact rcheck_any h ha true wx hn
 rw[e1]
 clear hHC e1
 go_enter Tryz.func82,Tryz.ntmps82
 go_upto_region 1 with fail
 generalize (w.alloc (.cells HC 25)).alloc (.cells #[.int .i64 0,.string ⟨#[]⟩,.int .u8 0,.int .u8 0,.int .u8 0,.int .u8 0,.int .u8 0,.int .u8 0,.int .u8 0,.int .u8 0,.int .u8 0,.int .u8 0,.int .u8 0,.int .u8 0,.int .u8 0,.int .u8 0,.int .u8 0,.int .u8 0] 25)=wA at L1 L2 HB ⊢
 go_wp2_with (refine wpList_load_row rfl 25 _ rfl w.heap.size rfl HC 25 _ L1.out Tryz.underlying25 rfl (by rw[hsz];exact infoHo) ?_)
 refine(HCK.out _).mono ?_
 rintro e w1 ⟨rfl,hb1⟩
 have K1:Hid (Lies w1 w.heap.size HC 25):=L1.out.below hb1 L1.out.lt
 have K2:Hid (Lies w1 (w.heap.size+1) #[.int .i64 0,.string ⟨#[]⟩,.int .u8 0,.int .u8 0,.int .u8 0,.int .u8 0,.int .u8 0,.int .u8 0,.int .u8 0,.int .u8 0,.int .u8 0,.int .u8 0,.int .u8 0,.int .u8 0,.int .u8 0,.int .u8 0,.int .u8 0,.int .u8 0] 25):=L2.out.below hb1 L2.out.lt
 have KB:Hid (Below w.heap.size w w1):=HB.out.trans (hb1.mono (Nat.le_of_lt L1.out.lt))
 clear hb1 L1 L2 HB HCK
 have hz1:=K2.out.lt
 have K1h:Lies w1 w.heap.size (hostC h) 25:=by rw[←HHC.out];exact K1.out
 obtain⟨c0,c1⟩:=host_cells K1h
 have hf1:=K1h.frozen 1
 have k1':(h.k==1)=false:=by rw[beq_eq_false_iff_ne];exact k1
 have k1c:(h.k != 1)=true:=by rw[bne,k1'];rfl
 have k4':(h.k==4)=false:=by rw[beq_eq_false_iff_ne];exact k4
 have HV:Hid (ascii asciiL h=(h,0)):=by show _=_;unfold ascii;rw[if_pos hck,if_neg k1,if_neg k4]
 have hoo:HC.all (·.oneCell')=true:=by rw[HHC.out];exact hostC_one h
 rw[hck]
 generalize h.k=kk at c0 k1' k1c k4'
 clear k1 k4 hck
 go_wp2_with (first|(refine wpList_load_row rfl 25 _ rfl w.heap.size rfl HC 25 _ K1.out Tryz.underlying25 rfl (by rw[hsz];exact infoHo) ?_)|(refine wpList_store_row rfl 25 _ _ rfl (w.heap.size+1) rfl _ HC rfl 25 K2.out (by rw[hsz];exact infoHo) (by rw[hsz];rfl) hoo rfl ?_))
 exact bodyPost_ret (results_mix (p:=2) (q:=3) (by kernel_rfl) _ _ (w.heap.size+1) h ha (.int .i64 0) rfl rfl (by rw[←HHC.out];exact K2.out.row _)) rfl ⟨by rw[HV.out];rfl,below_row KB.out (by omega) _⟩
set_option maxHeartbeats 8000000 in
set_option maxRecDepth 100000 in
theorem raT_any (h:Ho) (ok:h.Ok) (w:World) (hT:Tc w) (hn:h.n.length≤140737488351232) (hck:check h true=0) (k4:h.k=4):
  Calls Tryz.prog 82 #[hostV h] w fun e w'=>e=.returned (ascV (ascii asciiL h))∧Below w.heap.size w w':=by
 have ha:=ok.len
 have HT:Hid (∀wx,Below w.heap.size w wx→Tc wx):=fun wx hb=>hT.below hb
 clear hT
 have hsz:=hostC_size h ha
 obtain⟨HC,hHC⟩:∃HC,HC=hostC h:=⟨_,rfl⟩
 have e1:hostV h=.agg HC:=by rw[hHC];rfl
 have HHC:Hid (HC=hostC h):=hHC
 rw[←hHC]at hsz
 have L1:Hid (Lies ((w.alloc (.cells HC 25)).alloc (.cells #[.int .i64 0,.string ⟨#[]⟩,.int .u8 0,.int .u8 0,.int .u8 0,.int .u8 0,.int .u8 0,.int .u8 0,.int .u8 0,.int .u8 0,.int .u8 0,.int .u8 0,.int .u8 0,.int .u8 0,.int .u8 0,.int .u8 0,.int .u8 0,.int .u8 0] 25)) w.heap.size HC 25):=(Lies.new w _ _).alloc _
 have L2:Hid (Lies ((w.alloc (.cells HC 25)).alloc (.cells #[.int .i64 0,.string ⟨#[]⟩,.int .u8 0,.int .u8 0,.int .u8 0,.int .u8 0,.int .u8 0,.int .u8 0,.int .u8 0,.int .u8 0,.int .u8 0,.int .u8 0,.int .u8 0,.int .u8 0,.int .u8 0,.int .u8 0,.int .u8 0,.int .u8 0] 25)) (w.heap.size+1) #[.int .i64 0,.string ⟨#[]⟩,.int .u8 0,.int .u8 0,.int .u8 0,.int .u8 0,.int .u8 0,.int .u8 0,.int .u8 0,.int .u8 0,.int .u8 0,.int .u8 0,.int .u8 0,.int .u8 0,.int .u8 0,.int .u8 0,.int .u8 0,.int .u8 0] 25):=new_one w _ _ _
 have HB:Hid (Below w.heap.size w ((w.alloc (.cells HC 25)).alloc (.cells #[.int .i64 0,.string ⟨#[]⟩,.int .u8 0,.int .u8 0,.int .u8 0,.int .u8 0,.int .u8 0,.int .u8 0,.int .u8 0,.int .u8 0,.int .u8 0,.int .u8 0,.int .u8 0,.int .u8 0,.int .u8 0,.int .u8 0,.int .u8 0,.int .u8 0] 25))):=((Below.refl _ _).alloc (Nat.le_refl _) _).alloc (by simp) _
 have HCK:Hid (∀wx,Calls Tryz.prog 70 #[.agg HC,.bool true] wx fun e w'=>e=.returned (.int .i64 (check h true:Nat))∧Below wx.heap.size wx w'):=fun wx=>by
  rw[←e1]
  exact rcheck_any h ha true wx hn
 rw[e1]
 clear hHC e1
 go_enter Tryz.func82,Tryz.ntmps82
 go_upto_region 1 with fail
 generalize (w.alloc (.cells HC 25)).alloc (.cells #[.int .i64 0,.string ⟨#[]⟩,.int .u8 0,.int .u8 0,.int .u8 0,.int .u8 0,.int .u8 0,.int .u8 0,.int .u8 0,.int .u8 0,.int .u8 0,.int .u8 0,.int .u8 0,.int .u8 0,.int .u8 0,.int .u8 0,.int .u8 0,.int .u8 0] 25)=wA at L1 L2 HB ⊢
 go_wp2_with (refine wpList_load_row rfl 25 _ rfl w.heap.size rfl HC 25 _ L1.out Tryz.underlying25 rfl (by rw[hsz];exact infoHo) ?_)
 refine(HCK.out _).mono ?_
 rintro e w1 ⟨rfl,hb1⟩
 have K1:Hid (Lies w1 w.heap.size HC 25):=L1.out.below hb1 L1.out.lt
 have K2:Hid (Lies w1 (w.heap.size+1) #[.int .i64 0,.string ⟨#[]⟩,.int .u8 0,.int .u8 0,.int .u8 0,.int .u8 0,.int .u8 0,.int .u8 0,.int .u8 0,.int .u8 0,.int .u8 0,.int .u8 0,.int .u8 0,.int .u8 0,.int .u8 0,.int .u8 0,.int .u8 0,.int .u8 0] 25):=L2.out.below hb1 L2.out.lt
 have KB:Hid (Below w.heap.size w w1):=HB.out.trans (hb1.mono (Nat.le_of_lt L1.out.lt))
 clear hb1 L1 L2 HB HCK
 have hz1:=K2.out.lt
 have K1h:Lies w1 w.heap.size (hostC h) 25:=by rw[←HHC.out];exact K1.out
 obtain⟨c0,c1⟩:=host_cells K1h
 have hf1:=K1h.frozen 1
 rw[hck]
 have HK:Hid (h.k=4):=k4
 have k1:¬h.k=1:=by omega
 have HV:Hid (ascii asciiL h=(⟨4,tagS h.n,h.a⟩,0)):=by show _=_;unfold ascii;rw[if_pos hck,if_neg k1,if_pos k4]
 obtain⟨S,hS⟩:∃S:ByteArray,S=⟨h.n.toArray⟩:=⟨_,rfl⟩
 have hSl:S.data.toList=h.n:=by rw[hS]
 rw[←hS]at c1
 rw[k4]at c0
 have htg:=(check_tag k4 hck).2
 have hnl:h.n.length≤253:=by
  unfold chTag at htg
  rcases Nat.lt_or_ge 253 h.n.length with hl|hl
  ·rw[if_pos hl]at htg;cases htg
  ·exact hl
 obtain⟨k,hk⟩:∃k,colonAt h.n=some k:=by
  unfold chTag at htg
  rw[if_neg (by omega)]at htg
  cases hk:colonAt h.n with
  |none=>rw[hk]at htg;cases htg
  |some k=>exact⟨k,rfl⟩
 obtain⟨hkl,h58,_⟩:=colon_some hk
 have hSs:S.size≤253:=by rw[←len_list,hSl];exact hnl
 have hidx:Lib.index h.n [58]=(k:Int):=by
  have e:h.n=h.n.take k++58::h.n.drop (k+1):=by
   rw[←h58,←List.drop_eq_getElem_cons hkl,List.take_append_drop]
  have:=index_at 58 (h.n.take k) (h.n.drop (k+1)) (fun c hc=>by
   obtain⟨j,hj,rfl⟩:=List.getElem_of_mem hc
   rw[List.getElem_take]
   rw[List.length_take]at hj
   exact(colon_some hk).2.2 j _ (by omega))
  rw[←e,List.length_take,Nat.min_eq_left (by omega)]at this
  exact this
 obtain⟨m,hm⟩:=(HT.out _ KB.out).ml
 have HCT:=Tryz.strings_Cut S ⟨#[58]⟩ m w1 (by omega) hm
 rw[hSl]at HCT
 have hcut:Lib.cut h.n (⟨#[58]⟩:ByteArray).data.toList=(h.n.take k,h.n.drop (k+1),true):=by
  unfold Lib.cut
  rw[show(⟨#[58]⟩:ByteArray).data.toList=[58] from rfl,hidx,if_pos (by omega)]
  rfl
 rw[hcut]at HCT
 have HCU:Hid (Calls Tryz.prog 116 #[.string S,.string ⟨#[58]⟩] w1 fun e w'=>e=.returned (.tuple #[.string ⟨(h.n.take k).toArray⟩,.string ⟨(h.n.drop (k+1)).toArray⟩,.bool true])∧∃n,w'=w1.drewN n):=HCT
 have HSM:Hid (∀wx,Calls Tryz.prog 83 #[.string ⟨(h.n.take k).toArray⟩] wx fun e w'=>e=.returned (.string ⟨(sml (h.n.take k)).toArray⟩)∧Below wx.heap.size wx w'):=fun wx=>by
  have:=rsmall_any ⟨(h.n.take k).toArray⟩ wx (by unfold maxLen;show(h.n.take k).toArray.size≤_;rw[List.size_toArray,List.length_take];omega)
  unfold smS at this
  rw[str_list]at this
  exact this
 have HTG:Hid ((⟨(tagS h.n).toArray⟩:ByteArray)=⟨(sml (h.n.take k)).toArray⟩++⟨#[58]⟩++⟨(h.n.drop (k+1)).toArray⟩):=by
  show _=_
  rw[tagS_some hk,show(⟨#[58]⟩:ByteArray)=⟨([58]:List UInt8).toArray⟩ from rfl,str_append,str_append,List.append_assoc]
  congr 2
  rw[List.drop_eq_getElem_cons hkl,h58]
  rfl
 have hz4:(sml (h.n.take k)).length≤253∧(h.n.drop (k+1)).length≤253:=by
  rw[sml_len,List.length_take,List.length_drop]
  omega
 generalize sml (h.n.take k)=sm at HSM HTG hz4
 generalize h.n.take k=tg at HCU HSM
 generalize h.n.drop (k+1)=dr at HCU HTG hz4
 have hz5:(⟨sm.toArray⟩:ByteArray).size≤253:=by show sm.toArray.size≤_;rw[List.size_toArray];exact hz4.1
 have hz6:(⟨dr.toArray⟩:ByteArray).size≤253:=by show dr.toArray.size≤_;rw[List.size_toArray];exact hz4.2
 generalize (⟨sm.toArray⟩:ByteArray)=SM at HSM HTG hz5
 generalize (⟨dr.toArray⟩:ByteArray)=DR at HCU HTG hz6
 generalize (⟨tg.toArray⟩:ByteArray)=TG at HCU HSM
 have ad1:∀W,(Op.stringOp .add SM ⟨#[58]⟩).run Tryz.prog W=.ok (.string (SM++⟨#[58]⟩)) W:=fun W=>run_string_add_sum _ _ _ (by show SM.size+1≤_;omega)
 have ad2:∀W,(Op.stringOp .add (SM++⟨#[58]⟩) DR).run Tryz.prog W=.ok (.string (SM++⟨#[58]⟩++DR)) W:=fun W=>run_string_add_sum _ _ _ (by rw[ByteArray.size_append];show SM.size+1+DR.size≤_;omega)
 clear hck hS hSl hnl hk htg HCT k1 hkl h58 hidx hcut hm hz4 k4
 go_wp2_with fail
 refine HCU.out.mono ?_
 rintro e w2 ⟨rfl,n,hw2⟩
 have hb2:Below w1.heap.size w1 w2:=by rw[hw2];exact⟨rfl,rfl,rfl,Nat.le_refl _,fun _ _=>rfl⟩
 have M1:Hid (Lies w2 w.heap.size (hostC h) 25):=K1h.below hb2 K1h.lt
 have M2:Hid (Lies w2 (w.heap.size+1) #[.int .i64 0,.string ⟨#[]⟩,.int .u8 0,.int .u8 0,.int .u8 0,.int .u8 0,.int .u8 0,.int .u8 0,.int .u8 0,.int .u8 0,.int .u8 0,.int .u8 0,.int .u8 0,.int .u8 0,.int .u8 0,.int .u8 0,.int .u8 0,.int .u8 0] 25):=K2.out.below hb2 K2.out.lt
 have MB:Hid (Below w.heap.size w w2):=KB.out.trans (hb2.mono KB.out.size)
 clear hb2 hw2 HCU K1 K2 KB K1h c0 c1 hf1 hz1
 have hz2:=M2.out.lt
 go_wp2_with fail
 refine(HSM.out _).mono ?_
 rintro e w3 ⟨rfl,hb3⟩
 have J1:Hid (Lies w3 w.heap.size (hostC h) 25):=M1.out.below hb3 M1.out.lt
 have J2:Hid (Lies w3 (w.heap.size+1) #[.int .i64 0,.string ⟨#[]⟩,.int .u8 0,.int .u8 0,.int .u8 0,.int .u8 0,.int .u8 0,.int .u8 0,.int .u8 0,.int .u8 0,.int .u8 0,.int .u8 0,.int .u8 0,.int .u8 0,.int .u8 0,.int .u8 0,.int .u8 0,.int .u8 0] 25):=M2.out.below hb3 M2.out.lt
 have JB:Hid (Below w.heap.size w w3):=MB.out.trans (hb3.mono MB.out.size)
 clear hb3 HSM M1 M2 MB hz2
 have hz3:=J2.out.lt
 have hf9:=J1.out.frozen 1
 obtain⟨v9,hv9⟩:∃v,w3.cell? ⟨w.heap.size,1,none⟩=some v:=⟨_,J1.out.cell 1⟩
 have J3:Hid (Lies (w3.setCell ⟨w.heap.size,1,none⟩ (.string (SM++⟨#[58]⟩++DR))) w.heap.size (hostC ⟨4,tagS h.n,h.a⟩) 25):=by
  have:=J1.out.set 1 (.string (SM++⟨#[58]⟩++DR))
  rw[←HTG.out,hostC_name,HK.out]at this
  rw[←HTG.out];exact this
 have J4:Hid (Lies (w3.setCell ⟨w.heap.size,1,none⟩ (.string (SM++⟨#[58]⟩++DR))) (w.heap.size+1) #[.int .i64 0,.string ⟨#[]⟩,.int .u8 0,.int .u8 0,.int .u8 0,.int .u8 0,.int .u8 0,.int .u8 0,.int .u8 0,.int .u8 0,.int .u8 0,.int .u8 0,.int .u8 0,.int .u8 0,.int .u8 0,.int .u8 0,.int .u8 0,.int .u8 0] 25):=J2.out.set_other (a:=⟨w.heap.size,1,none⟩) (by show w.heap.size+1≠w.heap.size;omega) _
 have JB4:Hid (Below w.heap.size w (w3.setCell ⟨w.heap.size,1,none⟩ (.string (SM++⟨#[58]⟩++DR)))):=JB.out.setCell (p:=⟨w.heap.size,1,none⟩) (Nat.le_refl _) _
 have hzz:=hostC_size ⟨4,tagS h.n,h.a⟩ ha
 have hoo:=hostC_one ⟨4,tagS h.n,h.a⟩
 clear J1 J2 JB
 go_upto_region 7 with fail
 generalize w3.setCell ⟨w.heap.size,1,none⟩ (.string (SM++⟨#[58]⟩++DR))=w9 at J3 J4 JB4 ⊢
 obtain⟨X,hX⟩:∃X,X=hostC ⟨4,tagS h.n,h.a⟩:=⟨_,rfl⟩
 rw[←hX]at J3 hzz hoo
 have HX:Hid (X=hostC ⟨4,tagS h.n,h.a⟩):=hX
 have hz9:=J4.out.lt
 clear hX hv9 hf9
 go_wp2_with (first|(refine wpList_load_row rfl 25 _ rfl w.heap.size rfl X 25 _ J3.out Tryz.underlying25 rfl (by rw[hzz];exact infoHo) ?_)|(refine wpList_store_row rfl 25 _ _ rfl (w.heap.size+1) rfl _ X rfl 25 J4.out (by rw[hzz];exact infoHo) (by rw[hzz];rfl) hoo rfl ?_))
 exact bodyPost_ret (results_mix (p:=2) (q:=3) (by kernel_rfl) _ _ (w.heap.size+1) ⟨4,tagS h.n,h.a⟩ ha (.int .i64 0) rfl rfl (by rw[←HX.out];exact J4.out.row _)) rfl ⟨by rw[HV.out];rfl,below_row JB4.out (by omega) _⟩
open Go.RowKit
set_option maxHeartbeats 8000000 in
set_option maxRecDepth 100000 in
theorem raN_any (h:Ho) (ok:h.Ok) (w:World) (hT:Tc w) (hn:h.n.length≤140737488351232) (hck:check h true=0) (k1:h.k=1):
  Calls Tryz.prog 82 #[hostV h] w fun e w'=>e=.returned (ascV (ascii asciiL h))∧Below w.heap.size w w':=by
 have ha:=ok.len
 have HT:Hid (∀wx,Below w.heap.size w wx→Tc wx):=fun wx hb=>hT.below hb
 clear hT
 have hsz:=hostC_size h ha
 obtain⟨HC,hHC⟩:∃HC,HC=hostC h:=⟨_,rfl⟩
 have e1:hostV h=.agg HC:=by rw[hHC];rfl
 have HHC:Hid (HC=hostC h):=hHC
 rw[←hHC]at hsz
 have L1:Hid (Lies ((w.alloc (.cells HC 25)).alloc (.cells #[.int .i64 0,.string ⟨#[]⟩,.int .u8 0,.int .u8 0,.int .u8 0,.int .u8 0,.int .u8 0,.int .u8 0,.int .u8 0,.int .u8 0,.int .u8 0,.int .u8 0,.int .u8 0,.int .u8 0,.int .u8 0,.int .u8 0,.int .u8 0,.int .u8 0] 25)) w.heap.size HC 25):=(Lies.new w _ _).alloc _
 have L2:Hid (Lies ((w.alloc (.cells HC 25)).alloc (.cells #[.int .i64 0,.string ⟨#[]⟩,.int .u8 0,.int .u8 0,.int .u8 0,.int .u8 0,.int .u8 0,.int .u8 0,.int .u8 0,.int .u8 0,.int .u8 0,.int .u8 0,.int .u8 0,.int .u8 0,.int .u8 0,.int .u8 0,.int .u8 0,.int .u8 0] 25)) (w.heap.size+1) #[.int .i64 0,.string ⟨#[]⟩,.int .u8 0,.int .u8 0,.int .u8 0,.int .u8 0,.int .u8 0,.int .u8 0,.int .u8 0,.int .u8 0,.int .u8 0,.int .u8 0,.int .u8 0,.int .u8 0,.int .u8 0,.int .u8 0,.int .u8 0,.int .u8 0] 25):=new_one w _ _ _
 have HB:Hid (Below w.heap.size w ((w.alloc (.cells HC 25)).alloc (.cells #[.int .i64 0,.string ⟨#[]⟩,.int .u8 0,.int .u8 0,.int .u8 0,.int .u8 0,.int .u8 0,.int .u8 0,.int .u8 0,.int .u8 0,.int .u8 0,.int .u8 0,.int .u8 0,.int .u8 0,.int .u8 0,.int .u8 0,.int .u8 0,.int .u8 0] 25))):=((Below.refl _ _).alloc (Nat.le_refl _) _).alloc (by simp) _
 have HCK:Hid (∀wx,Calls Tryz.prog 70 #[.agg HC,.bool true] wx fun e w'=>e=.returned (.int .i64 (check h true:Nat))∧Below wx.heap.size wx w'):=fun wx=>by
  rw[←e1]
  exact rcheck_any h ha true wx hn
 rw[e1]
 clear hHC e1
 go_enter Tryz.func82,Tryz.ntmps82
 go_upto_region 1 with fail
 generalize (w.alloc (.cells HC 25)).alloc (.cells #[.int .i64 0,.string ⟨#[]⟩,.int .u8 0,.int .u8 0,.int .u8 0,.int .u8 0,.int .u8 0,.int .u8 0,.int .u8 0,.int .u8 0,.int .u8 0,.int .u8 0,.int .u8 0,.int .u8 0,.int .u8 0,.int .u8 0,.int .u8 0,.int .u8 0] 25)=wA at L1 L2 HB ⊢
 go_wp2_with (refine wpList_load_row rfl 25 _ rfl w.heap.size rfl HC 25 _ L1.out Tryz.underlying25 rfl (by rw[hsz];exact infoHo) ?_)
 refine(HCK.out _).mono ?_
 rintro e w1 ⟨rfl,hb1⟩
 have K1:Hid (Lies w1 w.heap.size HC 25):=L1.out.below hb1 L1.out.lt
 have K2:Hid (Lies w1 (w.heap.size+1) #[.int .i64 0,.string ⟨#[]⟩,.int .u8 0,.int .u8 0,.int .u8 0,.int .u8 0,.int .u8 0,.int .u8 0,.int .u8 0,.int .u8 0,.int .u8 0,.int .u8 0,.int .u8 0,.int .u8 0,.int .u8 0,.int .u8 0,.int .u8 0,.int .u8 0] 25):=L2.out.below hb1 L2.out.lt
 have KB:Hid (Below w.heap.size w w1):=HB.out.trans (hb1.mono (Nat.le_of_lt L1.out.lt))
 clear hb1 L1 L2 HB HCK
 have hz1:=K2.out.lt
 have K1h:Lies w1 w.heap.size (hostC h) 25:=by rw[←HHC.out];exact K1.out
 obtain⟨c0,c1⟩:=host_cells K1h
 have hf1:=K1h.frozen 1
 rw[hck]
 have HK:Hid (h.k=1):=k1
 have HV0:Hid (ascii asciiL h=if (asciiD asciiL h.n).2=0 then (⟨1,(asciiD asciiL h.n).1,h.a⟩,0) else (ho0,(asciiD asciiL h.n).2)):=by show _=_;unfold ascii;rw[if_pos hck,if_pos k1]
 obtain⟨S,hS⟩:∃S:ByteArray,S=⟨h.n.toArray⟩:=⟨_,rfl⟩
 have hSl:S.data.toList=h.n:=by rw[hS]
 rw[←hS]at c1
 rw[k1]at c0
 have hnl:S.size≤255:=by
  rw[←len_list,hSl]
  exact(wd_ok (check_name k1 hck).2).1
 have HSM:Hid (∀wx,Calls Tryz.prog 83 #[.string S] wx fun e w'=>e=.returned (.string (smS S))∧Below wx.heap.size wx w'):=fun wx=>rsmall_any S wx (by unfold maxLen;omega)
 have hss:(smS S).size≤255:=by
  show(sml S.data.toList).toArray.size≤255
  rw[List.size_toArray,sml,List.length_map,len_list]
  exact hnl
 have hsd:(smS S).data.toList=sml h.n:=by rw[←hSl];simp[smS]
 obtain⟨L,hL⟩:∃L,L=splitD (sml h.n):=⟨_,rfl⟩
 obtain⟨hsp1,hsp2⟩:=split_cells (smS S) 46
 rw[hsd,←splitD_B,←hL]at hsp1 hsp2
 obtain⟨hll,hln⟩:=splitD_short (sml h.n)
 rw[←hL,sml_len,←hSl,len_list]at hll hln
 have HLN:Hid (L≠[]):=by rw[hL];exact splitD_ne _
 have HV:Hid (asciiD asciiL h.n=if longB (L.map asciiL)=true then ([],80) else if 255<(joinL [46] (L.map asciiL)).length then ([],81) else (joinL [46] (L.map asciiL),0)):=by
  show _=_
  unfold asciiD
  rw[←hL]
 have HSP:Hid (∀wx,Tc wx→Calls Tryz.prog 117 #[.string (smS S),.string ⟨#[46]⟩] wx fun e w'=>e=.returned (.slice (some ⟨wx.heap.size,0,none⟩) L.length L.length)∧w'=wx.alloc (.cells (strsV L) 9)):=fun wx hx=>by
  obtain⟨m,hm⟩:=hx.ml
  have:=Tryz.strings_Split (smS S) ⟨#[46]⟩ m wx (by omega) hm (by decide)
  rw[hsp1,hsp2]at this
  exact this
 have HLL:Hid (∀l∈L,l.length≤S.size):=hll
 have hln':(L.length:Int)≤256:=by omega
 clear hsd hsp1 hsp2 hL hll hck hS hSl k1
 generalize smS S=sm at HSM hss HSP
 go_wp2_with fail
 refine(HSM.out _).mono ?_
 rintro e wb ⟨rfl,hbb⟩
 have N1:Hid (Lies wb w.heap.size (hostC h) 25):=K1h.below hbb K1h.lt
 have N2:Hid (Lies wb (w.heap.size+1) #[.int .i64 0,.string ⟨#[]⟩,.int .u8 0,.int .u8 0,.int .u8 0,.int .u8 0,.int .u8 0,.int .u8 0,.int .u8 0,.int .u8 0,.int .u8 0,.int .u8 0,.int .u8 0,.int .u8 0,.int .u8 0,.int .u8 0,.int .u8 0,.int .u8 0] 25):=K2.out.below hbb K2.out.lt
 have NB:Hid (Below w.heap.size w wb):=KB.out.trans (hbb.mono KB.out.size)
 clear hbb K1 K2 KB K1h c0 c1 hf1 hz1 HSM
 go_wp2_with fail
 refine(HSP.out _ (HT.out _ NB.out)).mono ?_
 rintro e w2 ⟨rfl,rfl⟩
 have P1:Hid (Lies (wb.alloc (.cells (strsV L) 9)) w.heap.size (hostC h) 25):=N1.out.alloc _
 have P2:Hid (Lies (wb.alloc (.cells (strsV L) 9)) (w.heap.size+1) #[.int .i64 0,.string ⟨#[]⟩,.int .u8 0,.int .u8 0,.int .u8 0,.int .u8 0,.int .u8 0,.int .u8 0,.int .u8 0,.int .u8 0,.int .u8 0,.int .u8 0,.int .u8 0,.int .u8 0,.int .u8 0,.int .u8 0,.int .u8 0,.int .u8 0] 25):=N2.out.alloc _
 have PL:Hid (Lies (wb.alloc (.cells (strsV L) 9)) wb.heap.size (strsV L) 9):=Lies.new wb _ _
 have PB:Hid (Below w.heap.size w (wb.alloc (.cells (strsV L) 9))):=NB.out.alloc NB.out.size _
 clear HSP N1 N2 NB
 generalize wb.alloc (.cells (strsV L) 9)=wL at P1 P2 PL PB ⊢
 generalize wb.heap.size=B at PL ⊢
 go_wp2_with fail
 go_loopw [8,49] (fun u c wr=>∃i:Nat,i≤L.length∧c=.int .i64 i∧Hid (Below wL.heap.size wL wr)∧Hid (wr.ownsRow wL.heap.size 9 1 u i (cellsS ((L.take i).map asciiL)))∧Hid (∀j (hj:j<L.length),j<i→(asciiL L[j]).length≤63)) (fun _ c _=>L.length - (intOf c).toNat)
 case atStart=>exact⟨0,by omega,rfl,Below.refl _ _,⟨rfl,.inl ⟨rfl,rfl⟩⟩,fun j _ h=>absurd h (by omega)⟩
 case round=>
  obtain⟨i,hi,rfl,HB,HO,HJ⟩:=hrel
  by_cases hlt:i<L.length
  ·have hlt':(i:Int)<(L.length:Int):=by omega
   have hi0:(0:Int)≤(i:Int):=by omega
   have hc:wr.cell? ⟨B,i,none⟩=some (.string ⟨(L[i]).toArray⟩):=((PL.out.below HB.out PL.out.lt).cell i).trans (strsV_at L i hlt)
   have hzB:B<wr.heap.size:=(PL.out.below HB.out PL.out.lt).lt
   have HX255:(L[i]).length≤255:=by have:=HLL.out _ (List.getElem_mem hlt);omega
   have HYS:=long_yes L i hlt
   have HJ2:Hid ((asciiL L[i]).length≤63→∀j (hj:j<L.length),j<i+1→(asciiL L[j]).length≤63):=fun h63 j hj hji=>by
    rcases Nat.lt_or_ge j i with h|h
    ·exact HJ.out j hj h
    ·obtain rfl:j=i:=by omega
     exact h63
   have HTK:Hid ((L.take (i+1)).map asciiL=(L.take i).map asciiL++[asciiL L[i]]):=by
    show _=_
    rw[List.take_succ_eq_append_getElem hlt,List.map_append]
    rfl
   generalize L[i]=x at hc HX255 HYS HJ2 HTK
   obtain⟨X,hX⟩:∃X:ByteArray,X=⟨x.toArray⟩:=⟨_,rfl⟩
   have hXl:X.data.toList=x:=by rw[hX]
   rw[←hX]at hc
   have hXs:X.size≤255:=by rw[←len_list,hXl];exact HX255
   have HWI:Hid (Calls Tryz.prog 118 #[.string X] wr fun e w'=>e=.returned (.bool (!asc x))∧w'=wr):=by
    have:=rwide_any X wr (by unfold maxLen;omega)
    rw[hXl]at this
    exact this
   have HAN:Hid (asc x=true→(⟨(asciiL x).toArray⟩:ByteArray)=X):=fun h=>by
    unfold asciiL
    rw[if_pos (show(x.all fun c=>decide (c.toNat<128))=true from h),hX]
   have HAW:Hid (asc x=false→(⟨(asciiL x).toArray⟩:ByteArray)=⟨#[120,110,45,45]⟩++punT (decR x)):=fun h=>by
    unfold asciiL
    rw[if_neg (show ¬(x.all fun c=>decide (c.toNat<128))=true from fun h'=>by rw[show(x.all fun c=>decide (c.toNat<128))=false from h]at h';cases h'),show(⟨#[120,110,45,45]⟩:ByteArray)=⟨([120,110,45,45]:List UInt8).toArray⟩ from rfl]
    conv=>rhs;rw[show punT (decR x)=⟨(punT (decR x)).data.toList.toArray⟩ from by rw[Array.toArray_toList]]
    rw[str_append]
   obtain⟨ea,eb,hE⟩:=decE_two x
   have HDD:Hid (Calls Tryz.prog 119 #[.string X] wr fun e w'=>(∃v,e=.returned (.tuple #[v,.agg #[.int .i64 ea,.int .i64 eb]])∧w'.ownsRow wr.heap.size 21 1 v (decR x).length (cellsN .i32 (decR x)))∧Below wr.heap.size wr w'):=by
    have:=ddec_any X wr (by omega)
    rw[hXl,hE]at this
    exact this
   have hdl:=decR_len x
   have hps:=punT_small (decR x)
   have HD32:Hid (∀y∈decR x, -2147483648≤y∧y≤2147483647):=decR_32 x
   have hal:(⟨(asciiL x).toArray⟩:ByteArray).size=(asciiL x).length:=List.size_toArray ..
   generalize asc x=wd at HWI HAN HAW
   generalize decR x=l at HAW HDD hdl hps HD32
   generalize asciiL x=y at HYS HJ2 HTK HAN HAW hal
   generalize hYY:(⟨y.toArray⟩:ByteArray)=Y at HAN HAW hal
   have HYY:Hid ((⟨y.toArray⟩:ByteArray)=Y):=hYY
   have ad1:∀W,(Op.stringOp .add ⟨#[120,110,45,45]⟩ (punT l)).run Tryz.prog W=.ok (.string (⟨#[120,110,45,45]⟩++punT l)) W:=fun W=>run_string_add_sum _ _ _ (by show 4+(punT l).size≤_;omega)
   clear hX hXl hE hYY
   go_wp2_with fail
   refine HWI.out.mono ?_
   rintro e w3 ⟨rfl,hw3⟩
   obtain rfl:wr=w3:=hw3.symm
   clear HWI hw3
   go_upto_if 54 with fail
   go_cut [10] (fun c wx=>c=.string Y∧Hid (Below wr.heap.size wr wx))
   case first=>
    cases wd
    ·have HY:Hid (Y=⟨#[120,110,45,45]⟩++punT l):=HAW.out rfl
     clear HAN HAW
     go_wp2_with fail
     refine HDD.out.mono ?_
     rintro e w4 ⟨⟨v,rfl,ho⟩,hb4⟩
     obtain⟨a,cap,rfl,hnt, -⟩:=own_nts ho
     have HN:Hid (Nts .i32 a l (w4.alloc (.cells #[.int .i64 ea,.int .i64 eb] 32))):=hnt.below ((Below.refl _ _).alloc (Nat.le_refl _) _)
     have HB4:Hid (Below wr.heap.size wr (w4.alloc (.cells #[.int .i64 ea,.int .i64 eb] 32))):=hb4.alloc hb4.size _
     clear ho hnt hb4 HDD
     go_upto_region 16 with fail
     generalize w4.alloc (.cells #[.int .i64 ea,.int .i64 eb] 32)=w5 at HN HB4 ⊢
     go_wp2_with fail
     refine(dpuny_any a l cap w5 HN.out (by omega) HD32.out).mono ?_
     rintro e w6 ⟨rfl,hb6⟩
     have HB6:Hid (Below wr.heap.size wr w6):=HB4.out.trans (hb6.mono HB4.out.size)
     clear hb6
     go_wp2_with fail
     go_meet
     exact⟨by rw[HY.out],HB6⟩
    ·have HY:Hid (Y=X):=HAN.out rfl
     clear HAN HAW
     go_wp2_with fail
     go_meet
     exact⟨by rw[HY.out],Below.refl _ _⟩
   clear HAN HAW HDD HD32 hdl hps ad1 hc
   obtain⟨rfl,HBX⟩:=hcut
   have HB7:Hid (Below wL.heap.size wL wc):=HB.out.trans (HBX.out.mono HB.out.size)
   have HO7:Hid (wc.ownsRow wL.heap.size 9 1 u8 i (cellsS ((L.take i).map asciiL))):=ownN_below HO.out HBX.out
   clear HB HO HBX
   by_cases h63:63<y.length
   ·have h63':(63:Int)<(Y.size:Int):=by rw[hal];omega
    have HVV:Hid (ascii asciiL h=(ho0,80)):=by show _=_;rw[HV0.out,HV.out,if_pos (HYS h63)];rfl
    have Q2:Hid (Lies wc (w.heap.size+1) #[.int .i64 0,.string ⟨#[]⟩,.int .u8 0,.int .u8 0,.int .u8 0,.int .u8 0,.int .u8 0,.int .u8 0,.int .u8 0,.int .u8 0,.int .u8 0,.int .u8 0,.int .u8 0,.int .u8 0,.int .u8 0,.int .u8 0,.int .u8 0,.int .u8 0] 25):=P2.out.below HB7.out P2.out.lt
    have QB:Hid (Below w.heap.size w wc):=PB.out.trans (HB7.out.mono PB.out.size)
    have hzq:=Q2.out.lt
    clear HV HV0 h63 HYS HJ2 HTK HO7
    go_wp2_with (refine wpList_store_row rfl 25 _ _ rfl (w.heap.size+1) rfl _ #[.int .i64 0,.string ⟨#[]⟩,.int .u8 0,.int .u8 0,.int .u8 0,.int .u8 0,.int .u8 0,.int .u8 0,.int .u8 0,.int .u8 0,.int .u8 0,.int .u8 0,.int .u8 0,.int .u8 0,.int .u8 0,.int .u8 0,.int .u8 0,.int .u8 0] rfl 25 Q2.out infoHo rfl (by simp[Value.oneCell']) rfl ?_)
    exact bodyPost_ret (results_mix (p:=2) (q:=3) (by kernel_rfl) _ _ (w.heap.size+1) ho0 rfl (.int .i64 80) rfl rfl (Q2.out.row _)) rfl ⟨by rw[HVV.out];rfl,below_row QB.out (by omega) _⟩
   ·have h63':¬(63:Int)<(Y.size:Int):=by rw[hal];omega
    have HJN:Hid (∀j (hj:j<L.length),j<i+1→(asciiL L[j]).length≤63):=HJ2.out (by omega)
    have hzw:=HB7.out.size
    clear HYS HJ2 h63
    go_wp2_with (at_builtin;refine wpList_append_str rfl _ _ rfl wL.heap.size _ i ((L.take i).map asciiL) rfl (ownN_below HO7.out ((Below.refl _ _).alloc (Nat.le_refl _) _)) wc.heap.size y 1 rfl (by rw[HYY.out];simp) (by omega) (by simp;omega) ?_)
    intro v4 w4 hown4 hgrow4
    have hg4:=grown_on (World.grownBy_alloc wc _ (u8:Value).ownBlock) hgrow4 (fun _ h=>.inl h.symm)
    have HB9:Hid (Below wL.heap.size wL w4):=HB7.out.grown hg4 HB7.out.size (fun q hq=>(HO7.out.lt q hq).1)
    have HO9:Hid (w4.ownsRow wL.heap.size 9 1 v4 (i+1) (cellsS ((L.take (i+1)).map asciiL))):=by
     show World.ownsRow _ _ _ _ _ _ _
     rw[HTK.out,List.map_take]
     exact hown4
    clear hown4 hgrow4 hg4 HO7 HB7
    go_wp2
    go_roundw
    case rel=>exact⟨i+1,by omega,by go_num,HB9,HO9,HJN⟩
    case measure=>simp[intOf];omega
  ·obtain rfl:i=L.length:=by omega
   have hlt':¬(L.length:Int)<(L.length:Int):=by omega
   have HVN:Hid (asciiD asciiL h.n=if 255<(joinL [46] (L.map asciiL)).length then ([],81) else (joinL [46] (L.map asciiL),0)):=by
    show _=_
    rw[HV.out,if_neg (by rw[long_no L fun j hj=>HJ.out j hj hj];decide)]
   have hjl:(joinL [46] (L.map asciiL)).length≤100000:=by
    have:=joinL_len [46] 63 rfl (L.map asciiL) fun x hx=>by
     obtain⟨y,hy,rfl⟩:=List.mem_map.1 hx
     obtain⟨j,hj,rfl⟩:=List.mem_iff_getElem.1 hy
     exact HJ.out j hj hj
    rw[List.length_map]at this
    omega
   have HJN:Hid (Calls Tryz.prog 109 #[u8,.string ⟨#[46]⟩] wr fun e w'=>e=.returned (.string ⟨(joinL [46] (L.map asciiL)).toArray⟩)∧Below wr.heap.size wr w'):=by
    have ho:=HO.out
    rw[List.take_of_length_le (Nat.le_refl _)]at ho
    exact join_own ho (by have:=HLN.out;simpa using this) ⟨#[46]⟩ (by rw[List.length_map];omega) (Nat.le_trans hjl (by decide))
   generalize joinL [46] (L.map asciiL)=nm at HVN hjl HJN
   have Q1:Hid (Lies wr w.heap.size (hostC h) 25):=P1.out.below HB.out P1.out.lt
   have Q2:Hid (Lies wr (w.heap.size+1) #[.int .i64 0,.string ⟨#[]⟩,.int .u8 0,.int .u8 0,.int .u8 0,.int .u8 0,.int .u8 0,.int .u8 0,.int .u8 0,.int .u8 0,.int .u8 0,.int .u8 0,.int .u8 0,.int .u8 0,.int .u8 0,.int .u8 0,.int .u8 0,.int .u8 0] 25):=P2.out.below HB.out P2.out.lt
   have QB:Hid (Below w.heap.size w wr):=PB.out.trans (HB.out.mono PB.out.size)
   clear HV HO HJ HB P1 P2 PL PB
   go_wp2_with fail
   refine HJN.out.mono ?_
   rintro e wd ⟨rfl,hbd⟩
   have J1:Hid (Lies wd w.heap.size (hostC h) 25):=Q1.out.below hbd Q1.out.lt
   have J2:Hid (Lies wd (w.heap.size+1) #[.int .i64 0,.string ⟨#[]⟩,.int .u8 0,.int .u8 0,.int .u8 0,.int .u8 0,.int .u8 0,.int .u8 0,.int .u8 0,.int .u8 0,.int .u8 0,.int .u8 0,.int .u8 0,.int .u8 0,.int .u8 0,.int .u8 0,.int .u8 0,.int .u8 0] 25):=Q2.out.below hbd Q2.out.lt
   have JB:Hid (Below w.heap.size w wd):=QB.out.trans (hbd.mono QB.out.size)
   clear hbd HJN Q1 Q2 QB
   have hzd:=J2.out.lt
   have HNS:Hid ((⟨nm.toArray⟩:ByteArray).size=nm.length):=List.size_toArray ..
   have hf9:=J1.out.frozen 1
   obtain⟨v9,hv9⟩:∃v,wd.cell? ⟨w.heap.size,1,none⟩=some v:=⟨_,J1.out.cell 1⟩
   have J3:Hid (Lies (wd.setCell ⟨w.heap.size,1,none⟩ (.string ⟨nm.toArray⟩)) w.heap.size (hostC ⟨1,nm,h.a⟩) 25):=by
    have:=J1.out.set 1 (.string ⟨nm.toArray⟩)
    rw[hostC_name,HK.out]at this
    exact this
   have J4:Hid (Lies (wd.setCell ⟨w.heap.size,1,none⟩ (.string ⟨nm.toArray⟩)) (w.heap.size+1) #[.int .i64 0,.string ⟨#[]⟩,.int .u8 0,.int .u8 0,.int .u8 0,.int .u8 0,.int .u8 0,.int .u8 0,.int .u8 0,.int .u8 0,.int .u8 0,.int .u8 0,.int .u8 0,.int .u8 0,.int .u8 0,.int .u8 0,.int .u8 0,.int .u8 0] 25):=J2.out.set_other (a:=⟨w.heap.size,1,none⟩) (by show w.heap.size+1≠w.heap.size;omega) _
   have JB4:Hid (Below w.heap.size w (wd.setCell ⟨w.heap.size,1,none⟩ (.string ⟨nm.toArray⟩))):=JB.out.setCell (p:=⟨w.heap.size,1,none⟩) (Nat.le_refl _) _
   have hzz:=hostC_size ⟨1,nm,h.a⟩ ha
   have hoo:=hostC_one ⟨1,nm,h.a⟩
   clear J1 J2 JB
   go_upto_region 23 with fail
   generalize wd.setCell ⟨w.heap.size,1,none⟩ (.string ⟨nm.toArray⟩)=w9 at J3 J4 JB4 ⊢
   obtain⟨X,hX⟩:∃X,X=hostC ⟨1,nm,h.a⟩:=⟨_,rfl⟩
   rw[←hX]at J3 hzz hoo
   have HX:Hid (X=hostC ⟨1,nm,h.a⟩):=hX
   have hz9:=J4.out.lt
   clear hX hv9 hf9
   have c9:w9.cell? ⟨w.heap.size,1,none⟩=some (.string ⟨nm.toArray⟩):=by
    rw[J3.out.cell 1,HX.out]
    rfl
   by_cases h255:255<nm.length
   ·have h255':(255:Int)<((⟨nm.toArray⟩:ByteArray).size:Int):=by rw[HNS.out];omega
    have HVV:Hid (ascii asciiL h=(ho0,81)):=by show _=_;rw[HV0.out,HVN.out,if_pos h255];rfl
    generalize (⟨nm.toArray⟩:ByteArray)=NN at c9 h255'
    clear HVN HV0 h255
    go_wp2_with (refine wpList_store_row rfl 25 _ _ rfl (w.heap.size+1) rfl _ #[.int .i64 0,.string ⟨#[]⟩,.int .u8 0,.int .u8 0,.int .u8 0,.int .u8 0,.int .u8 0,.int .u8 0,.int .u8 0,.int .u8 0,.int .u8 0,.int .u8 0,.int .u8 0,.int .u8 0,.int .u8 0,.int .u8 0,.int .u8 0,.int .u8 0] rfl 25 J4.out infoHo rfl (by simp[Value.oneCell']) rfl ?_)
    exact bodyPost_ret (results_mix (p:=2) (q:=3) (by kernel_rfl) _ _ (w.heap.size+1) ho0 rfl (.int .i64 81) rfl rfl (J4.out.row _)) rfl ⟨by rw[HVV.out];rfl,below_row JB4.out (by omega) _⟩
   ·have h255':¬(255:Int)<((⟨nm.toArray⟩:ByteArray).size:Int):=by rw[HNS.out];omega
    have HV:Hid (ascii asciiL h=(⟨1,nm,h.a⟩,0)):=by show _=_;rw[HV0.out,HVN.out,if_neg h255];rfl
    generalize (⟨nm.toArray⟩:ByteArray)=NN at c9 h255'
    clear HVN HV0 h255
    go_wp2_with (first|(refine wpList_load_row rfl 25 _ rfl w.heap.size rfl X 25 _ J3.out Tryz.underlying25 rfl (by rw[hzz];exact infoHo) ?_)|(refine wpList_store_row rfl 25 _ _ rfl (w.heap.size+1) rfl _ X rfl 25 J4.out (by rw[hzz];exact infoHo) (by rw[hzz];rfl) hoo rfl ?_))
    exact bodyPost_ret (results_mix (p:=2) (q:=3) (by kernel_rfl) _ _ (w.heap.size+1) ⟨1,nm,h.a⟩ ha (.int .i64 0) rfl rfl (by rw[←HX.out];exact J4.out.row _)) rfl ⟨by rw[HV.out];rfl,below_row JB4.out (by omega) _⟩
theorem rascii_any (h:Ho) (ok:h.Ok) (w:World) (hT:Tc w) (hn:h.n.length≤140737488351232):
  Calls Tryz.prog 82 #[hostV h] w fun e w'=>e=.returned (ascV (ascii asciiL h))∧Below w.heap.size w w':=by
 by_cases hck:check h true=0
 ·by_cases k1:h.k=1
  ·exact raN_any h ok w hT hn hck k1
  ·by_cases k4:h.k=4
   ·exact raT_any h ok w hT hn hck k4
   ·exact raO_any h ok w hn hck k1 k4
 ·exact raE_any h ok w hn hck
end Go.Proofs.YtfjpkfhbmldmfaaGreatDoor
