/-
  The document's begins6.
-/
import Derived.Test.YtfjpkfhbmldmfaaGreatDoorAdF
import Derived.Test.YtfjpkfhbmldmfaaGreatDoorAdG
import Derived.Test.YtfjpkfhbmldmfaaGreatDoorV6a
import Derived.Test.YtfjpkfhbmldmfaaGreatDoorPg8
namespace Go.Proofs.YtfjpkfhbmldmfaaGreatDoor
open Go.RowKit
def NY (i:Nat):List UInt8:=if i=0 then [] else if i=1 then [48] else if i=2 then [58] else [58,58]
def C6 (s:List UInt8) (i k:Nat):Bool:=(whole6 (s++NY i++rep 58 k)).isSome
def D6 (s:List UInt8) (i k:Nat):Bool:=(whole6 (s++NY i++rep 46 (k % 4))).isSome
theorem begins6_some {s:List UInt8} {i k:Nat} (hk:k<8) (h:(C6 s i k||D6 s i k)=true):begins6 s=true:=by
 unfold begins6
 rw[List.any_eq_true]
 refine⟨NY i,?_,?_⟩
 ·unfold NY
  split
  ·simp
  ·split
   ·simp
   ·split<;>simp
 ·rw[List.any_eq_true]
  exact⟨k,List.mem_range.2 hk,h⟩
theorem begins6_no {s:List UInt8} (h:∀i,i<4→∀k,k<8→(C6 s i k||D6 s i k)=false):begins6 s=false:=by
 unfold begins6
 rw[List.any_eq_false]
 intro nx hnx
 have hb:∀i,i<4→¬((List.range 8).any fun k=>(whole6 (s++NY i++rep 58 k)).isSome||(whole6 (s++NY i++rep 46 (k % 4))).isSome)=true:=fun i hi=>by
  rw[List.any_eq_true]
  rintro ⟨k,hk,e⟩
  have:=h i hi k (List.mem_range.1 hk)
  unfold C6 D6 at this
  rw[this]at e
  cases e
 rcases List.mem_cons.1 hnx with rfl|hnx
 ·exact hb 0 (by omega)
 ·rcases List.mem_cons.1 hnx with rfl|hnx
  ·exact hb 1 (by omega)
  ·rcases List.mem_cons.1 hnx with rfl|hnx
   ·exact hb 2 (by omega)
   ·rcases List.mem_cons.1 hnx with rfl|hnx
    ·exact hb 3 (by omega)
    ·cases hnx
theorem whole6_len {s:List UInt8} {v:List Nat} (h:whole6 s=some v):v.length=16:=by
 unfold whole6 at h
 split at h
 ·split at h
  ·split at h
   ·injection h with h
    subst h
    assumption
   ·cases h
  ·cases h
 ·split at h
  ·split at h
   ·injection h with h
    subst h
    simp
    omega
   ·cases h
  ·cases h
theorem w6V_is (l:List UInt8):∃V:Array Value,w6V l=.tuple #[.agg V,.bool (whole6 l).isSome]∧V.size=16∧V.all (·.oneCell')=true:=by
 refine⟨_,rfl,?_,?_⟩
 ·rw[bytesV_size]
  cases h:whole6 l with
  |none=>rfl
  |some v=>exact whole6_len h
 ·rw[Array.all_eq_true_iff_forall_mem]
  intro v hv
  exact cells8_one _ v (by unfold bytesV at hv;exact List.mem_toArray.1 hv)
structure Bg6 (w wr:World):Prop where
 below:Below w.heap.size w wr
 row:Lies wr w.heap.size #[.string ⟨#[]⟩,.string ⟨#[48]⟩,.string ⟨#[58]⟩,.string ⟨#[58,58]⟩] 9
theorem Bg6.step {w wr y:World} (h:Bg6 w wr) (hb:Below wr.heap.size wr y):Bg6 w y:=⟨h.below.trans (hb.mono h.below.size),h.row.below hb h.row.lt⟩
theorem Bg6.at {w wr:World} (h:Bg6 w wr) {i:Nat} (hi:i<4):∃X:ByteArray,wr.cell? ⟨w.heap.size,i,none⟩=some (.string X)∧X.data.toList=NY i∧X.size≤2:=by
 rcases (by omega:i=0∨i=1∨i=2∨i=3) with rfl|rfl|rfl|rfl
 ·exact⟨⟨#[]⟩,h.row.cell 0,rfl,by decide⟩
 ·exact⟨⟨#[48]⟩,h.row.cell 1,rfl,by decide⟩
 ·exact⟨⟨#[58]⟩,h.row.cell 2,rfl,by decide⟩
 ·exact⟨⟨#[58,58]⟩,h.row.cell 3,rfl,by decide⟩
set_option maxHeartbeats 8000000 in
set_option maxRecDepth 100000 in
theorem rbeg6_any (s:ByteArray) (w:World) (hT:∃m,w.cell? ⟨2,0,none⟩=some (.int .i64 m)) (hs:s.size≤1000):Calls Tryz.prog 189 #[.string s] w fun e w'=>e=.returned (.bool (begins6 s.data.toList))∧Below w.heap.size w w':=by
 have HT:Hid (∀wx,Below w.heap.size w wx→∃m,wx.cell? ⟨2,0,none⟩=some (.int .i64 m)):=fun wx hx=>by
  obtain⟨m,hm⟩:=hT
  exact⟨m,(hx.cell (p:=⟨2,0,none⟩) (World.block_lt_of_cell? w _ hm)).trans hm⟩
 clear hT
 have HRP:Hid (∀(c:UInt8) (k:Nat),k<8→∃R:ByteArray,R.data.toList=rep c k∧R.size=2*k∧∀wx,Calls Tryz.prog 227 #[.string ⟨#[c,48]⟩,.int .i64 k] wx fun e w'=>e=.returned (.string R)∧Below wx.heap.size wx w'):=fun c k hk=>by
  refine⟨⟨(Lib.repeatL [c,48] k).toArray⟩,rep_is c k,?_,fun wx=>Tryz.strings_Repeat ⟨#[c,48]⟩ k wx (by omega) (by show 2*k≤_;omega)⟩
  show(Lib.repeatL [c,48] k).toArray.size=_
  rw[List.size_toArray,Lib.repeatL_length]
  show k*2=_
  omega
 have HWH:Hid (∀(X R:ByteArray) (wx:World),X.size≤2→R.size≤16→Below w.heap.size w wx→Calls Tryz.prog 160 #[.string (s++X++R)] wx fun e w'=>e=.returned (w6V (s.data.toList++X.data.toList++R.data.toList))∧Below wx.heap.size wx w'):=fun X R wx hX hR hx=>by
  have:=rw6_any (s++X++R) wx (HT.out wx hx) (by rw[ByteArray.size_append,ByteArray.size_append];omega)
  rw[show(s++X++R).data.toList=s.data.toList++X.data.toList++R.data.toList from by simp[ByteArray.data_append]]at this
  exact this
 go_enter Tryz.func189,Tryz.ntmps189
 go_wp2_with fail
 have HS0:Hid (Bg6 w (w.alloc (.cells #[.string ⟨#[]⟩,.string ⟨#[48]⟩,.string ⟨#[58]⟩,.string ⟨#[58,58]⟩] 9))):=⟨(Below.refl _ _).alloc (Nat.le_refl _) _,Lies.new w _ _⟩
 go_loopw [12] (fun c wr=>∃i:Nat,i≤4∧c=.int .i64 i∧Hid (Bg6 w wr)∧Hid (∀j,j<i→∀k,k<8→(C6 s.data.toList j k||D6 s.data.toList j k)=false)) (fun c _=>4 - (intOf c).toNat)
 case atStart=>exact⟨0,by omega,rfl,HS0,fun j hj=>by omega⟩
 case round=>
  obtain⟨i,hi,rfl,HS,HN⟩:=hrel
  clear HS0
  by_cases hlt:i<4
  ·have hlt':(i:Int)<4:=by omega
   have hi0:(0:Int)≤(i:Int):=by omega
   obtain⟨X,hc,hX,hXs⟩:=HS.out.at hlt
   have HX:Hid (X.data.toList=NY i):=hX
   have hz:w.heap.size<wr.heap.size:=HS.out.row.lt
   clear hX
   go_wp2_with fail
   go_loopw [16] (fun c wr=>∃k:Nat,k≤8∧c=.int .i64 k∧Hid (Bg6 w wr)∧Hid (∀j,j<k→(C6 s.data.toList i j||D6 s.data.toList i j)=false)) (fun c _=>8 - (intOf c).toNat)
   case atStart=>exact⟨0,by omega,rfl,HS,fun j hj=>by omega⟩
   case round=>
    clear hc hz HS
    obtain⟨k,hk,rfl,HS,HM⟩:=hrel
    by_cases hk8:k<8
    ·have hk8':(k:Int)<8:=by omega
     obtain⟨R,hR,hRs,hRc⟩:=HRP.out 58 k hk8
     have HRC:Hid (∀wx,Calls Tryz.prog 227 #[.string ⟨#[58,48]⟩,.int .i64 k] wx fun e w'=>e=.returned (.string R)∧Below wx.heap.size wx w'):=hRc
     obtain⟨R2,hR2,hR2s,hR2c⟩:=HRP.out 46 (k % 4) (by omega)
     have HRC2:Hid (∀wx,Calls Tryz.prog 227 #[.string ⟨#[46,48]⟩,.int .i64 ((k:Int) % 4)] wx fun e w'=>e=.returned (.string R2)∧Below wx.heap.size wx w'):=hR2c
     obtain⟨V,hV,hVz,hVo⟩:=w6V_is (s.data.toList++X.data.toList++R.data.toList)
     obtain⟨U,hU,hUz,hUo⟩:=w6V_is (s.data.toList++X.data.toList++R2.data.toList)
     have hb4:(whole6 (s.data.toList++X.data.toList++R.data.toList)).isSome=C6 s.data.toList i k:=by rw[HX.out,hR];rfl
     have hb5:(whole6 (s.data.toList++X.data.toList++R2.data.toList)).isSome=D6 s.data.toList i k:=by rw[HX.out,hR2];rfl
     rw[hb4]at hV
     rw[hb5]at hU
     have HWC:Hid (∀wx,Below w.heap.size w wx→Calls Tryz.prog 160 #[.string (s++X++R)] wx fun e w'=>e=.returned (.tuple #[.agg V,.bool (C6 s.data.toList i k)])∧Below wx.heap.size wx w'):=fun wx hx=>by
      have:=HWH.out X R wx hXs (by omega) hx
      rw[hV]at this
      exact this
     have HWD:Hid (∀wx,Below w.heap.size w wx→Calls Tryz.prog 160 #[.string (s++X++R2)] wx fun e w'=>e=.returned (.tuple #[.agg U,.bool (D6 s.data.toList i k)])∧Below wx.heap.size wx w'):=fun wx hx=>by
      have:=HWH.out X R2 wx hXs (by omega) hx
      rw[hU]at this
      exact this
     clear hRc hR2c hb4 hb5 hV hU hR hR2
     have hsz:(s++X).size≤1002:=by rw[ByteArray.size_append];omega
     have hsz2:(s++X++R).size≤1018:=by rw[ByteArray.size_append];omega
     have hsz3:(s++X++R2).size≤1018:=by rw[ByteArray.size_append];omega
     have HCD:Hid (∀b1 b2,C6 s.data.toList i k=b1→D6 s.data.toList i k=b2→(C6 s.data.toList i k||D6 s.data.toList i k)=(b1||b2)):=fun b1 b2 h1 h2=>by rw[h1,h2]
     obtain⟨b1,hb1⟩:∃b,C6 s.data.toList i k=b:=⟨_,rfl⟩
     obtain⟨b2,hb2⟩:∃b,D6 s.data.toList i k=b:=⟨_,rfl⟩
     have HB:Hid ((C6 s.data.toList i k||D6 s.data.toList i k)=(b1||b2)):=HCD.out _ _ hb1 hb2
     rw[hb1]at HWC
     rw[hb2]at HWD
     clear hb1 hb2 HCD
     go_wp2_with fail
     refine(HRC.out _).mono ?_
     rintro e y1 ⟨rfl,hy1⟩
     have HS1:Hid (Bg6 w y1):=HS.out.step hy1
     clear hy1 HRC HS
     go_wp2_with fail
     refine(HWC.out _ HS1.out.below).mono ?_
     rintro e y2 ⟨rfl,hy2⟩
     have HS2:Hid (Bg6 w y2):=HS1.out.step hy2
     clear hy2 HWC HS1
     have HZ:Hid (Lies (y2.alloc (.cells #[.int .u8 0,.int .u8 0,.int .u8 0,.int .u8 0,.int .u8 0,.int .u8 0,.int .u8 0,.int .u8 0,.int .u8 0,.int .u8 0,.int .u8 0,.int .u8 0,.int .u8 0,.int .u8 0,.int .u8 0,.int .u8 0] 23)) y2.heap.size #[.int .u8 0,.int .u8 0,.int .u8 0,.int .u8 0,.int .u8 0,.int .u8 0,.int .u8 0,.int .u8 0,.int .u8 0,.int .u8 0,.int .u8 0,.int .u8 0,.int .u8 0,.int .u8 0,.int .u8 0,.int .u8 0] 23):=Lies.new y2 _ _
     have HS3:Hid (Bg6 w ((y2.alloc (.cells #[.int .u8 0,.int .u8 0,.int .u8 0,.int .u8 0,.int .u8 0,.int .u8 0,.int .u8 0,.int .u8 0,.int .u8 0,.int .u8 0,.int .u8 0,.int .u8 0,.int .u8 0,.int .u8 0,.int .u8 0,.int .u8 0] 23)).setRow y2.heap.size V)):=HS2.out.step (below_row ((Below.refl _ _).alloc (Nat.le_refl _) _) (Nat.le_refl _) _)
     clear HS2
     go_upto_region 8 with(refine wpList_store_row rfl 23 _ _ rfl y2.heap.size rfl _ V rfl 23 HZ.out (by rw[hVz];exact info16) (by rw[hVz];rfl) hVo rfl ?_)
     generalize (y2.alloc (.cells #[.int .u8 0,.int .u8 0,.int .u8 0,.int .u8 0,.int .u8 0,.int .u8 0,.int .u8 0,.int .u8 0,.int .u8 0,.int .u8 0,.int .u8 0,.int .u8 0,.int .u8 0,.int .u8 0,.int .u8 0,.int .u8 0] 23)).setRow y2.heap.size V=y3 at HS3 ⊢
     clear HZ
     go_wp2_with fail
     refine(HRC2.out _).mono ?_
     rintro e y4 ⟨rfl,hy4⟩
     have HS4:Hid (Bg6 w y4):=HS3.out.step hy4
     clear hy4 HRC2 HS3
     go_wp2_with fail
     refine(HWD.out _ HS4.out.below).mono ?_
     rintro e y5 ⟨rfl,hy5⟩
     have HS5:Hid (Bg6 w y5):=HS4.out.step hy5
     clear hy5 HWD HS4
     have HZ:Hid (Lies (y5.alloc (.cells #[.int .u8 0,.int .u8 0,.int .u8 0,.int .u8 0,.int .u8 0,.int .u8 0,.int .u8 0,.int .u8 0,.int .u8 0,.int .u8 0,.int .u8 0,.int .u8 0,.int .u8 0,.int .u8 0,.int .u8 0,.int .u8 0] 23)) y5.heap.size #[.int .u8 0,.int .u8 0,.int .u8 0,.int .u8 0,.int .u8 0,.int .u8 0,.int .u8 0,.int .u8 0,.int .u8 0,.int .u8 0,.int .u8 0,.int .u8 0,.int .u8 0,.int .u8 0,.int .u8 0,.int .u8 0] 23):=Lies.new y5 _ _
     have HS6:Hid (Bg6 w ((y5.alloc (.cells #[.int .u8 0,.int .u8 0,.int .u8 0,.int .u8 0,.int .u8 0,.int .u8 0,.int .u8 0,.int .u8 0,.int .u8 0,.int .u8 0,.int .u8 0,.int .u8 0,.int .u8 0,.int .u8 0,.int .u8 0,.int .u8 0] 23)).setRow y5.heap.size U)):=HS5.out.step (below_row ((Below.refl _ _).alloc (Nat.le_refl _) _) (Nat.le_refl _) _)
     clear HS5
     go_upto_region 9 with(refine wpList_store_row rfl 23 _ _ rfl y5.heap.size rfl _ U rfl 23 HZ.out (by rw[hUz];exact info16) (by rw[hUz];rfl) hUo rfl ?_)
     generalize (y5.alloc (.cells #[.int .u8 0,.int .u8 0,.int .u8 0,.int .u8 0,.int .u8 0,.int .u8 0,.int .u8 0,.int .u8 0,.int .u8 0,.int .u8 0,.int .u8 0,.int .u8 0,.int .u8 0,.int .u8 0,.int .u8 0,.int .u8 0] 23)).setRow y5.heap.size U=y6 at HS6 ⊢
     clear HZ
     cases b1 with
     |true=>
      have HR:Hid (begins6 s.data.toList=true):=begins6_some hk8 (by rw[HB.out];rfl)
      go_wp2_with fail
      go_ret
      exact⟨by rw[HR.out];rfl,HS6.out.below⟩
     |false=>
      cases b2 with
      |true=>
       have HR:Hid (begins6 s.data.toList=true):=begins6_some hk8 (by rw[HB.out];rfl)
       go_wp2_with fail
       go_ret
       exact⟨by rw[HR.out];rfl,HS6.out.below⟩
      |false=>
       have HM2:Hid (∀j,j<k+1→(C6 s.data.toList i j||D6 s.data.toList i j)=false):=fun j hj=>by
        rcases (by omega:j<k∨j=k) with h|rfl
        ·exact HM.out j h
        ·exact HB.out
       clear HM HB
       go_wp2_with fail
       go_roundw
       case rel=>exact⟨k+1,by omega,by go_num,HS6,HM2⟩
       case measure=>simp[intOf];omega
    ·obtain rfl:k=8:=by omega
     have hk4':¬(8:Int)<8:=by omega
     have HN2:Hid (∀j,j<i+1→∀k,k<8→(C6 s.data.toList j k||D6 s.data.toList j k)=false):=fun j hj=>by
      rcases (by omega:j<i∨j=i) with h|rfl
      ·exact HN.out j h
      ·exact HM.out
     clear HM HN
     go_wp2_with fail
     go_roundw
     case rel=>exact⟨i+1,by omega,by go_num,HS,HN2⟩
     case measure=>simp[intOf];omega
  ·obtain rfl:i=4:=by omega
   have hlt':¬(4:Int)<4:=by omega
   have HR:Hid (begins6 s.data.toList=false):=begins6_no HN.out
   clear HN
   go_wp2_with fail
   go_ret
   exact⟨by rw[HR.out];rfl,HS.out.below⟩
open Go.RowKit
set_option maxHeartbeats 8000000 in
set_option maxRecDepth 100000 in
theorem rlong_six (s:ByteArray) (w:World) (hT:∃m,w.cell? ⟨2,0,none⟩=some (.int .i64 m)) (hs:s.size≤140737488355328):Calls Tryz.prog 161 #[.string s,.bool true] w fun e w'=>e=.returned (.int .i64 (longest begins6 s.data.toList:Nat))∧Below w.heap.size w w':=by
 have HC:Hid (∀n,n≤46→n≤s.size→∀wx,Below w.heap.size w wx→Calls Tryz.prog 189 #[.string (s.extract 0 n)] wx fun e w'=>e=.returned (.bool (begins6 (s.data.toList.take n)))∧Below wx.heap.size wx w'):=fun n hn hns wx hx=>by
  have hT2:∃m,wx.cell? ⟨2,0,none⟩=some (.int .i64 m):=by
   obtain⟨m,hm⟩:=hT
   exact⟨m,(hx.cell (p:=⟨2,0,none⟩) (World.block_lt_of_cell? w _ hm)).trans hm⟩
  have:=rbeg6_any (s.extract 0 n) wx hT2 (by rw[ByteArray.size_extract];omega)
  rw[show(s.extract 0 n).data.toList=s.data.toList.take n from by rw[ByteArray.data_extract];simp]at this
  exact this
 clear hT
 obtain⟨N,hN⟩:∃N,N=min s.size 46:=⟨_,rfl⟩
 have hN1:N≤46:=by omega
 have hN2:N≤s.size:=by omega
 have HL:Hid (longest begins6 s.data.toList=longGo begins6 s.data.toList N):=by
  show _=_
  unfold longest
  rw[len_list,hN]
 have hmin:min (s.size:Int) 46=(N:Int):=by omega
 go_enter Tryz.func161,Tryz.ntmps161
 go_wp2_with fail
 try rw[hmin]
 go_loopw [5] (fun c wr=>∃n:Nat,n≤N∧c=.int .i64 n∧Hid (Below w.heap.size w wr)∧Hid (longest begins6 s.data.toList=longGo begins6 s.data.toList n)) (fun c _=>(intOf c).toNat)
 case atStart=>exact⟨N,Nat.le_refl _,by rw[hN],Below.refl _ _,HL⟩
 case round=>
  obtain⟨n,hn,rfl,HB,HG⟩:=hrel
  clear HL hmin hN
  cases n with
  |zero=>
   have h0:¬(0:Int)<0:=by omega
   have HR:Hid (longest begins6 s.data.toList=0):=HG.out
   clear HG
   go_wp2_with fail
   go_ret
   exact⟨by rw[HR.out];rfl,HB.out⟩
  |succ n=>
   have h0:(0:Int)<((n+1:Nat):Int):=by omega
   have hn46:((n+1:Nat):Int)≤46:=by omega
   have hns:((n+1:Nat):Int)≤(s.size:Int):=by omega
   have hns':n+1≤s.size:=by omega
   have HCn:=HC.out (n+1) (by omega) hns' wr HB.out
   have HQ:Hid (longest begins6 s.data.toList=if begins6 (s.data.toList.take (n+1))=true then n+1 else longGo begins6 s.data.toList n):=by
    show _=_
    rw[HG.out]
    rfl
   clear HG
   generalize begins6 (s.data.toList.take (n+1))=b at HCn HQ
   generalize hm:n+1=m at h0 hn46 hns hns' HCn HQ hn ⊢
   go_wp2_with fail
   refine HCn.mono ?_
   rintro e y ⟨rfl,hy⟩
   have HY:Hid (Below w.heap.size w y):=HB.out.trans (hy.mono HB.out.size)
   clear hy HCn HB
   cases b with
   |true=>
    have HR:Hid (longest begins6 s.data.toList=m):=HQ.out
    clear HQ
    go_wp2_with fail
    go_ret
    exact⟨by rw[HR.out];rfl,HY.out⟩
   |false=>
    have HR:Hid (longest begins6 s.data.toList=longGo begins6 s.data.toList n):=HQ.out
    clear HQ
    go_wp2_with fail
    go_roundw
    case rel=>exact⟨n,by omega,by go_num,HY,HR⟩
    case measure=>simp[intOf];omega
set_option maxHeartbeats 8000000 in
set_option maxRecDepth 100000 in
theorem rlong_four (s:ByteArray) (w:World) (hT:∃m,w.cell? ⟨2,0,none⟩=some (.int .i64 m)) (hs:s.size≤140737488355328):Calls Tryz.prog 161 #[.string s,.bool false] w fun e w'=>e=.returned (.int .i64 (longest begins4 s.data.toList:Nat))∧Below w.heap.size w w':=by
 have HC:Hid (∀n,n≤46→n≤s.size→∀wx,Below w.heap.size w wx→Calls Tryz.prog 190 #[.string (s.extract 0 n)] wx fun e w'=>e=.returned (.bool (begins4 (s.data.toList.take n)))∧Below wx.heap.size wx w'):=fun n hn hns wx hx=>by
  have hT2:∃m,wx.cell? ⟨2,0,none⟩=some (.int .i64 m):=by
   obtain⟨m,hm⟩:=hT
   exact⟨m,(hx.cell (p:=⟨2,0,none⟩) (World.block_lt_of_cell? w _ hm)).trans hm⟩
  have:=rbeg4_any (s.extract 0 n) wx hT2 (by rw[ByteArray.size_extract];omega)
  rw[show(s.extract 0 n).data.toList=s.data.toList.take n from by rw[ByteArray.data_extract];simp]at this
  exact this
 clear hT
 obtain⟨N,hN⟩:∃N,N=min s.size 46:=⟨_,rfl⟩
 have hN1:N≤46:=by omega
 have hN2:N≤s.size:=by omega
 have HL:Hid (longest begins4 s.data.toList=longGo begins4 s.data.toList N):=by
  show _=_
  unfold longest
  rw[len_list,hN]
 have hmin:min (s.size:Int) 46=(N:Int):=by omega
 go_enter Tryz.func161,Tryz.ntmps161
 go_wp2_with fail
 try rw[hmin]
 go_loopw [5] (fun c wr=>∃n:Nat,n≤N∧c=.int .i64 n∧Hid (Below w.heap.size w wr)∧Hid (longest begins4 s.data.toList=longGo begins4 s.data.toList n)) (fun c _=>(intOf c).toNat)
 case atStart=>exact⟨N,Nat.le_refl _,by rw[hN],Below.refl _ _,HL⟩
 case round=>
  obtain⟨n,hn,rfl,HB,HG⟩:=hrel
  clear HL hmin hN
  cases n with
  |zero=>
   have h0:¬(0:Int)<0:=by omega
   have HR:Hid (longest begins4 s.data.toList=0):=HG.out
   clear HG
   go_wp2_with fail
   go_ret
   exact⟨by rw[HR.out];rfl,HB.out⟩
  |succ n=>
   have h0:(0:Int)<((n+1:Nat):Int):=by omega
   have hn46:((n+1:Nat):Int)≤46:=by omega
   have hns:((n+1:Nat):Int)≤(s.size:Int):=by omega
   have hns':n+1≤s.size:=by omega
   have HCn:=HC.out (n+1) (by omega) hns' wr HB.out
   have HQ:Hid (longest begins4 s.data.toList=if begins4 (s.data.toList.take (n+1))=true then n+1 else longGo begins4 s.data.toList n):=by
    show _=_
    rw[HG.out]
    rfl
   clear HG
   generalize begins4 (s.data.toList.take (n+1))=b at HCn HQ
   generalize hm:n+1=m at h0 hn46 hns hns' HCn HQ hn ⊢
   go_wp2_with fail
   refine HCn.mono ?_
   rintro e y ⟨rfl,hy⟩
   have HY:Hid (Below w.heap.size w y):=HB.out.trans (hy.mono HB.out.size)
   clear hy HCn HB
   cases b with
   |true=>
    have HR:Hid (longest begins4 s.data.toList=m):=HQ.out
    clear HQ
    go_wp2_with fail
    go_ret
    exact⟨by rw[HR.out];rfl,HY.out⟩
   |false=>
    have HR:Hid (longest begins4 s.data.toList=longGo begins4 s.data.toList n):=HQ.out
    clear HQ
    go_wp2_with fail
    go_roundw
    case rel=>exact⟨n,by omega,by go_num,HY,HR⟩
    case measure=>simp[intOf];omega
open Go.RowKit
set_option maxHeartbeats 8000000 in
set_option maxRecDepth 100000 in
theorem rv4_any (s:ByteArray) (w:World) (hT:∃m,w.cell? ⟨2,0,none⟩=some (.int .i64 m)) (hs:s.size≤2000000):Calls Tryz.prog 126 #[.string s] w fun e w'=>e=.returned (v4V (v4 s.data.toList))∧Below w.heap.size w w':=by
 have HT:Hid (∀wx,Below w.heap.size w wx→∃m,wx.cell? ⟨2,0,none⟩=some (.int .i64 m)):=fun wx hx=>by
  obtain⟨m,hm⟩:=hT
  exact⟨m,(hx.cell (p:=⟨2,0,none⟩) (World.block_lt_of_cell? w _ hm)).trans hm⟩
 clear hT
 rw[←dV4_is]
 have R1:Hid (Lies ((w.alloc (.cells #[.int .u8 0,.int .u8 0,.int .u8 0,.int .u8 0] 108)).alloc (.cells #[.int .i64 0,.int .i64 0] 32)) w.heap.size #[.int .u8 0,.int .u8 0,.int .u8 0,.int .u8 0] 108):=(Lies.new w _ _).alloc _
 have R2:Hid (Lies ((w.alloc (.cells #[.int .u8 0,.int .u8 0,.int .u8 0,.int .u8 0] 108)).alloc (.cells #[.int .i64 0,.int .i64 0] 32)) (w.heap.size+1) #[.int .i64 0,.int .i64 0] 32):=new_one w _ _ _
 have KX:Hid (Below w.heap.size w ((w.alloc (.cells #[.int .u8 0,.int .u8 0,.int .u8 0,.int .u8 0] 108)).alloc (.cells #[.int .i64 0,.int .i64 0] 32))):=((Below.refl _ _).alloc (Nat.le_refl _) _).alloc (by simp) _
 go_enter Tryz.func126,Tryz.ntmps126
 go_upto_region 1 with fail
 generalize (w.alloc (.cells #[.int .u8 0,.int .u8 0,.int .u8 0,.int .u8 0] 108)).alloc (.cells #[.int .i64 0,.int .i64 0] 32)=v0 at R1 R2 KX ⊢
 have HW0:=rw4_any s v0 (HT.out _ KX.out) hs
 cases hw:whole4 s.data.toList with
 |none=>
  have HV:Hid (v4V (dV4 s.data.toList)=.tuple #[.agg #[.int .u8 0,.int .u8 0,.int .u8 0,.int .u8 0],.agg #[.int .i64 82,.int .i64 (longest begins4 s.data.toList:Nat)]]):=by
   show _=_
   unfold dV4
   rw[hw]
   rfl
  obtain⟨V,hV⟩:∃V:Array Value,V=#[.int .u8 0,.int .u8 0,.int .u8 0,.int .u8 0]:=⟨_,rfl⟩
  have hVz:V.size=4:=by rw[hV];rfl
  have hVo:V.all (·.oneCell')=true:=by rw[hV];simp[Value.oneCell']
  rw[←hV]at HV
  have HW:Hid (Calls Tryz.prog 163 #[.string s] v0 fun e w'=>e=.returned (.tuple #[.agg V,.bool false])∧Below v0.heap.size v0 w'):=by
   have e1:w4V s.data.toList=.tuple #[.agg V,.bool false]:=by unfold w4V;rw[hw,hV];rfl
   rw[e1]at HW0
   exact HW0
  clear HW0 hw hV
  have HL:Hid (∀wx,Below w.heap.size w wx→Calls Tryz.prog 161 #[.string s,.bool false] wx fun e w'=>e=.returned (.int .i64 (longest begins4 s.data.toList:Nat))∧Below wx.heap.size wx w'):=fun wx hx=>rlong_four s wx (HT.out wx hx) (by omega)
  generalize longest begins4 s.data.toList=p at HV HL
  go_wp2_with fail
  refine HW.out.mono ?_
  rintro e y1 ⟨rfl,hy1⟩
  have R1n:Hid (Lies y1 w.heap.size #[.int .u8 0,.int .u8 0,.int .u8 0,.int .u8 0] 108):=R1.out.below hy1 R1.out.lt
  have R2n:Hid (Lies y1 (w.heap.size+1) #[.int .i64 0,.int .i64 0] 32):=R2.out.below hy1 R2.out.lt
  have KXn:Hid (Below w.heap.size w y1):=KX.out.trans (hy1.mono KX.out.size)
  clear R1 R2 KX HW hy1
  have hg:w.heap.size+1<y1.heap.size:=R2n.out.lt
  have HZ:Hid (Lies (y1.alloc (.cells #[.int .u8 0,.int .u8 0,.int .u8 0,.int .u8 0] 108)) y1.heap.size #[.int .u8 0,.int .u8 0,.int .u8 0,.int .u8 0] 108):=Lies.new y1 _ _
  have R1:Hid (Lies ((y1.alloc (.cells #[.int .u8 0,.int .u8 0,.int .u8 0,.int .u8 0] 108)).setRow y1.heap.size V) w.heap.size #[.int .u8 0,.int .u8 0,.int .u8 0,.int .u8 0] 108):=(R1n.out.alloc _).row_other (by omega) _
  have R2:Hid (Lies ((y1.alloc (.cells #[.int .u8 0,.int .u8 0,.int .u8 0,.int .u8 0] 108)).setRow y1.heap.size V) (w.heap.size+1) #[.int .i64 0,.int .i64 0] 32):=(R2n.out.alloc _).row_other (by omega) _
  have R3:Hid (Lies ((y1.alloc (.cells #[.int .u8 0,.int .u8 0,.int .u8 0,.int .u8 0] 108)).setRow y1.heap.size V) y1.heap.size V 108):=HZ.out.row _
  have KX:Hid (Below w.heap.size w ((y1.alloc (.cells #[.int .u8 0,.int .u8 0,.int .u8 0,.int .u8 0] 108)).setRow y1.heap.size V)):=below_row (KXn.out.alloc KXn.out.size _) (by omega) _
  clear R1n R2n KXn
  go_upto_region 2 with(refine wpList_store_row rfl 108 _ _ rfl y1.heap.size rfl _ V rfl 108 HZ.out (by rw[hVz];exact info4) (by rw[hVz];rfl) hVo rfl ?_)
  clear HZ
  generalize (y1.alloc (.cells #[.int .u8 0,.int .u8 0,.int .u8 0,.int .u8 0] 108)).setRow y1.heap.size V=y2 at R1 R2 R3 KX ⊢
  generalize y1.heap.size=g at hg R3 ⊢
  clear y1
  go_upto_region 3 with fail
  refine wp_region_late (fun wx=>Lies wx g V 108) 6 (by kernel_rfl) (R3.out.drew) (fun hHeld=>?_)
  refine tk9 0 (some 13) (.agg V) ?_ (hy:=?hy)
  case hy=>
   intro w' hSw
   exact exec_load_row 108 _ rfl g rfl V 108 _ hSw Tryz.underlying108 rfl (by rw[hVz];exact info4)
  simp only[Act.put,pA,pB,pC]
  refine tk9 1 (some 14) _ ?_
  simp only[Act.put,pA,pB,pC]
  refine on9 2 ?_
  go_simp
  refine(HL.out _ KX.out.drew).mono ?_
  rintro e y3 ⟨rfl,hy3⟩
  have S3:Hid (Lies y3 g V 108):=R3.out.drew.below hy3 R3.out.lt
  have R1n:Hid (Lies y3 w.heap.size #[.int .u8 0,.int .u8 0,.int .u8 0,.int .u8 0] 108):=R1.out.drew.below hy3 R1.out.lt
  have R2n:Hid (Lies y3 (w.heap.size+1) #[.int .i64 0,.int .i64 0] 32):=R2.out.drew.below hy3 R2.out.lt
  have KXn:Hid (Below w.heap.size w y3):=KX.out.drew.trans (hy3.mono KX.out.size)
  have hS3:=S3.out
  refine⟨hS3,?_⟩
  clear R1 R2 KX R3 HL hy3 hHeld
  refine tk9 3 (some 16) (.agg #[.int .i64 82,.int .i64 (p:Nat)]) ?_
  simp only[Act.put,pA,pB,pC]
  refine on9 4 ?_
  refine oper_store_row 108 _ _ rfl w.heap.size rfl #[.int .u8 0,.int .u8 0,.int .u8 0,.int .u8 0] V rfl 108 R1n.out (by first|exact info4|(rw[hVz];exact info4)) (by rw[hVz];rfl) hVo rfl ?_
  refine⟨Or.inr (S3.out.row_other (by omega) _),?_⟩
  refine on9 5 ?_
  refine oper_store_row 32 _ _ rfl (w.heap.size+1) rfl #[.int .i64 0,.int .i64 0] #[.int .i64 82,.int .i64 (p:Nat)] rfl 32 (R2n.out.row_other (by omega) _) infoSp rfl (by simp[Value.oneCell']) rfl ?_
  refine⟨Or.inr ((S3.out.row_other (by omega) _).row_other (by omega) _),?_⟩
  refine wpAnyE_done (by kernel_rfl) ?_ _
  go_wp2
  refine bodyPost_ret (results_two (p:=2) (q:=3) (by kernel_rfl) _ _ w.heap.size (w.heap.size+1) 108 32 _ _ (0,0) (0,0) _ _ rfl rfl ((R1n.out.row _).row_other (by omega) _) ((R2n.out.row_other (by omega) _).row _) Tryz.underlying108 rfl (by rw[hVz];exact info4) Tryz.underlying32 rfl infoSp) rfl ⟨by rw[HV.out],below_two KXn.out (by omega)⟩
 |some x=>
  have HV:Hid (v4V (dV4 s.data.toList)=.tuple #[.agg (bytesV x),.agg #[.int .i64 0,.int .i64 0]]):=by
   show _=_
   unfold dV4
   rw[hw]
   rfl
  obtain⟨V,hV⟩:∃V:Array Value,V=bytesV x:=⟨_,rfl⟩
  have hVz:V.size=4:=by rw[hV,bytesV_size];exact whole4_len hw
  have hVo:V.all (·.oneCell')=true:=by
   rw[hV,Array.all_eq_true_iff_forall_mem]
   intro v hv
   exact cells8_one _ v (by unfold bytesV at hv;exact List.mem_toArray.1 hv)
  rw[←hV]at HV
  have HW:Hid (Calls Tryz.prog 163 #[.string s] v0 fun e w'=>e=.returned (.tuple #[.agg V,.bool true])∧Below v0.heap.size v0 w'):=by
   have e1:w4V s.data.toList=.tuple #[.agg V,.bool true]:=by unfold w4V;rw[hw,hV];rfl
   rw[e1]at HW0
   exact HW0
  clear HW0 hw hV
  go_wp2_with fail
  refine HW.out.mono ?_
  rintro e y1 ⟨rfl,hy1⟩
  have R1n:Hid (Lies y1 w.heap.size #[.int .u8 0,.int .u8 0,.int .u8 0,.int .u8 0] 108):=R1.out.below hy1 R1.out.lt
  have R2n:Hid (Lies y1 (w.heap.size+1) #[.int .i64 0,.int .i64 0] 32):=R2.out.below hy1 R2.out.lt
  have KXn:Hid (Below w.heap.size w y1):=KX.out.trans (hy1.mono KX.out.size)
  clear R1 R2 KX HW hy1
  have hg:w.heap.size+1<y1.heap.size:=R2n.out.lt
  have HZ:Hid (Lies (y1.alloc (.cells #[.int .u8 0,.int .u8 0,.int .u8 0,.int .u8 0] 108)) y1.heap.size #[.int .u8 0,.int .u8 0,.int .u8 0,.int .u8 0] 108):=Lies.new y1 _ _
  have R1:Hid (Lies ((y1.alloc (.cells #[.int .u8 0,.int .u8 0,.int .u8 0,.int .u8 0] 108)).setRow y1.heap.size V) w.heap.size #[.int .u8 0,.int .u8 0,.int .u8 0,.int .u8 0] 108):=(R1n.out.alloc _).row_other (by omega) _
  have R2:Hid (Lies ((y1.alloc (.cells #[.int .u8 0,.int .u8 0,.int .u8 0,.int .u8 0] 108)).setRow y1.heap.size V) (w.heap.size+1) #[.int .i64 0,.int .i64 0] 32):=(R2n.out.alloc _).row_other (by omega) _
  have R3:Hid (Lies ((y1.alloc (.cells #[.int .u8 0,.int .u8 0,.int .u8 0,.int .u8 0] 108)).setRow y1.heap.size V) y1.heap.size V 108):=HZ.out.row _
  have KX:Hid (Below w.heap.size w ((y1.alloc (.cells #[.int .u8 0,.int .u8 0,.int .u8 0,.int .u8 0] 108)).setRow y1.heap.size V)):=below_row (KXn.out.alloc KXn.out.size _) (by omega) _
  clear R1n R2n KXn
  go_upto_region 2 with(refine wpList_store_row rfl 108 _ _ rfl y1.heap.size rfl _ V rfl 108 HZ.out (by rw[hVz];exact info4) (by rw[hVz];rfl) hVo rfl ?_)
  clear HZ
  generalize (y1.alloc (.cells #[.int .u8 0,.int .u8 0,.int .u8 0,.int .u8 0] 108)).setRow y1.heap.size V=y2 at R1 R2 R3 KX ⊢
  generalize y1.heap.size=g at hg R3 ⊢
  clear y1
  go_wp2_with (first|(refine wpList_load_row rfl 108 _ rfl g rfl V 108 _ R3.out Tryz.underlying108 rfl (by rw[hVz];exact info4) ?_)|(refine wpList_store_row rfl 108 _ _ rfl w.heap.size rfl _ V rfl 108 R1.out (by rw[hVz];exact info4) (by rw[hVz];rfl) hVo rfl ?_)|(refine wpList_store_row rfl 32 _ _ rfl (w.heap.size+1) rfl _ #[.int .i64 0,.int .i64 0] rfl 32 (R2.out.row_other (by omega) _) infoSp rfl (by simp[Value.oneCell']) rfl ?_))
  refine bodyPost_ret (results_two (p:=2) (q:=3) (by kernel_rfl) _ _ w.heap.size (w.heap.size+1) 108 32 _ _ (0,0) (0,0) _ _ rfl rfl ((R1.out.row _).row_other (by omega) _) ((R2.out.row_other (by omega) _).row _) Tryz.underlying108 rfl (by rw[hVz];exact info4) Tryz.underlying32 rfl infoSp) rfl ⟨by rw[HV.out],below_two KX.out (by omega)⟩
set_option maxHeartbeats 8000000 in
set_option maxRecDepth 100000 in
theorem rv6_any (s:ByteArray) (w:World) (hT:∃m,w.cell? ⟨2,0,none⟩=some (.int .i64 m)) (hs:s.size≤2000000):Calls Tryz.prog 124 #[.string s] w fun e w'=>e=.returned (v6V (v6 s.data.toList))∧Below w.heap.size w w':=by
 have HT:Hid (∀wx,Below w.heap.size w wx→∃m,wx.cell? ⟨2,0,none⟩=some (.int .i64 m)):=fun wx hx=>by
  obtain⟨m,hm⟩:=hT
  exact⟨m,(hx.cell (p:=⟨2,0,none⟩) (World.block_lt_of_cell? w _ hm)).trans hm⟩
 clear hT
 rw[←dV6_is]
 have R1:Hid (Lies ((w.alloc (.cells #[.int .u8 0,.int .u8 0,.int .u8 0,.int .u8 0,.int .u8 0,.int .u8 0,.int .u8 0,.int .u8 0,.int .u8 0,.int .u8 0,.int .u8 0,.int .u8 0,.int .u8 0,.int .u8 0,.int .u8 0,.int .u8 0] 23)).alloc (.cells #[.int .i64 0,.int .i64 0] 32)) w.heap.size #[.int .u8 0,.int .u8 0,.int .u8 0,.int .u8 0,.int .u8 0,.int .u8 0,.int .u8 0,.int .u8 0,.int .u8 0,.int .u8 0,.int .u8 0,.int .u8 0,.int .u8 0,.int .u8 0,.int .u8 0,.int .u8 0] 23):=(Lies.new w _ _).alloc _
 have R2:Hid (Lies ((w.alloc (.cells #[.int .u8 0,.int .u8 0,.int .u8 0,.int .u8 0,.int .u8 0,.int .u8 0,.int .u8 0,.int .u8 0,.int .u8 0,.int .u8 0,.int .u8 0,.int .u8 0,.int .u8 0,.int .u8 0,.int .u8 0,.int .u8 0] 23)).alloc (.cells #[.int .i64 0,.int .i64 0] 32)) (w.heap.size+1) #[.int .i64 0,.int .i64 0] 32):=new_one w _ _ _
 have KX:Hid (Below w.heap.size w ((w.alloc (.cells #[.int .u8 0,.int .u8 0,.int .u8 0,.int .u8 0,.int .u8 0,.int .u8 0,.int .u8 0,.int .u8 0,.int .u8 0,.int .u8 0,.int .u8 0,.int .u8 0,.int .u8 0,.int .u8 0,.int .u8 0,.int .u8 0] 23)).alloc (.cells #[.int .i64 0,.int .i64 0] 32))):=((Below.refl _ _).alloc (Nat.le_refl _) _).alloc (by simp) _
 go_enter Tryz.func124,Tryz.ntmps124
 go_upto_region 1 with fail
 generalize (w.alloc (.cells #[.int .u8 0,.int .u8 0,.int .u8 0,.int .u8 0,.int .u8 0,.int .u8 0,.int .u8 0,.int .u8 0,.int .u8 0,.int .u8 0,.int .u8 0,.int .u8 0,.int .u8 0,.int .u8 0,.int .u8 0,.int .u8 0] 23)).alloc (.cells #[.int .i64 0,.int .i64 0] 32)=v0 at R1 R2 KX ⊢
 have HW0:=rw6_any s v0 (HT.out _ KX.out) hs
 cases hw:whole6 s.data.toList with
 |none=>
  have HV:Hid (v6V (dV6 s.data.toList)=.tuple #[.agg #[.int .u8 0,.int .u8 0,.int .u8 0,.int .u8 0,.int .u8 0,.int .u8 0,.int .u8 0,.int .u8 0,.int .u8 0,.int .u8 0,.int .u8 0,.int .u8 0,.int .u8 0,.int .u8 0,.int .u8 0,.int .u8 0],.agg #[.int .i64 82,.int .i64 (longest begins6 s.data.toList:Nat)]]):=by
   show _=_
   unfold dV6
   rw[hw]
   rfl
  obtain⟨V,hV⟩:∃V:Array Value,V=#[.int .u8 0,.int .u8 0,.int .u8 0,.int .u8 0,.int .u8 0,.int .u8 0,.int .u8 0,.int .u8 0,.int .u8 0,.int .u8 0,.int .u8 0,.int .u8 0,.int .u8 0,.int .u8 0,.int .u8 0,.int .u8 0]:=⟨_,rfl⟩
  have hVz:V.size=16:=by rw[hV];rfl
  have hVo:V.all (·.oneCell')=true:=by rw[hV];simp[Value.oneCell']
  rw[←hV]at HV
  have HW:Hid (Calls Tryz.prog 160 #[.string s] v0 fun e w'=>e=.returned (.tuple #[.agg V,.bool false])∧Below v0.heap.size v0 w'):=by
   have e1:w6V s.data.toList=.tuple #[.agg V,.bool false]:=by unfold w6V;rw[hw,hV];rfl
   rw[e1]at HW0
   exact HW0
  clear HW0 hw hV
  have HL:Hid (∀wx,Below w.heap.size w wx→Calls Tryz.prog 161 #[.string s,.bool true] wx fun e w'=>e=.returned (.int .i64 (longest begins6 s.data.toList:Nat))∧Below wx.heap.size wx w'):=fun wx hx=>rlong_six s wx (HT.out wx hx) (by omega)
  generalize longest begins6 s.data.toList=p at HV HL
  go_wp2_with fail
  refine HW.out.mono ?_
  rintro e y1 ⟨rfl,hy1⟩
  have R1n:Hid (Lies y1 w.heap.size #[.int .u8 0,.int .u8 0,.int .u8 0,.int .u8 0,.int .u8 0,.int .u8 0,.int .u8 0,.int .u8 0,.int .u8 0,.int .u8 0,.int .u8 0,.int .u8 0,.int .u8 0,.int .u8 0,.int .u8 0,.int .u8 0] 23):=R1.out.below hy1 R1.out.lt
  have R2n:Hid (Lies y1 (w.heap.size+1) #[.int .i64 0,.int .i64 0] 32):=R2.out.below hy1 R2.out.lt
  have KXn:Hid (Below w.heap.size w y1):=KX.out.trans (hy1.mono KX.out.size)
  clear R1 R2 KX HW hy1
  have hg:w.heap.size+1<y1.heap.size:=R2n.out.lt
  have HZ:Hid (Lies (y1.alloc (.cells #[.int .u8 0,.int .u8 0,.int .u8 0,.int .u8 0,.int .u8 0,.int .u8 0,.int .u8 0,.int .u8 0,.int .u8 0,.int .u8 0,.int .u8 0,.int .u8 0,.int .u8 0,.int .u8 0,.int .u8 0,.int .u8 0] 23)) y1.heap.size #[.int .u8 0,.int .u8 0,.int .u8 0,.int .u8 0,.int .u8 0,.int .u8 0,.int .u8 0,.int .u8 0,.int .u8 0,.int .u8 0,.int .u8 0,.int .u8 0,.int .u8 0,.int .u8 0,.int .u8 0,.int .u8 0] 23):=Lies.new y1 _ _
  have R1:Hid (Lies ((y1.alloc (.cells #[.int .u8 0,.int .u8 0,.int .u8 0,.int .u8 0,.int .u8 0,.int .u8 0,.int .u8 0,.int .u8 0,.int .u8 0,.int .u8 0,.int .u8 0,.int .u8 0,.int .u8 0,.int .u8 0,.int .u8 0,.int .u8 0] 23)).setRow y1.heap.size V) w.heap.size #[.int .u8 0,.int .u8 0,.int .u8 0,.int .u8 0,.int .u8 0,.int .u8 0,.int .u8 0,.int .u8 0,.int .u8 0,.int .u8 0,.int .u8 0,.int .u8 0,.int .u8 0,.int .u8 0,.int .u8 0,.int .u8 0] 23):=(R1n.out.alloc _).row_other (by omega) _
  have R2:Hid (Lies ((y1.alloc (.cells #[.int .u8 0,.int .u8 0,.int .u8 0,.int .u8 0,.int .u8 0,.int .u8 0,.int .u8 0,.int .u8 0,.int .u8 0,.int .u8 0,.int .u8 0,.int .u8 0,.int .u8 0,.int .u8 0,.int .u8 0,.int .u8 0] 23)).setRow y1.heap.size V) (w.heap.size+1) #[.int .i64 0,.int .i64 0] 32):=(R2n.out.alloc _).row_other (by omega) _
  have R3:Hid (Lies ((y1.alloc (.cells #[.int .u8 0,.int .u8 0,.int .u8 0,.int .u8 0,.int .u8 0,.int .u8 0,.int .u8 0,.int .u8 0,.int .u8 0,.int .u8 0,.int .u8 0,.int .u8 0,.int .u8 0,.int .u8 0,.int .u8 0,.int .u8 0] 23)).setRow y1.heap.size V) y1.heap.size V 23):=HZ.out.row _
  have KX:Hid (Below w.heap.size w ((y1.alloc (.cells #[.int .u8 0,.int .u8 0,.int .u8 0,.int .u8 0,.int .u8 0,.int .u8 0,.int .u8 0,.int .u8 0,.int .u8 0,.int .u8 0,.int .u8 0,.int .u8 0,.int .u8 0,.int .u8 0,.int .u8 0,.int .u8 0] 23)).setRow y1.heap.size V)):=below_row (KXn.out.alloc KXn.out.size _) (by omega) _
  clear R1n R2n KXn
  go_upto_region 2 with(refine wpList_store_row rfl 23 _ _ rfl y1.heap.size rfl _ V rfl 23 HZ.out (by rw[hVz];exact info16) (by rw[hVz];rfl) hVo rfl ?_)
  clear HZ
  generalize (y1.alloc (.cells #[.int .u8 0,.int .u8 0,.int .u8 0,.int .u8 0,.int .u8 0,.int .u8 0,.int .u8 0,.int .u8 0,.int .u8 0,.int .u8 0,.int .u8 0,.int .u8 0,.int .u8 0,.int .u8 0,.int .u8 0,.int .u8 0] 23)).setRow y1.heap.size V=y2 at R1 R2 R3 KX ⊢
  generalize y1.heap.size=g at hg R3 ⊢
  clear y1
  go_upto_region 3 with fail
  refine wp_region_late (fun wx=>Lies wx g V 23) 6 (by kernel_rfl) (R3.out.drew) (fun hHeld=>?_)
  refine tk9 0 (some 13) (.agg V) ?_ (hy:=?hy)
  case hy=>
   intro w' hSw
   exact exec_load_row 23 _ rfl g rfl V 23 _ hSw Tryz.underlying23 rfl (by rw[hVz];exact info16)
  simp only[Act.put,pA,pB,pC]
  refine tk9 1 (some 14) _ ?_
  simp only[Act.put,pA,pB,pC]
  refine on9 2 ?_
  go_simp
  refine(HL.out _ KX.out.drew).mono ?_
  rintro e y3 ⟨rfl,hy3⟩
  have S3:Hid (Lies y3 g V 23):=R3.out.drew.below hy3 R3.out.lt
  have R1n:Hid (Lies y3 w.heap.size #[.int .u8 0,.int .u8 0,.int .u8 0,.int .u8 0,.int .u8 0,.int .u8 0,.int .u8 0,.int .u8 0,.int .u8 0,.int .u8 0,.int .u8 0,.int .u8 0,.int .u8 0,.int .u8 0,.int .u8 0,.int .u8 0] 23):=R1.out.drew.below hy3 R1.out.lt
  have R2n:Hid (Lies y3 (w.heap.size+1) #[.int .i64 0,.int .i64 0] 32):=R2.out.drew.below hy3 R2.out.lt
  have KXn:Hid (Below w.heap.size w y3):=KX.out.drew.trans (hy3.mono KX.out.size)
  have hS3:=S3.out
  refine⟨hS3,?_⟩
  clear R1 R2 KX R3 HL hy3 hHeld
  refine tk9 3 (some 16) (.agg #[.int .i64 82,.int .i64 (p:Nat)]) ?_
  simp only[Act.put,pA,pB,pC]
  refine on9 4 ?_
  refine oper_store_row 23 _ _ rfl w.heap.size rfl #[.int .u8 0,.int .u8 0,.int .u8 0,.int .u8 0,.int .u8 0,.int .u8 0,.int .u8 0,.int .u8 0,.int .u8 0,.int .u8 0,.int .u8 0,.int .u8 0,.int .u8 0,.int .u8 0,.int .u8 0,.int .u8 0] V rfl 23 R1n.out (by first|exact info16|(rw[hVz];exact info16)) (by rw[hVz];rfl) hVo rfl ?_
  refine⟨Or.inr (S3.out.row_other (by omega) _),?_⟩
  refine on9 5 ?_
  refine oper_store_row 32 _ _ rfl (w.heap.size+1) rfl #[.int .i64 0,.int .i64 0] #[.int .i64 82,.int .i64 (p:Nat)] rfl 32 (R2n.out.row_other (by omega) _) infoSp rfl (by simp[Value.oneCell']) rfl ?_
  refine⟨Or.inr ((S3.out.row_other (by omega) _).row_other (by omega) _),?_⟩
  refine wpAnyE_done (by kernel_rfl) ?_ _
  go_wp2
  refine bodyPost_ret (results_two (p:=2) (q:=3) (by kernel_rfl) _ _ w.heap.size (w.heap.size+1) 23 32 _ _ (0,0) (0,0) _ _ rfl rfl ((R1n.out.row _).row_other (by omega) _) ((R2n.out.row_other (by omega) _).row _) Tryz.underlying23 rfl (by rw[hVz];exact info16) Tryz.underlying32 rfl infoSp) rfl ⟨by rw[HV.out],below_two KXn.out (by omega)⟩
 |some x=>
  have HV:Hid (v6V (dV6 s.data.toList)=.tuple #[.agg (bytesV x),.agg #[.int .i64 0,.int .i64 0]]):=by
   show _=_
   unfold dV6
   rw[hw]
   rfl
  obtain⟨V,hV⟩:∃V:Array Value,V=bytesV x:=⟨_,rfl⟩
  have hVz:V.size=16:=by rw[hV,bytesV_size];exact whole6_len hw
  have hVo:V.all (·.oneCell')=true:=by
   rw[hV,Array.all_eq_true_iff_forall_mem]
   intro v hv
   exact cells8_one _ v (by unfold bytesV at hv;exact List.mem_toArray.1 hv)
  rw[←hV]at HV
  have HW:Hid (Calls Tryz.prog 160 #[.string s] v0 fun e w'=>e=.returned (.tuple #[.agg V,.bool true])∧Below v0.heap.size v0 w'):=by
   have e1:w6V s.data.toList=.tuple #[.agg V,.bool true]:=by unfold w6V;rw[hw,hV];rfl
   rw[e1]at HW0
   exact HW0
  clear HW0 hw hV
  go_wp2_with fail
  refine HW.out.mono ?_
  rintro e y1 ⟨rfl,hy1⟩
  have R1n:Hid (Lies y1 w.heap.size #[.int .u8 0,.int .u8 0,.int .u8 0,.int .u8 0,.int .u8 0,.int .u8 0,.int .u8 0,.int .u8 0,.int .u8 0,.int .u8 0,.int .u8 0,.int .u8 0,.int .u8 0,.int .u8 0,.int .u8 0,.int .u8 0] 23):=R1.out.below hy1 R1.out.lt
  have R2n:Hid (Lies y1 (w.heap.size+1) #[.int .i64 0,.int .i64 0] 32):=R2.out.below hy1 R2.out.lt
  have KXn:Hid (Below w.heap.size w y1):=KX.out.trans (hy1.mono KX.out.size)
  clear R1 R2 KX HW hy1
  have hg:w.heap.size+1<y1.heap.size:=R2n.out.lt
  have HZ:Hid (Lies (y1.alloc (.cells #[.int .u8 0,.int .u8 0,.int .u8 0,.int .u8 0,.int .u8 0,.int .u8 0,.int .u8 0,.int .u8 0,.int .u8 0,.int .u8 0,.int .u8 0,.int .u8 0,.int .u8 0,.int .u8 0,.int .u8 0,.int .u8 0] 23)) y1.heap.size #[.int .u8 0,.int .u8 0,.int .u8 0,.int .u8 0,.int .u8 0,.int .u8 0,.int .u8 0,.int .u8 0,.int .u8 0,.int .u8 0,.int .u8 0,.int .u8 0,.int .u8 0,.int .u8 0,.int .u8 0,.int .u8 0] 23):=Lies.new y1 _ _
  have R1:Hid (Lies ((y1.alloc (.cells #[.int .u8 0,.int .u8 0,.int .u8 0,.int .u8 0,.int .u8 0,.int .u8 0,.int .u8 0,.int .u8 0,.int .u8 0,.int .u8 0,.int .u8 0,.int .u8 0,.int .u8 0,.int .u8 0,.int .u8 0,.int .u8 0] 23)).setRow y1.heap.size V) w.heap.size #[.int .u8 0,.int .u8 0,.int .u8 0,.int .u8 0,.int .u8 0,.int .u8 0,.int .u8 0,.int .u8 0,.int .u8 0,.int .u8 0,.int .u8 0,.int .u8 0,.int .u8 0,.int .u8 0,.int .u8 0,.int .u8 0] 23):=(R1n.out.alloc _).row_other (by omega) _
  have R2:Hid (Lies ((y1.alloc (.cells #[.int .u8 0,.int .u8 0,.int .u8 0,.int .u8 0,.int .u8 0,.int .u8 0,.int .u8 0,.int .u8 0,.int .u8 0,.int .u8 0,.int .u8 0,.int .u8 0,.int .u8 0,.int .u8 0,.int .u8 0,.int .u8 0] 23)).setRow y1.heap.size V) (w.heap.size+1) #[.int .i64 0,.int .i64 0] 32):=(R2n.out.alloc _).row_other (by omega) _
  have R3:Hid (Lies ((y1.alloc (.cells #[.int .u8 0,.int .u8 0,.int .u8 0,.int .u8 0,.int .u8 0,.int .u8 0,.int .u8 0,.int .u8 0,.int .u8 0,.int .u8 0,.int .u8 0,.int .u8 0,.int .u8 0,.int .u8 0,.int .u8 0,.int .u8 0] 23)).setRow y1.heap.size V) y1.heap.size V 23):=HZ.out.row _
  have KX:Hid (Below w.heap.size w ((y1.alloc (.cells #[.int .u8 0,.int .u8 0,.int .u8 0,.int .u8 0,.int .u8 0,.int .u8 0,.int .u8 0,.int .u8 0,.int .u8 0,.int .u8 0,.int .u8 0,.int .u8 0,.int .u8 0,.int .u8 0,.int .u8 0,.int .u8 0] 23)).setRow y1.heap.size V)):=below_row (KXn.out.alloc KXn.out.size _) (by omega) _
  clear R1n R2n KXn
  go_upto_region 2 with(refine wpList_store_row rfl 23 _ _ rfl y1.heap.size rfl _ V rfl 23 HZ.out (by rw[hVz];exact info16) (by rw[hVz];rfl) hVo rfl ?_)
  clear HZ
  generalize (y1.alloc (.cells #[.int .u8 0,.int .u8 0,.int .u8 0,.int .u8 0,.int .u8 0,.int .u8 0,.int .u8 0,.int .u8 0,.int .u8 0,.int .u8 0,.int .u8 0,.int .u8 0,.int .u8 0,.int .u8 0,.int .u8 0,.int .u8 0] 23)).setRow y1.heap.size V=y2 at R1 R2 R3 KX ⊢
  generalize y1.heap.size=g at hg R3 ⊢
  clear y1
  go_wp2_with (first|(refine wpList_load_row rfl 23 _ rfl g rfl V 23 _ R3.out Tryz.underlying23 rfl (by rw[hVz];exact info16) ?_)|(refine wpList_store_row rfl 23 _ _ rfl w.heap.size rfl _ V rfl 23 R1.out (by rw[hVz];exact info16) (by rw[hVz];rfl) hVo rfl ?_)|(refine wpList_store_row rfl 32 _ _ rfl (w.heap.size+1) rfl _ #[.int .i64 0,.int .i64 0] rfl 32 (R2.out.row_other (by omega) _) infoSp rfl (by simp[Value.oneCell']) rfl ?_))
  refine bodyPost_ret (results_two (p:=2) (q:=3) (by kernel_rfl) _ _ w.heap.size (w.heap.size+1) 23 32 _ _ (0,0) (0,0) _ _ rfl rfl ((R1.out.row _).row_other (by omega) _) ((R2.out.row_other (by omega) _).row _) Tryz.underlying23 rfl (by rw[hVz];exact info16) Tryz.underlying32 rfl infoSp) rfl ⟨by rw[HV.out],below_two KX.out (by omega)⟩
end Go.Proofs.YtfjpkfhbmldmfaaGreatDoor
