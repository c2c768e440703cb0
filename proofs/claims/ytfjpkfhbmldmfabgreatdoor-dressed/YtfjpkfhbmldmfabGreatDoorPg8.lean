/-
  The contracts of the library's ParseUint to the base sixteen, of a text of at most four digits; of domain's group.
-/
import Derived.Test.YtfjpkfhbmldmfabGreatDoorWd8
import Derived.Test.YtfjpkfhbmldmfabGreatDoorWt8
import Derived.Test.YtfjpkfhbmldmfabGreatDoorDmQ
import Derived.Lib.Walk
import Derived.Lib.IfaceEq
namespace Go.Proofs.YtfjpkfhbmldmfabGreatDoor
open Go.RowKit
theorem low_fin:∀b:Fin 256,bits BinOp.or IntKind.u8 (b.val:Int) 32=(((UInt8.ofNat b.val)|||32).toNat:Int):=by decide+kernel
set_option maxHeartbeats 1000000 in
theorem lower_any (c:UInt8) (w:World):Calls Tryz.prog 172 #[.int .u8 (c.toNat:Int)] w fun e w'=>e=.returned (.int .u8 ((c|||32).toNat:Int))∧w'=w:=by
 have h:=low_fin ⟨c.toNat,c.toNat_lt⟩
 simp only[UInt8.ofNat_toNat]at h
 go_enter Tryz.func172,Tryz.ntmps172
 go_wp2
 go_ret
 exact⟨rfl,rfl⟩
set_option maxHeartbeats 1000000 in
set_option maxRecDepth 100000 in
theorem ipuint_empty (w:World):Calls Tryz.prog 166 #[.string ⟨#[]⟩,.int .i64 16,.int .i64 16] w fun e w'=>e=.returned (.tuple #[.int .u64 0,.iface 214 (.int .i64 2)])∧w'=w:=by
 go_enter Tryz.func166,Tryz.ntmps166
 go_wp2
 exact bodyPost_ret (v:=.tuple #[.int .u64 0,.iface 214 (.int .i64 2)]) (by simp[results,Tryz.results166,go_sem]) rfl ⟨rfl,rfl⟩
set_option maxHeartbeats 1000000 in
set_option maxRecDepth 100000 in
theorem clone_empty (w:World):Calls Tryz.prog 187 #[.string ⟨#[]⟩] w fun e w'=>e=.returned (.string ⟨#[]⟩)∧w'=w:=by
 go_enter Tryz.func187,Tryz.ntmps187
 go_wp2
 go_ret
 exact⟨rfl,rfl⟩
set_option maxHeartbeats 1000000 in
set_option maxRecDepth 100000 in
theorem synerr_empty (f:ByteArray) (te:TypeId) (pe:Value) (w:World) (hv:w.cell? ⟨8,0,none⟩=some (.iface te pe)):Calls Tryz.prog 174 #[.string f,.string ⟨#[]⟩] w fun e w'=>(∃g,e=.returned (.pointer (some ⟨g,0,none⟩)))∧Below w.heap.size w w':=by
 go_enter Tryz.func174,Tryz.ntmps174
 go_wp2_with fail
 go_region_with (go_at_call 187;refine(clone_empty _).mono ?_;rintro e w' ⟨rfl,rfl⟩)
 all_goals go_wp2
 all_goals go_ret
 all_goals exact⟨⟨_,rfl⟩,((Below.refl _ _).alloc (Nat.le_refl _) _).drew⟩
set_option maxHeartbeats 1000000 in
set_option maxRecDepth 100000 in
theorem toerr_empty (f:ByteArray) (te:TypeId) (pe:Value) (w:World) (hv:w.cell? ⟨8,0,none⟩=some (.iface te pe)):Calls Tryz.prog 167 #[.string f,.string ⟨#[]⟩,.int .i64 16,.int .i64 16,.iface 214 (.int .i64 2)] w fun e w'=>(∃v,e=.returned v)∧Below w.heap.size w w':=by
 have heq:∀W,(binOp .eql 113 (.iface 214 (.int .i64 2)) (.iface 214 (.int .i64 2))).run Tryz.prog W=.ok (.bool true) W:=fun W=>Lib.run_eql_iface_int W 2 2 Tryz.underlying113 (by kernel_rfl) Tryz.underlying214
 go_enter Tryz.func167,Tryz.ntmps167
 go_wp2_with (go_at_call 174;refine(synerr_empty f te pe _ hv).mono ?_;rintro e w' ⟨⟨g,rfl⟩,hb⟩)
 go_ret
 exact⟨⟨_,rfl⟩,by assumption⟩
set_option maxHeartbeats 1000000 in
set_option maxRecDepth 100000 in
theorem puint_empty (te:TypeId) (pe:Value) (w:World) (hv:w.cell? ⟨8,0,none⟩=some (.iface te pe)):Calls Tryz.prog 153 #[.string ⟨#[]⟩,.int .i64 16,.int .i64 16] w fun e w'=>(∃v,e=.returned (.tuple #[.int .u64 0,v]))∧Below w.heap.size w w':=by
 go_enter Tryz.func153,Tryz.ntmps153
 go_wp2_with (first|(go_at_call 166;refine(ipuint_empty _).mono ?_;rintro e w' ⟨rfl,rfl⟩)|(go_at_call 167;refine(toerr_empty _ te pe _ hv).mono ?_;rintro e w' ⟨⟨v,rfl⟩,hb⟩))
 exact bodyPost_ret (v:=.tuple #[.int .u64 0,v]) (by simp[results,Tryz.results153,go_sem]) rfl ⟨⟨_,rfl⟩,by assumption⟩
theorem hexN_lt:∀(l:List UInt8) (n:Nat),(∀c∈l,hxB c=true)→hexN n l<(n+1)*16 ^ l.length
 |[],n,_=>by simp[hexN]
 |c::r,n,h=>by
  have hc:hxV c<16:=by
   have:=h c (by simp)
   simp only[hxB,dgB,Bool.or_eq_true,Bool.and_eq_true,decide_eq_true_eq]at this
   unfold hxV
   split
   ·omega
   ·split<;>omega
  have ih:=hexN_lt r (16*n+hxV c) (fun x hx=>h x (by simp[hx]))
  rw[hexN,List.length_cons,Nat.pow_succ]
  have:(16*n+hxV c+1)*16 ^ r.length≤(n+1)*16*16 ^ r.length:=Nat.mul_le_mul_right _ (by omega)
  rw[Nat.mul_comm (16 ^ r.length) 16,←Nat.mul_assoc]
  omega
structure ByRow (s:ByteArray) (B:Nat) (w wr:World):Prop where
 cell:∀j,(h:j<s.size)→wr.cell? ⟨B,j,none⟩=some (.int .u8 (s[j].toNat:Int))
 below:Below B w wr
theorem ByRow.start (s:ByteArray) (w:World) (cap:Nat) (n:Nat) (hn:n=(bytesRow s cap).size):ByRow s w.heap.size w (w.alloc (.cells (bytesRow s cap) 5 (n,n+1))).drew:=by
 refine⟨fun j hj=>?_,(UpRel.start s w cap n hn).below⟩
 have:=World.cell?_alloc_mark w (bytesRow s cap) 5 (n,n+1) j
 rw[bytesRow_at s cap j hj]at this
 exact this
theorem hxV_letter (c:UInt8) (h:hxB c=true) (h9:¬c.toNat≤57):97≤(c|||32).toNat∧(c|||32).toNat≤102∧((c|||32).toNat:Int) - 97+10=(hxV c:Int):=by
 have key:∀b:Fin 256,hxB (UInt8.ofNat b.val)=true→¬b.val≤57→97≤(UInt8.ofNat b.val|||32).toNat∧(UInt8.ofNat b.val|||32).toNat≤102∧((UInt8.ofNat b.val|||32).toNat:Int) - 97+10=(hxV (UInt8.ofNat b.val):Int):=by decide+kernel
 have:=key ⟨c.toNat,c.toNat_lt⟩
 simp only[UInt8.ofNat_toNat]at this
 exact this h h9
theorem hxV_digit (c:UInt8) (h9:c.toNat≤57):hxV c=c.toNat - 48:=by unfold hxV;rw[if_pos h9]
theorem hx_lo (c:UInt8) (h:hxB c=true):48≤c.toNat:=by
 simp only[hxB,dgB,Bool.or_eq_true,Bool.and_eq_true,decide_eq_true_eq]at h
 omega
theorem hexN_step (l:List UInt8) (k:Nat) (h:k<l.length):hexN 0 (l.take (k+1))=16*hexN 0 (l.take k)+hxV l[k]:=by
 rw[List.take_succ_eq_append_getElem h,hexN_append]
 rfl
set_option maxHeartbeats 4000000 in
set_option maxRecDepth 100000 in
theorem ipuint_hex (s:ByteArray) (w:World) (h1:1≤s.size) (h4:s.size≤4) (hx:∀c∈s.data.toList,hxB c=true):
  Calls Tryz.prog 166 #[.string s,.int .i64 16,.int .i64 16] w fun e w'=>e=.returned (.tuple #[.int .u64 (hexN 0 s.data.toList:Nat),.nilIface])∧Below w.heap.size w w':=by
 have hne:s.toList.isEmpty=false:=by
  rw[ByteArray.toList_eq]
  cases h:s.data.toList with
  |nil=>have:=congrArg List.length h;rw[len_list,List.length_nil]at this;omega
  |cons c r=>rfl
 have hconv:=run_bytes_of_string (P:=Tryz.prog) w 9 47 5 s Tryz.underlying9 Tryz.underlying47 Tryz.underlying5
 obtain⟨cap,hcap⟩:∃c,c=grownCap w s.size 0 5:=⟨_,rfl⟩
 rw[←hcap]at hconv
 obtain⟨n,hn⟩:∃n,n=(bytesRow s cap).size:=⟨_,rfl⟩
 rw[←hn]at hconv
 have HR:Hid (ByRow s w.heap.size w (w.alloc (.cells (bytesRow s cap) 5 (n,n+1))).drew):=ByRow.start s w cap n hn
 clear hcap hn
 go_enter Tryz.func166,Tryz.ntmps166
 go_wp2_with fail
 generalize (w.alloc (.cells (bytesRow s cap) 5 (n,n+1))).drew=W0 at HR ⊢
 clear hconv hne
 have HX:Hid (∀c∈s.data.toList,hxB c=true):=hx
 clear hx
 obtain⟨C,hC⟩:∃C:Int,C=1152921504606846976:=⟨_,rfl⟩
 rw[←hC]
 have hC1:(65536:Int)≤C:=by omega
 clear hC
 go_loop [12,13,101] (fun u m c=>∃k:Nat,k≤s.size∧u=.bool false∧m=.int .u64 (hexN 0 (s.data.toList.take k):Nat)∧c=.int .i64 k) (fun _ _ c=>s.size - (intOf c).toNat)
 case atStart=>exact⟨0,by omega,rfl,rfl,rfl⟩
 case round=>
  obtain⟨k,hk,rfl,rfl,rfl⟩:=hrel
  by_cases hlt:k<s.size
  ·have hc:=HR.out.cell k hlt
   have hch:hxB s[k]=true:=HX.out _ (by have:=List.getElem_mem (l:=s.data.toList) (n:=k) (by rw[len_list];exact hlt);exact this)
   have hlo:=hx_lo _ hch
   have hb:hexN 0 (s.data.toList.take k)<4096:=by
    have:=hexN_lt (s.data.toList.take k) 0 (fun c hc=>HX.out c (List.mem_of_mem_take hc))
    rw[List.length_take,len_list,Nat.min_eq_left hk]at this
    have h2:16 ^ k≤16 ^ 3:=Nat.pow_le_pow_right (by decide) (by omega)
    omega
   have hst:=hexN_step s.data.toList k (by rw[len_list];exact hlt)
   rw[at_list s k hlt]at hst
   obtain⟨x,hx⟩:∃x:UInt8,x=s[k]:=⟨_,rfl⟩
   rw[←hx]at hc hch hlo hst
   clear hx
   generalize hexN 0 (s.data.toList.take k)=m at hb hst
   have hx255:(x.toNat:Int)≤255:=by have:=x.toNat_lt;omega
   have hlo':(48:Int)≤(x.toNat:Int):=by omega
   by_cases h9:x.toNat≤57
   ·have hd:=hxV_digit x h9
    have h9':(x.toNat:Int)≤57:=by omega
    obtain⟨d,hdd⟩:∃d:Nat,d=x.toNat - 48:=⟨_,rfl⟩
    have hd1:(x.toNat:Int) - 48=(d:Int):=by omega
    have hd9:d≤9:=by omega
    rw[hd,←hdd]at hst
    have h95:((x.toNat:Int)==95)=false:=by rw[beq_eq_false_iff_ne];omega
    have h16:¬(16:Int)≤(d:Int):=by omega
    have hcut:¬C≤(m:Int):=by omega
    have hmd:¬(m:Int)*16+(d:Int)<(m:Int)*16:=by omega
    have hmx:¬(65535:Int)<(m:Int)*16+(d:Int):=by omega
    have HST:Hid (hexN 0 (s.data.toList.take (k+1))=16*m+d):=hst
    clear hst hd hdd h9 hch
    go_wp2_with fail
    go_round
    case rel=>exact⟨k+1,by omega,rfl,by rw[HST.out];congr 1;omega,by go_num⟩
    case measure=>simp[intOf];omega
   ·obtain⟨hl1,hl2,hl3⟩:=hxV_letter x hch h9
    have h9':¬(x.toNat:Int)≤57:=by omega
    obtain⟨d,hdd⟩:∃d:Nat,d=hxV x:=⟨_,rfl⟩
    rw[←hdd]at hst hl3
    have HLW:Hid (∀wx:World,Calls Tryz.prog 172 #[.int .u8 (x.toNat:Int)] wx fun e w'=>e=.returned (.int .u8 ((x|||32).toNat:Int))∧w'=wx):=fun wx=>lower_any x wx
    generalize (x|||32).toNat=y at hl1 hl2 hl3 HLW
    obtain⟨z,hz⟩:∃z:Nat,y=97+z:=⟨y - 97,by omega⟩
    have hy1:(97:Int)≤(y:Int):=by omega
    have hy2:(y:Int)≤122:=by omega
    have h95:((x.toNat:Int)==95)=false:=by
     rw[beq_eq_false_iff_ne]
     simp only[hxB,dgB,Bool.or_eq_true,Bool.and_eq_true,decide_eq_true_eq]at hch
     omega
    have HST:Hid (hexN 0 (s.data.toList.take (k+1))=16*m+d):=hst
    have HZ:Hid (y=97+z∧d=z+10∧z≤5):=⟨by omega,by omega,by omega⟩
    clear hst hdd h9 hch hl1 hl2 hl3 hz
    go_wp2_with fail
    refine(HLW.out _).mono ?_
    rintro e w1 ⟨rfl,rfl⟩
    go_wp2_with fail
    refine(HLW.out _).mono ?_
    rintro e w2 ⟨rfl,rfl⟩
    go_wp2_with fail
    refine(HLW.out _).mono ?_
    rintro e w3 ⟨rfl,rfl⟩
    obtain⟨hz0,hz1,hz5⟩:=HZ.out
    have hya:(y:Int) - 97=(z:Int):=by omega
    have hyb:(z:Int)+10=(d:Int):=by omega
    have hd15:d≤15:=by omega
    have h16:¬(16:Int)≤(d:Int):=by omega
    have hcut:¬C≤(m:Int):=by omega
    have hmd:¬(m:Int)*16+(d:Int)<(m:Int)*16:=by omega
    have hmx:¬(65535:Int)<(m:Int)*16+(d:Int):=by omega
    clear hz0 hz1 HZ hy1 hy2
    have hy1:(97:Int)≤(y:Int):=by omega
    clear HLW
    go_wp2_with fail
    go_round
    case rel=>exact⟨k+1,by omega,rfl,by rw[HST.out];congr 1;omega,by go_num⟩
    case measure=>simp[intOf];omega
  ·have hk':k=s.size:=by omega
   have HK:Hid (hexN 0 (s.data.toList.take k)=hexN 0 s.data.toList):=by
    show _=_
    rw[List.take_of_length_le (by rw[len_list];omega)]
   clear hk'
   go_wp2_with fail
   exact bodyPost_ret (v:=.tuple #[.int .u64 (hexN 0 (s.data.toList.take k):Nat),.nilIface]) (by simp[results,Tryz.results166,go_sem]) rfl ⟨by rw[HK.out],HR.out.below⟩
set_option maxHeartbeats 1000000 in
set_option maxRecDepth 100000 in
theorem puint_hex (s:ByteArray) (w:World) (h1:1≤s.size) (h4:s.size≤4) (hx:∀c∈s.data.toList,hxB c=true):
  Calls Tryz.prog 153 #[.string s,.int .i64 16,.int .i64 16] w fun e w'=>e=.returned (.tuple #[.int .u64 (hexN 0 s.data.toList:Nat),.nilIface])∧Below w.heap.size w w':=by
 have HI:Hid (Calls Tryz.prog 166 #[.string s,.int .i64 16,.int .i64 16] w fun e w'=>e=.returned (.tuple #[.int .u64 (hexN 0 s.data.toList:Nat),.nilIface])∧Below w.heap.size w w'):=ipuint_hex s w h1 h4 hx
 clear hx
 go_enter Tryz.func153,Tryz.ntmps153
 go_wp2_with (go_at_call 166;refine HI.out.mono ?_;rintro e w' ⟨rfl,hb⟩)
 exact bodyPost_ret (v:=.tuple #[.int .u64 (hexN 0 s.data.toList:Nat),.nilIface]) (by simp[results,Tryz.results153,go_sem]) rfl ⟨rfl,by assumption⟩
theorem hexSp_all:∀(l:List UInt8) (k:Nat),k≤hexSp l→∀c∈l.take k,hxB c=true
 |_,0,_,c,hc=>by simp at hc
 |[],k+1,h,c,hc=>by simp at hc
 |x::r,k+1,h,c,hc=>by
  rw[hexSp]at h
  by_cases hx:hxB x=true
  ·rw[if_pos hx]at h
   rw[List.take_succ_cons]at hc
   rcases List.mem_cons.1 hc with rfl|hc
   ·exact hx
   ·exact hexSp_all r k (by omega) c hc
  ·rw[if_neg hx]at h
   omega
theorem hexSp_le:∀l:List UInt8,hexSp l≤l.length
 |[]=>Nat.le_refl _
 |c::r=>by
  have:=hexSp_le r
  rw[hexSp]
  split<;>simp<;>omega
theorem grpN_lt (l:List UInt8):grpN l<65536:=by
 have h:=hexN_lt (l.take (grpL l)) 0 (hexSp_all l (grpL l) (Nat.min_le_left _ _))
 have h2:(l.take (grpL l)).length≤4:=by rw[List.length_take];unfold grpL;omega
 have h3:16 ^ (l.take (grpL l)).length≤16 ^ 4:=Nat.pow_le_pow_right (by decide) h2
 unfold grpN
 omega
open Go.RowKit
set_option maxHeartbeats 2000000 in
set_option maxRecDepth 100000 in
theorem group_any (s:ByteArray) (te:TypeId) (pe:Value) (w:World) (ht:Table w) (hv:w.cell? ⟨8,0,none⟩=some (.iface te pe)) (hs:s.size≤maxLen):
  Calls Tryz.prog 129 #[.string s] w fun e w'=>e=.returned (.tuple #[.int .u16 (grpN s.data.toList:Nat),.int .i64 (grpL s.data.toList:Nat)])∧Below w.heap.size w w':=by
 have HBAD:Hid (Calls Tryz.prog 38 #[.int .i64 4,.string s] w fun e w'=>e=.returned (.int .i64 (hexSp s.data.toList:Nat))∧w'=w):=by
  have h:=bad_anyT 4 s w ht hs
  rw[hexSp_bad]at h
  exact h
 have hle:=hexSp_le s.data.toList
 rw[len_list]at hle
 obtain⟨g,hg⟩:∃g,g=grpL s.data.toList:=⟨_,rfl⟩
 have hmin:min ((hexSp s.data.toList:Nat):Int) 4=(g:Int):=by
  rw[hg];unfold grpL;omega
 have hgs:g≤s.size:=by rw[hg];unfold grpL;omega
 have hg4:g≤4:=by rw[hg];unfold grpL;omega
 have he:(s.extract 0 g).data.toList=s.data.toList.take g:=by rw[ext_list,List.drop_zero]
 have hN:hexN 0 (s.data.toList.take g)=grpN s.data.toList:=by rw[hg];rfl
 have hlt:=grpN_lt s.data.toList
 rw[←hg]
 by_cases h0:g=0
 ·have HP:Hid (Calls Tryz.prog 153 #[.string (s.extract 0 g),.int .i64 16,.int .i64 16] w fun e w'=>(∃v,e=.returned (.tuple #[.int .u64 0,v]))∧Below w.heap.size w w'):=by
   have e0:s.extract 0 g=⟨#[]⟩:=by rw[h0];exact ByteArray.extract_same ..
   rw[e0]
   exact puint_empty te pe w hv
  have hN0:grpN s.data.toList=0:=by rw[←hN,h0];rfl
  rw[hN0]
  clear hN hN0 he ht hg hv h0 hlt
  generalize hexSp s.data.toList=p at hmin hle HBAD
  go_enter Tryz.func129,Tryz.ntmps129
  go_wp2_with fail
  refine HBAD.out.mono ?_
  rintro e w1 ⟨rfl,rfl⟩
  go_wp2_with fail
  refine HP.out.mono ?_
  rintro e w2 ⟨⟨v,rfl⟩,hb⟩
  have HB:Hid (Below w1.heap.size w1 w2):=hb
  clear hb
  go_wp2_with fail
  exact bodyPost_ret (v:=.tuple #[.int .u16 0,.int .i64 (g:Int)]) (by simp[results,Tryz.results129,go_sem]) rfl ⟨rfl,HB.out⟩
 ·have HP:Hid (Calls Tryz.prog 153 #[.string (s.extract 0 g),.int .i64 16,.int .i64 16] w fun e w'=>e=.returned (.tuple #[.int .u64 (grpN s.data.toList:Nat),.nilIface])∧Below w.heap.size w w'):=by
   have h:=puint_hex (s.extract 0 g) w (by rw[ByteArray.size_extract];omega) (by rw[ByteArray.size_extract];omega) (by rw[he,hg];exact hexSp_all s.data.toList _ (Nat.min_le_left _ _))
   rw[he,hN]at h
   exact h
  clear hN he ht hg hv h0
  generalize hexSp s.data.toList=p at hmin hle HBAD
  generalize grpN s.data.toList=q at HP hlt ⊢
  go_enter Tryz.func129,Tryz.ntmps129
  go_wp2_with fail
  refine HBAD.out.mono ?_
  rintro e w1 ⟨rfl,rfl⟩
  go_wp2_with fail
  refine HP.out.mono ?_
  rintro e w2 ⟨rfl,hb⟩
  have HB:Hid (Below w1.heap.size w1 w2):=hb
  clear hb
  go_wp2_with fail
  exact bodyPost_ret (v:=.tuple #[.int .u16 (q:Int),.int .i64 (g:Int)]) (by simp[results,Tryz.results129,go_sem]) rfl ⟨rfl,HB.out⟩
end Go.Proofs.YtfjpkfhbmldmfabGreatDoor
