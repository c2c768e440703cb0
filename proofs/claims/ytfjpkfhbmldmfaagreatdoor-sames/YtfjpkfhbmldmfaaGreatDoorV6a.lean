/-
  The contract of domain.V6.
-/
import Derived.Test.YtfjpkfhbmldmfaaGreatDoorWd8
import Derived.Test.YtfjpkfhbmldmfaaGreatDoorPg8
import Derived.Deep.DeepCutAuto
import Derived.Lib.EndianBits
namespace Go.Proofs.YtfjpkfhbmldmfaaGreatDoor
open Go.RowKit
def zero16:List Nat:=List.replicate 16 0
def v6V (r:Except Nat (List Nat)):Value:=match r with
 | .ok l=>.tuple #[.agg (bytesV l),.agg #[.int .i64 0,.int .i64 0]]
 | .error p=>.tuple #[.agg (bytesV zero16),.agg #[.int .i64 82,.int .i64 (p:Nat)]]
set_option maxHeartbeats 1000000 in
set_option maxRecDepth 100000 in
theorem v6wrong_any (b:Nat) (p k:Nat) (w:World) (hc:w.cell? ⟨b,0,none⟩=some (.int .i64 (p:Nat))) (hb:b<w.heap.size) (hp:p+k≤1000000000000000):
  Calls Tryz.prog 196 #[.int .i64 (k:Nat),.pointer (some ⟨b,0,none⟩)] w fun e w'=>e=.returned (.tuple #[.agg (bytesV zero16),.agg #[.int .i64 82,.int .i64 ((p+k:Nat):Int)]])∧Below w.heap.size w w':=by
 have hp1:(p:Int)+(k:Int)≤1000000000000000:=by omega
 have HB:Hid (Below w.heap.size w ((w.alloc (.cells (bytesV zero16) 23)).alloc (.cells #[.int .i64 82,.int .i64 ((p:Int)+(k:Int))] 32)).drew):=(((Below.refl _ _).alloc (Nat.le_refl _) _).alloc (by simp) _).drew
 have HL1:Hid (Lies ((w.alloc (.cells (bytesV zero16) 23)).alloc (.cells #[.int .i64 82,.int .i64 ((p:Int)+(k:Int))] 32)).drew w.heap.size (bytesV zero16) 23):=(Lies.new w _ _).alloc _
 have HL2:Hid (Lies ((w.alloc (.cells (bytesV zero16) 23)).alloc (.cells #[.int .i64 82,.int .i64 ((p:Int)+(k:Int))] 32)).drew (w.heap.size+1) #[.int .i64 82,.int .i64 ((p:Int)+(k:Int))] 32):=new_one w _ _ _
 clear hp
 go_enter Tryz.func196,Tryz.ntmps196
 go_wp2_with fail
 go_region
 all_goals go_wp2
 all_goals exact bodyPost_ret (results_two (p:=3) (q:=4) (by kernel_rfl) _ _ w.heap.size (w.heap.size+1) 23 32 (bytesV zero16) _ (0,0) (0,0) _ _ rfl rfl HL1.out HL2.out Tryz.underlying23 rfl info16 Tryz.underlying32 rfl infoSp) rfl ⟨rfl,HB.out⟩
set_option maxHeartbeats 1000000 in
set_option maxRecDepth 100000 in
theorem v6next_any (b c:Nat) (s m:ByteArray) (k:Nat) (w:World) (h1:w.cell? ⟨b,0,none⟩=some (.string s)) (h2:w.cell? ⟨c,0,none⟩=some (.int .i64 (k:Nat))) (hk:k≤s.size):
  Calls Tryz.prog 197 #[.string m,.pointer (some ⟨b,0,none⟩),.pointer (some ⟨c,0,none⟩)] w fun e w'=>e=.returned (.bool ((s.data.toList.drop k).take m.size==m.data.toList))∧w'=w:=by
 have hb:b<w.heap.size:=World.block_lt_of_cell? w _ h1
 have hc:c<w.heap.size:=World.block_lt_of_cell? w _ h2
 have HP:Hid (Calls Tryz.prog 129 #[.string (s.extract k s.size),.string m] w fun e w'=>e=.returned (.bool ((s.data.toList.drop k).take m.size==m.data.toList))∧w'=w):=by
  have h:=hasp_any (s.extract k s.size) m w
  rw[ext_drop]at h
  exact h
 generalize ((s.data.toList.drop k).take m.size==m.data.toList)=r at HP ⊢
 go_enter Tryz.func197,Tryz.ntmps197
 go_wp2_with (go_at_call 129;refine HP.out.mono ?_;rintro e w' ⟨rfl,rfl⟩)
 go_ret
 exact⟨rfl,rfl⟩
structure V6S (w:World) (s:ByteArray) (g:Gs) (k:Nat) (wr:World):Prop where
 t:Lies wr w.heap.size #[.string s] 9
 r1:Lies wr (w.heap.size+1) (bytesV zero16) 23
 r2:Lies wr (w.heap.size+2) #[.int .i64 0,.int .i64 0] 32
 gr:GrAt wr (w.heap.size+3) g
 pl:Lies wr (w.heap.size+4) #[.int .i64 (k:Nat)] 3
 below:Below w.heap.size w wr
theorem V6S.later {w wr wx:World} {s:ByteArray} {g:Gs} {k:Nat} (h:V6S w s g k wr) (hb:Below wr.heap.size wr wx):V6S w s g k wx:=
 ⟨h.t.below hb h.t.lt,h.r1.below hb h.r1.lt,h.r2.below hb h.r2.lt,h.gr.below hb,h.pl.below hb h.pl.lt,h.below.trans (hb.mono (Nat.le_of_lt h.t.lt))⟩
theorem V6S.move {w wr:World} {s:ByteArray} {g:Gs} {k:Nat} (h:V6S w s g k wr) (m:Nat):V6S w s g m (wr.setCell ⟨w.heap.size+4,0,none⟩ (.int .i64 (m:Nat))):=
 ⟨h.t.set_other (a:=⟨w.heap.size+4,0,none⟩) (by show w.heap.size≠w.heap.size+4;omega) _,h.r1.set_other (a:=⟨w.heap.size+4,0,none⟩) (by show w.heap.size+1≠w.heap.size+4;omega) _,h.r2.set_other (a:=⟨w.heap.size+4,0,none⟩) (by show w.heap.size+2≠w.heap.size+4;omega) _,⟨h.gr.lies.set_other (a:=⟨w.heap.size+4,0,none⟩) (by show w.heap.size+3≠w.heap.size+4;omega) _,h.gr.ok⟩,h.pl.set 0 _,h.below.setCell (p:=⟨w.heap.size+4,0,none⟩) (by show w.heap.size≤w.heap.size+4;omega) _⟩
theorem V6S.grp {w wr wx:World} {s:ByteArray} {g g':Gs} {k:Nat} (h:V6S w s g k wr) (hb:But (w.heap.size+3) wr wx) (hg:GrAt wx (w.heap.size+3) g'):V6S w s g' k wx:=
 ⟨hb.lies h.t (by omega),hb.lies h.r1 (by omega),hb.lies h.r2 (by omega),hg,hb.lies h.pl (by omega),h.below.trans (hb.below (by omega) (Nat.le_of_lt h.t.lt))⟩
theorem V6S.ret {w wr:World} {s:ByteArray} {g:Gs} {k:Nat} (h:V6S w s g k wr) (cs ds:Array Value) (R:Ending→World→Prop) (tmps:Array Value) (hp:tmps.getD 2 undef=.pointer (some ⟨w.heap.size+1,0,none⟩)) (hq:tmps.getD 3 undef=.pointer (some ⟨w.heap.size+2,0,none⟩)) (hc:cs.size=16) (hd:ds.size=2)
  (hR:R (.returned (.tuple #[.agg cs,.agg ds])) ((wr.setRow (w.heap.size+1) cs).setRow (w.heap.size+2) ds)):bodyPost Tryz.prog Tryz.f171 R .ret {tmps:=tmps,defers:=[]} ((wr.setRow (w.heap.size+1) cs).setRow (w.heap.size+2) ds):=
 bodyPost_ret (results_two (p:=2) (q:=3) (by kernel_rfl) tmps _ (w.heap.size+1) (w.heap.size+2) 23 32 cs ds (0,0) (0,0) _ _ hp hq ((h.r1.row cs).row_other (by omega) ds) ((h.r2.row_other (by omega) cs).row ds) Tryz.underlying23 rfl (by rw[hc];exact info16) Tryz.underlying32 rfl (by rw[hd];exact infoSp)) rfl hR
theorem V6S.below2 {w wr:World} {s:ByteArray} {g:Gs} {k:Nat} (h:V6S w s g k wr) (cs ds:Array Value):Below w.heap.size w ((wr.setRow (w.heap.size+1) cs).setRow (w.heap.size+2) ds):=below_row (below_row h.below (by omega) cs) (by omega) ds
theorem take_one (l:List UInt8) (c:UInt8):(l.take 1==[c])=decide (l.head?=some c):=by
 cases l with
 |nil=>rfl
 |cons x r=>rw[Bool.eq_iff_iff];simp
theorem addr_len (g:Gs) (h:g.Ok) (hf:g.gap=none→g.l.length=8):g.addr.length=16:=by rw[←partA_all g h hf,partA_length]
theorem whole0 (g:Gs) (h:g.Ok) (hw:g.whole 0=true):g.gap=none→g.l.length=8:=fun hg=>by
 have hle:=h.le
 unfold Gs.whole Gs.room at hw
 rw[hg]at hw
 simp at hw
 omega
theorem v6Go_step (f:Nat) (g:Gs) (a:Nat) (s:List UInt8) (L N:Nat) (hL:L=grpL s) (hN:N=grpN s):v6Go (f+1) g a s=
  if (decide (L=0)||decide (g.room=0))=true then .error a
  else if (g.whole 2&&decide ((s.drop L).head?=some 46))=true then (match v4 s with| .error p=>.error (a+max L p)| .ok x=>.ok ((g.put (pairN x 0)).put (pairN x 2)).addr)
  else if (decide (s.drop L=[])&&(g.put N).whole 0)=true then .ok (g.put N).addr
  else if (!decide ((s.drop L).head?=some 58)||decide ((g.put N).room=0))=true then .error (a+L)
  else if (s.drop (L+1)).head?=some 58 then (if (g.put N).mayOpen=true then (if s.drop (L+2)=[] then .ok (g.put N).open'.addr else v6Go f (g.put N).open' (a+L+2) (s.drop (L+2))) else .error (a+L+1))
  else v6Go f (g.put N) (a+L+1) (s.drop (L+1)):=by
 subst hL hN
 rw[v6Go,List.head?_drop]
 simp only[Bool.or_eq_true,Bool.and_eq_true,decide_eq_true_eq,Bool.not_eq_true',decide_eq_false_iff_not,ne_eq]
 rfl
theorem v4Go_le:∀(k:Nat) (l:List Nat) (a:Nat) (s:List UInt8) (p:Nat),v4Go k l a s=.error p→p≤a+s.length
 |0,l,a,s,p,h=>by
  rw[v4Go]at h
  split at h
  ·cases h
  ·injection h with h;omega
 |k+1,l,a,s,p,h=>by
  have h1:=numGo_le s 0 0 (by omega)
  have h2:=numGo_le (s.drop 1) 0 0 (by omega)
  rw[v4Go]at h
  split at h
  ·split at h
   ·injection h with h;omega
   ·have:=v4Go_le k _ _ _ p h
    rw[List.length_drop]at this
    omega
  ·split at h
   ·have hs:1≤s.length:=by
     cases s with
     |nil=>rename_i h3;cases h3
     |cons c r=>simp
    rw[List.length_drop]at h2
    split at h
    ·injection h with h;omega
    ·have:=v4Go_le k _ _ _ p h
     rw[List.length_drop,List.length_drop]at this
     omega
   ·injection h with h;omega
theorem v4_le (s:List UInt8) (p:Nat) (h:v4 s=.error p):p≤s.length:=by
 have:=v4Go_le 4 [] 0 s p h
 omega
theorem v4Go_ok:∀(k:Nat) (l:List Nat) (a:Nat) (s:List UInt8) (x:List Nat),(∀n∈l,n<256)→v4Go k l a s=.ok x→x.length=l.length+k∧∀n∈x,n<256
 |0,l,a,s,x,hl,h=>by
  rw[v4Go]at h
  split at h
  ·injection h with h;subst h;exact⟨rfl,hl⟩
  ·cases h
 |k+1,l,a,s,x,hl,h=>by
  have h1:=numGo_le s 0 0 (by omega)
  have h2:=numGo_le (s.drop 1) 0 0 (by omega)
  have key:∀m,m≤255→∀n∈l++[m],n<256:=fun m hm n hn=>by
   rcases List.mem_append.1 hn with hn|hn
   ·exact hl n hn
   ·rw[List.mem_singleton.1 hn];omega
  rw[v4Go]at h
  split at h
  ·split at h
   ·cases h
   ·have:=v4Go_ok k _ _ _ x (key _ h1.1) h
    rw[List.length_append,List.length_singleton]at this
    exact⟨by omega,this.2⟩
  ·split at h
   ·split at h
    ·cases h
    ·have:=v4Go_ok k _ _ _ x (key _ h2.1) h
     rw[List.length_append,List.length_singleton]at this
     exact⟨by omega,this.2⟩
   ·cases h
theorem v4_four (s:List UInt8) (x:List Nat) (h:v4 s=.ok x):∃a b c d,x=[a,b,c,d]∧a<256∧b<256∧c<256∧d<256:=by
 obtain⟨h1,h2⟩:=v4Go_ok 4 [] 0 s x (fun n hn=>by cases hn) h
 match x,h1 with
 |[a,b,c,d],_=>exact⟨a,b,c,d,rfl,h2 a (by simp),h2 b (by simp),h2 c (by simp),h2 d (by simp)⟩
theorem room_two (g:Gs) (h:g.Ok) (hw:g.whole 2=true):2≤g.room∧(g.gap=none→g.l.length=6):=by
 have hle:=h.le
 unfold Gs.whole Gs.room at*
 cases hg:g.gap with
 |none=>simp[hg]at hw ⊢;omega
 |some k=>simp[hg]at hw ⊢;omega
theorem u16_or_hi (a b:Nat) (ha:a<256) (hb:b<256):bits .or .u16 ((a:Int)*256) (b:Int)=((256*a+b:Nat):Int):=by
 have h:=u16_or8 (b:Int) ((a:Int)*256) (by omega) (by omega) (by omega) (by omega) (by omega)
 have e:bits .or .u16 ((a:Int)*256) (b:Int)=bits .or .u16 (b:Int) ((a:Int)*256):=by
  show IntKind.u16.wrap ((BitVec.ofInt 16 _|||BitVec.ofInt 16 _).toNat:Int)=IntKind.u16.wrap ((BitVec.ofInt 16 _|||BitVec.ofInt 16 _).toNat:Int)
  rw[BitVec.or_comm]
 rw[e,h]
 omega
theorem ret_bv {a b:Bool} (h:a=b):Value.bool a=Value.bool b:=by rw[h]
set_option maxHeartbeats 8000000 in
set_option maxRecDepth 100000 in
theorem v6_any (s:ByteArray) (te:TypeId) (pe:Value) (w:World) (ht:Table w) (hg:0<w.heap.size) (hv:w.cell? ⟨8,0,none⟩=some (.iface te pe)) (hs:s.size≤140737488355328):
  Calls Tryz.prog 171 #[.string s] w fun e w'=>e=.returned (v6V (v6 s.data.toList))∧Below w.heap.size w w':=by
 have HT:Hid (∀wx,Below w.heap.size w wx→Table wx):=fun wx hb=>ht.below hg hb
 have HES:Hid (∀wx,Below w.heap.size w wx→wx.cell? ⟨8,0,none⟩=some (.iface te pe)):=fun wx hb=>(hb.cell (p:=⟨8,0,none⟩) (World.block_lt_of_cell? w _ hv)).trans hv
 have HGRP:Hid (∀(k:Nat) (wx:World),Below w.heap.size w wx→Calls Tryz.prog 200 #[.string (s.extract k s.size)] wx fun e w'=>e=.returned (.tuple #[.int .u16 (grpN (s.data.toList.drop k):Nat),.int .i64 (grpL (s.data.toList.drop k):Nat)])∧Below wx.heap.size wx w'):=fun k wx hb=>by
  have h:=group_any (s.extract k s.size) te pe wx (HT.out wx hb) (HES.out wx hb) (by rw[ByteArray.size_extract];unfold maxLen;omega)
  rw[ext_drop]at h
  exact h
 have HV4:Hid (∀(k:Nat) (wx:World),Below w.heap.size w wx→Calls Tryz.prog 172 #[.string (s.extract k s.size)] wx fun e w'=>e=.returned (v4V (v4 (s.data.toList.drop k)))∧Below wx.heap.size wx w'):=fun k wx hb=>by
  have h:=v4_any (s.extract k s.size) wx (HT.out wx hb) (Nat.lt_of_lt_of_le hg hb.size) (by rw[ByteArray.size_extract];omega)
  rw[ext_drop]at h
  exact h
 have HDOT:Hid (∀(k:Nat) (wx:World),Calls Tryz.prog 129 #[.string (s.extract k s.size),.string ⟨#[46]⟩] wx fun e w'=>e=.returned (.bool (decide ((s.data.toList.drop k).head?=some 46)))∧w'=wx):=fun k wx=>by
  have h:=hasp_any (s.extract k s.size) ⟨#[46]⟩ wx
  rw[ext_drop,show(⟨#[46]⟩:ByteArray).size=1 from rfl,show(⟨#[46]⟩:ByteArray).data.toList=[46] from rfl,take_one]at h
  exact h
 have HNX:Hid (∀(g:Gs) (k:Nat) (wx:World),V6S w s g k wx→k≤s.size→Calls Tryz.prog 197 #[.string ⟨#[58]⟩,.pointer (some ⟨w.heap.size,0,none⟩),.pointer (some ⟨w.heap.size+4,0,none⟩)] wx fun e w'=>e=.returned (.bool (decide ((s.data.toList.drop k).head?=some 58)))∧w'=wx):=fun g k wx h hk=>by
  have h:=v6next_any w.heap.size (w.heap.size+4) s ⟨#[58]⟩ k wx (h.t.cell 0) (h.pl.cell 0) hk
  rw[show(⟨#[58]⟩:ByteArray).size=1 from rfl,show(⟨#[58]⟩:ByteArray).data.toList=[58] from rfl,take_one]at h
  exact h
 have HNN:Hid (∀(g:Gs) (wx:World),V6S w s g 0 wx→Calls Tryz.prog 197 #[.string ⟨#[58,58]⟩,.pointer (some ⟨w.heap.size,0,none⟩),.pointer (some ⟨w.heap.size+4,0,none⟩)] wx fun e w'=>e=.returned (.bool (s.data.toList.take 2==[58,58]))∧w'=wx):=fun g wx h=>
  v6next_any w.heap.size (w.heap.size+4) s ⟨#[58,58]⟩ 0 wx (h.t.cell 0) (h.pl.cell 0) (Nat.zero_le _)
 have HWR:Hid (∀(g:Gs) (k j:Nat) (wx:World),V6S w s g k wx→k+j≤1000000000000000→Calls Tryz.prog 196 #[.int .i64 (j:Nat),.pointer (some ⟨w.heap.size+4,0,none⟩)] wx fun e w'=>e=.returned (.tuple #[.agg (bytesV zero16),.agg #[.int .i64 82,.int .i64 ((k+j:Nat):Int)]])∧Below wx.heap.size wx w'):=fun g k j wx h hj=>
  v6wrong_any (w.heap.size+4) k j wx (h.pl.cell 0) h.pl.lt hj
 have H0:Hid (V6S w s ⟨[],none⟩ 0 (((((w.alloc (.cells #[.string s] 9)).alloc (.cells (bytesV zero16) 23)).alloc (.cells #[.int .i64 0,.int .i64 0] 32)).alloc (.cells (grC ⟨[],none⟩) 195)).alloc (.cells #[.int .i64 0] 3))):=
  ⟨((((Lies.new w _ _).alloc _).alloc _).alloc _).alloc _,(((new_one w _ _ _).alloc _).alloc _).alloc _,((new_two w _ _ _ _).alloc _).alloc _,⟨(by simpa using Lies.new (((w.alloc (.cells #[.string s] 9)).alloc (.cells (bytesV zero16) 23)).alloc (.cells #[.int .i64 0,.int .i64 0] 32)) (grC ⟨[],none⟩) 195:Lies ((((w.alloc (.cells #[.string s] 9)).alloc (.cells (bytesV zero16) 23)).alloc (.cells #[.int .i64 0,.int .i64 0] 32)).alloc (.cells (grC ⟨[],none⟩) 195)) (w.heap.size+3) (grC ⟨[],none⟩) 195).alloc _,⟨by simp,(fun k hk=>by cases hk),(fun n hn=>by cases hn)⟩⟩,by simpa using Lies.new ((((w.alloc (.cells #[.string s] 9)).alloc (.cells (bytesV zero16) 23)).alloc (.cells #[.int .i64 0,.int .i64 0] 32)).alloc (.cells (grC ⟨[],none⟩) 195)) #[.int .i64 0] 3,(((((Below.refl _ _).alloc (Nat.le_refl _) _).alloc (by simp) _).alloc (by simp;omega) _).alloc (by simp;omega) _).alloc (by simp;omega) _⟩
 clear ht hv
 go_enter Tryz.func171,Tryz.ntmps171
 go_wp2_with fail
 refine(HNN.out ⟨[],none⟩ _ H0.out).mono ?_
 rintro e w1 ⟨rfl,hw⟩
 have HS1:Hid (V6S w s ⟨[],none⟩ 0 w1):=by
  rw[hw]
  exact H0.out
 clear H0 hw
 obtain⟨d2,hd2⟩:∃d:Bool,d=(s.data.toList.take 2==[58,58]):=⟨_,rfl⟩
 rw[←hd2]
 have HD2:Hid (d2=(s.data.toList.take 2==[58,58])):=hd2
 clear hd2
 go_upto_if 15 with fail
 go_cut [2] (fun c wx=>∃(g:Gs) (k:Nat),c=.pointer (some ⟨w.heap.size+1,0,none⟩)∧k≤s.size∧Hid (V6S w s g k wx)∧Hid (g.l.length=0∧v6 s.data.toList=v6Go 9 g k (s.data.toList.drop k)))
 case first=>
  cases d2
  ·have hne:¬s.data.toList.take 2=[58,58]:=fun h=>by
    have:=HD2.out
    rw[h]at this
    exact absurd this (by decide)
   go_wp2_with fail
   refine(HNX.out ⟨[],none⟩ 0 _ HS1.out (by omega)).mono ?_
   rintro e w2 ⟨rfl,rfl⟩
   rw[List.drop_zero]
   by_cases hc:s.data.toList.head?=some 58
   ·rw[decide_eq_true hc]
    have HVV:Hid (v6 s.data.toList=.error (0+1)):=by
     show _=_
     unfold v6
     rw[if_neg hne,if_pos hc]
    have HSx:=HS1
    clear hc hne HD2
    go_wp2_with fail
    refine(HWR.out (⟨[],none⟩) (0) (1) _ HSx.out (by omega)).mono ?_
    rintro e w5 ⟨rfl,hb5⟩
    have HS5:Hid (V6S w s (⟨[],none⟩) (0) w5):=HSx.out.later hb5
    clear hb5
    go_wp2_with (first|(refine wpList_store_row rfl 23 _ _ rfl (w.heap.size+1) rfl _ (bytesV zero16) rfl 23 HS5.out.r1 info16 rfl (bytesV_one _) rfl ?_)|(refine wpList_store_row rfl 32 _ _ rfl (w.heap.size+2) rfl _ #[.int .i64 82,.int .i64 ((0+1:Nat):Int)] rfl 32 (HS5.out.r2.row_other (by omega) _) infoSp rfl (by simp[Value.oneCell']) rfl ?_))
    exact HS5.out.ret (bytesV zero16) #[.int .i64 82,.int .i64 ((0+1:Nat):Int)] _ _ rfl rfl rfl rfl ⟨by rw[HVV.out];rfl,HS5.out.below2 _ _⟩
   ·rw[decide_eq_false hc]
    have HVV:Hid ((⟨[],none⟩:Gs).l.length=0∧v6 s.data.toList=v6Go 9 ⟨[],none⟩ 0 (s.data.toList.drop 0)):=by
     refine⟨rfl,?_⟩
     unfold v6
     rw[if_neg hne,if_neg hc,List.drop_zero]
    clear hc hne HD2
    go_wp2_with fail
    go_meet
    exact⟨⟨[],none⟩,0,rfl,by omega,HS1,HVV⟩
  ·have he:s.data.toList.take 2=[58,58]:=by
    have:=HD2.out
    simpa using this.symm
   have hs2:2≤s.size:=by
    have:=congrArg List.length he
    rw[List.length_take,len_list]at this
    simp only[List.length_cons,List.length_nil]at this
    omega
   go_wp2_with fail
   refine(open_any8 (w.heap.size+3) ⟨[],none⟩ _ HS1.out.gr rfl).mono ?_
   rintro e w2 ⟨rfl,hg2,hb2⟩
   have HS2:Hid (V6S w s ⟨[],some 0⟩ 0 w2):=HS1.out.grp hb2 hg2
   have HS3:Hid (V6S w s ⟨[],some 0⟩ 2 (w2.setCell ⟨w.heap.size+4,0,none⟩ (.int .i64 2))):=HS2.out.move 2
   have c4:=HS2.out.pl.cell 0
   have f4:=HS2.out.pl.frozen 0
   have c0:=HS2.out.t.cell 0
   simp at c4 c0
   have hz:=HS2.out.pl.lt
   clear hg2 hb2
   by_cases hl:s.size=2
   ·have HVV:Hid (v6 s.data.toList=.ok (Gs.addr ⟨[],some 0⟩)):=by
     show _=_
     unfold v6
     rw[if_pos he,if_pos (by rw[len_list];exact hl)]
    have hl':((2:Int)==(s.size:Int))=true:=by rw[beq_iff_eq];omega
    have HSx:=HS3
    have hfull:(⟨[],some 0⟩:Gs).gap=none→(⟨[],some 0⟩:Gs).l.length=8:=fun h=>by cases h
    clear hl HD2 he HS1 HS2 HS3
    have hsz:(bytesV (Gs.addr (⟨[],some 0⟩))).size=16:=by rw[bytesV_size];exact addr_len _ HSx.out.gr.ok hfull
    go_wp2_with fail
    refine(addr_any (w.heap.size+3) (⟨[],some 0⟩) _ HSx.out.gr hfull).mono ?_
    rintro e w5 ⟨rfl,hb5⟩
    have HS5:Hid (V6S w s (⟨[],some 0⟩) (2) w5):=HSx.out.later hb5
    clear hb5
    go_wp2_with (first|(refine wpList_store_row rfl 23 _ _ rfl (w.heap.size+1) rfl _ (bytesV (Gs.addr (⟨[],some 0⟩))) rfl 23 HS5.out.r1 (by rw[hsz];exact info16) (by rw[hsz];rfl) (bytesV_one _) rfl ?_)|(refine wpList_store_row rfl 32 _ _ rfl (w.heap.size+2) rfl _ #[.int .i64 0,.int .i64 0] rfl 32 (HS5.out.r2.row_other (by omega) _) infoSp rfl (by simp[Value.oneCell']) rfl ?_))
    exact HS5.out.ret (bytesV (Gs.addr (⟨[],some 0⟩))) #[.int .i64 0,.int .i64 0] _ _ rfl rfl hsz rfl ⟨by rw[HVV.out];rfl,HS5.out.below2 _ _⟩
   ·have HVV:Hid ((⟨[],some 0⟩:Gs).l.length=0∧v6 s.data.toList=v6Go 9 ⟨[],some 0⟩ 2 (s.data.toList.drop 2)):=by
     refine⟨rfl,?_⟩
     unfold v6
     rw[if_pos he,if_neg (by rw[len_list];exact hl)]
    have hl':((2:Int)==(s.size:Int))=false:=by rw[beq_eq_false_iff_ne];omega
    clear hl HD2 he HS1 HS2
    go_wp2_with fail
    go_meet
    exact⟨⟨[],some 0⟩,2,rfl,hs2,HS3,HVV⟩
 clear HS1 HD2 HNN d2 w1
 obtain⟨g0,k0,rfl,hk0,HS0,HV0⟩:=hcut
 go_wp2_with fail
 go_loopw [8] (fun _ wr=>∃(g:Gs) (k f:Nat),k≤s.size∧8 - g.l.length<f∧Hid (V6S w s g k wr)∧Hid (v6 s.data.toList=v6Go f g k (s.data.toList.drop k))) (fun _ wr=>9 - (match wr.cell? ⟨w.heap.size+3,8,none⟩ with|some v=>(intOf v).toNat|none=>0))
 case atStart=>exact⟨g0,k0,9,hk0,by have:=HV0.out.1;omega,HS0,HV0.out.2⟩
 case round=>
  obtain⟨g,k,f,hk,hf,HS,HV⟩:=hrel
  clear HS0 HV0 hk0
  obtain⟨f,rfl⟩:∃f',f=f'+1:=⟨f - 1,by omega⟩
  obtain⟨L,hL⟩:∃L,L=grpL (s.data.toList.drop k):=⟨_,rfl⟩
  obtain⟨N,hN⟩:∃N,N=grpN (s.data.toList.drop k):=⟨_,rfl⟩
  have hN6:N<65536:=by rw[hN];exact grpN_lt _
  have hkL:k+L≤s.size:=by
   have h1:=hexSp_le (s.data.toList.drop k)
   rw[List.length_drop,len_list]at h1
   rw[hL]
   unfold grpL
   omega
  have HV1:=v6Go_step f g k (s.data.toList.drop k) L N hL hN
  rw[←HV.out,List.drop_drop,List.drop_drop,List.drop_drop,←Nat.add_assoc,←Nat.add_assoc]at HV1
  have HV2:Hid _:=HV1
  clear HV1 HV
  have c0:=HS.out.t.cell 0
  have c4:=HS.out.pl.cell 0
  simp at c0 c4
  have hz:=HS.out.pl.lt
  have HME:Hid (wr.cell? ⟨w.heap.size+3,8,none⟩=some (.int .i64 (g.l.length:Nat))):=HS.out.gr.cells.1
  go_wp2_with fail
  refine(HGRP.out k _ HS.out.below).mono ?_
  rintro e w1 ⟨rfl,hb1⟩
  have HS1:Hid (V6S w s g k w1):=HS.out.later hb1
  rw[←hL,←hN]
  clear c0 c4 hz HS hb1 hL hN
  have c0:=HS1.out.t.cell 0
  have c4:=HS1.out.pl.cell 0
  have f4:=HS1.out.pl.frozen 0
  simp at c0 c4
  have hz:=HS1.out.pl.lt
  have HROOM:Hid (Calls Tryz.prog 201 #[.pointer (some ⟨w.heap.size+3,0,none⟩)] w1 fun e w'=>e=.returned (.int .i64 (g.room:Nat))∧w'=w1):=room_any _ g w1 HS1.out.gr
  go_upto_region 13 with fail
  go_cut [41] (fun c wx=>c=.bool (decide (L=0)||decide (g.room=0))∧wx=w1)
  case first=>
   by_cases hL0:L=0
   ·have hL0':((L:Int)==0)=true:=by rw[beq_iff_eq];omega
    have HD:Hid (decide (L=0)=true):=decide_eq_true hL0
    clear hL0
    go_wp2_with fail
    go_meet
    exact⟨ret_bv (by rw[HD.out];rfl),rfl⟩
   ·have hL0':((L:Int)==0)=false:=by rw[beq_eq_false_iff_ne];omega
    have HD:Hid (decide (L=0)=false):=decide_eq_false hL0
    clear hL0
    go_wp2_with fail
    refine HROOM.out.mono ?_
    rintro e w2 ⟨rfl,rfl⟩
    go_wp2_with fail
    go_meet
    exact⟨ret_bv (by rw[HD.out,Bool.false_or,Bool.eq_iff_iff];simp;try omega),rfl⟩
  obtain⟨rfl,hwc⟩:=hcut
  rw[hwc]
  clear hwc HROOM
  obtain⟨b13,hb13⟩:∃b:Bool,b=(decide (L=0)||decide (g.room=0)):=⟨_,rfl⟩
  have HV3:=HV2.out
  rw[←hb13]at HV3 ⊢
  have HB13:Hid (b13=(decide (L=0)||decide (g.room=0))):=hb13
  clear hb13 HV2
  cases b13
  case true=>
   rw[if_pos rfl]at HV3
   have HVV:Hid (v6 s.data.toList=.error (k+0)):=HV3
   have HSx:=HS1
   clear HV3 HB13 HME
   go_wp2_with fail
   refine(HWR.out (g) (k) (0) _ HSx.out (by omega)).mono ?_
   rintro e w5 ⟨rfl,hb5⟩
   have HS5:Hid (V6S w s (g) (k) w5):=HSx.out.later hb5
   clear hb5
   go_wp2_with (first|(refine wpList_store_row rfl 23 _ _ rfl (w.heap.size+1) rfl _ (bytesV zero16) rfl 23 HS5.out.r1 info16 rfl (bytesV_one _) rfl ?_)|(refine wpList_store_row rfl 32 _ _ rfl (w.heap.size+2) rfl _ #[.int .i64 82,.int .i64 ((k+0:Nat):Int)] rfl 32 (HS5.out.r2.row_other (by omega) _) infoSp rfl (by simp[Value.oneCell']) rfl ?_))
   exact HS5.out.ret (bytesV zero16) #[.int .i64 82,.int .i64 ((k+0:Nat):Int)] _ _ rfl rfl rfl rfl ⟨by rw[HVV.out];rfl,HS5.out.below2 _ _⟩
  case false=>
   rw[if_neg (by decide)]at HV3
   have hroom:0<g.room:=by
    have:=HB13.out
    simp at this
    omega
   clear HB13
   have HW2:Hid (Calls Tryz.prog 202 #[.pointer (some ⟨w.heap.size+3,0,none⟩),.int .i64 2] w1 fun e w'=>e=.returned (.bool (g.whole 2))∧w'=w1):=whole_any _ g 2 w1 HS1.out.gr
   have HDT:Hid (Calls Tryz.prog 129 #[.string (s.extract (k+L) s.size),.string ⟨#[46]⟩] w1 fun e w'=>e=.returned (.bool (decide ((s.data.toList.drop (k+L)).head?=some 46)))∧w'=w1):=HDOT.out (k+L) w1
   have HV4b:Hid _:=HV3
   clear HV3
   have hkL':(k:Int)+(L:Int)≤(s.size:Int):=by omega
   go_upto_region 15 with fail
   go_cut [54] (fun c wx=>c=.bool (g.whole 2&&decide ((s.data.toList.drop (k+L)).head?=some 46))∧wx=w1)
   case first=>
    obtain⟨bw,hbw⟩:∃b,b=g.whole 2:=⟨_,rfl⟩
    rw[←hbw]at HW2
    have HBW:Hid (bw=g.whole 2):=hbw
    clear hbw
    cases bw
    ·go_wp2_with fail
     refine HW2.out.mono ?_
     rintro e w2 ⟨rfl,rfl⟩
     go_wp2_with fail
     go_meet
     exact⟨ret_bv (by rw[←HBW.out];rfl),rfl⟩
    ·go_wp2_with fail
     refine HW2.out.mono ?_
     rintro e w2 ⟨rfl,rfl⟩
     go_wp2_with fail
     obtain⟨bd,hbd⟩:∃b,b=decide ((s.data.toList.drop (k+L)).head?=some 46):=⟨_,rfl⟩
     rw[←hbd]at HDT
     have HBD:Hid (bd=decide ((s.data.toList.drop (k+L)).head?=some 46)):=hbd
     clear hbd
     refine HDT.out.mono ?_
     rintro e w3 ⟨rfl,rfl⟩
     go_wp2_with fail
     go_meet
     exact⟨ret_bv (by rw[←HBW.out,←HBD.out];cases bd<;>rfl),rfl⟩
   obtain⟨rfl,hwc⟩:=hcut
   rw[hwc]
   clear hwc HW2 HDT
   obtain⟨b15,hb15⟩:∃b:Bool,b=(g.whole 2&&decide ((s.data.toList.drop (k+L)).head?=some 46)):=⟨_,rfl⟩
   have HV5:=HV4b.out
   rw[←hb15]at HV5 ⊢
   have HB15:Hid (b15=(g.whole 2&&decide ((s.data.toList.drop (k+L)).head?=some 46))):=hb15
   clear hb15 HV4b
   cases b15
   case true=>
    rw[if_pos rfl]at HV5
    have hw2:g.whole 2=true:=by
     have:=HB15.out
     simp at this
     exact this.1
    obtain⟨hr2,hl6⟩:=room_two g HS1.out.gr.ok hw2
    clear HB15 hw2
    go_wp2_with fail
    refine(HV4.out k _ HS1.out.below).mono ?_
    rintro e w2 ⟨rfl,hb2⟩
    have HS2:Hid (V6S w s g k w2):=HS1.out.later hb2
    clear hb2 HS1 c0 c4 f4 hz
    cases hv4:v4 (s.data.toList.drop k) with
    |error p=>
     rw[hv4]at HV5
     have hp:=v4_le _ p hv4
     rw[List.length_drop,len_list]at hp
     have HVV:Hid (v6 s.data.toList=.error (k+max L p)):=HV5
     have HSx:Hid (V6S w s g k ((w2.alloc (.cells #[.int .u8 0,.int .u8 0,.int .u8 0,.int .u8 0] 108)).alloc (.cells #[.int .i64 82,.int .i64 (p:Nat)] 32))):=HS2.out.later (((Below.refl _ _).alloc (Nat.le_refl _) _).alloc (by simp) _)
     have hmax:max (L:Int) (p:Int)=((max L p:Nat):Int):=by omega
     have hmx:max L p≤s.size:=by omega
     obtain⟨M,hM⟩:∃M,M=max L p:=⟨_,rfl⟩
     rw[←hM]at HVV hmax hmx
     unfold v4V
     dsimp only
     have hz:=HS2.out.pl.lt
     clear HV5 hv4 hM HS2
     go_wp2_with fail
     refine(HWR.out (g) (k) (M) _ HSx.out (by omega)).mono ?_
     rintro e w5 ⟨rfl,hb5⟩
     have HS5:Hid (V6S w s (g) (k) w5):=HSx.out.later hb5
     clear hb5
     go_wp2_with (first|(refine wpList_store_row rfl 23 _ _ rfl (w.heap.size+1) rfl _ (bytesV zero16) rfl 23 HS5.out.r1 info16 rfl (bytesV_one _) rfl ?_)|(refine wpList_store_row rfl 32 _ _ rfl (w.heap.size+2) rfl _ #[.int .i64 82,.int .i64 ((k+M:Nat):Int)] rfl 32 (HS5.out.r2.row_other (by omega) _) infoSp rfl (by simp[Value.oneCell']) rfl ?_))
     exact HS5.out.ret (bytesV zero16) #[.int .i64 82,.int .i64 ((k+M:Nat):Int)] _ _ rfl rfl rfl rfl ⟨by rw[HVV.out];rfl,HS5.out.below2 _ _⟩
    |ok x=>
     rw[hv4]at HV5
     obtain⟨a,b,c,d,rfl,ha,hb,hc,hd⟩:=v4_four _ _ hv4
     have hab:256*a+b<65536:=by omega
     have hcd:256*c+d<65536:=by omega
     have HVV:Hid (v6 s.data.toList=.ok (Gs.addr ((g.put (256*a+b)).put (256*c+d)))):=HV5
     have HS3:Hid (V6S w s g k ((w2.alloc (.cells #[.int .u8 (a:Int),.int .u8 (b:Int),.int .u8 (c:Int),.int .u8 (d:Int)] 108)).alloc (.cells #[.int .i64 0,.int .i64 0] 32))):=HS2.out.later (((Below.refl _ _).alloc (Nat.le_refl _) _).alloc (by simp) _)
     have HA3:Hid (Lies ((w2.alloc (.cells #[.int .u8 (a:Int),.int .u8 (b:Int),.int .u8 (c:Int),.int .u8 (d:Int)] 108)).alloc (.cells #[.int .i64 0,.int .i64 0] 32)) w2.heap.size #[.int .u8 (a:Int),.int .u8 (b:Int),.int .u8 (c:Int),.int .u8 (d:Int)] 108):=(Lies.new w2 _ _).alloc _
     unfold v4V bytesV
     simp only[List.map_cons,List.map_nil]
     have hz:=HS2.out.pl.lt
     clear HV5 hv4 HS2
     have ha':(a:Int)<256:=by omega
     have hb':(b:Int)<256:=by omega
     have hc':(c:Int)<256:=by omega
     have hd':(d:Int)<256:=by omega
     have hor1:=u16_or_hi a b ha hb
     have hor2:=u16_or_hi c d hc hd
     obtain⟨x,hx⟩:∃x,x=256*a+b:=⟨_,rfl⟩
     obtain⟨y,hy⟩:∃y,y=256*c+d:=⟨_,rfl⟩
     rw[←hx]at hor1 hab HVV
     rw[←hy]at hor2 hcd HVV
     clear hx hy ha hb hc hd
     have hrp:0<(g.put x).room:=by rw[Gs.room_put];omega
     go_wp2_with fail
     refine(take_any8 (w.heap.size+3) g x hab _ HS3.out.gr hroom).mono ?_
     rintro e w4 ⟨rfl,hg4,hb4⟩
     have HS4:Hid (V6S w s (g.put x) k w4):=HS3.out.grp hb4 hg4
     have HA4:=hb4.lies HA3.out (show w2.heap.size≠w.heap.size+3 by omega)
     have ha0:=HA4.cell 0
     have ha1:=HA4.cell 1
     have ha2:=HA4.cell 2
     have ha3:=HA4.cell 3
     simp at ha0 ha1 ha2 ha3
     have hz4:=HS4.out.pl.lt
     have ha4:=HA4.lt
     clear hg4 hb4 HA4 HA3 HS3
     go_wp2_with fail
     refine(take_any8 (w.heap.size+3) (g.put x) y hcd _ HS4.out.gr hrp).mono ?_
     rintro e w6 ⟨rfl,hg6,hb6⟩
     have HSx:Hid (V6S w s ((g.put x).put y) k w6):=HS4.out.grp hb6 hg6
     have hfull:((g.put x).put y).gap=none→((g.put x).put y).l.length=8:=fun h=>by
      have:=hl6 h
      simp[Gs.put]
      omega
     clear hg6 hb6 HS4 ha0 ha1 ha2 ha3 hor1 hor2
     have hsz:(bytesV (Gs.addr ((g.put x).put y))).size=16:=by rw[bytesV_size];exact addr_len _ HSx.out.gr.ok hfull
     go_wp2_with fail
     refine(addr_any (w.heap.size+3) ((g.put x).put y) _ HSx.out.gr hfull).mono ?_
     rintro e w5 ⟨rfl,hb5⟩
     have HS5:Hid (V6S w s ((g.put x).put y) (k) w5):=HSx.out.later hb5
     clear hb5
     go_wp2_with (first|(refine wpList_store_row rfl 23 _ _ rfl (w.heap.size+1) rfl _ (bytesV (Gs.addr ((g.put x).put y))) rfl 23 HS5.out.r1 (by rw[hsz];exact info16) (by rw[hsz];rfl) (bytesV_one _) rfl ?_)|(refine wpList_store_row rfl 32 _ _ rfl (w.heap.size+2) rfl _ #[.int .i64 0,.int .i64 0] rfl 32 (HS5.out.r2.row_other (by omega) _) infoSp rfl (by simp[Value.oneCell']) rfl ?_))
     exact HS5.out.ret (bytesV (Gs.addr ((g.put x).put y))) #[.int .i64 0,.int .i64 0] _ _ rfl rfl hsz rfl ⟨by rw[HVV.out];rfl,HS5.out.below2 _ _⟩
   case false=>
    rw[if_neg (by decide)]at HV5
    have HV6:Hid _:=HV5
    clear HV5 HB15
    go_wp2_with fail
    refine(take_any8 (w.heap.size+3) g N hN6 _ HS1.out.gr hroom).mono ?_
    rintro e w2 ⟨rfl,hg2,hb2⟩
    have HS2:Hid (V6S w s (g.put N) k w2):=HS1.out.grp hb2 hg2
    have HS3:Hid (V6S w s (g.put N) (k+L) (w2.setCell ⟨w.heap.size+4,0,none⟩ (.int .i64 ((k:Int)+(L:Int))))):=HS2.out.move (k+L)
    clear hg2 hb2 HS1 c0 c4 f4 hz
    have c0:=HS2.out.t.cell 0
    have c4:=HS2.out.pl.cell 0
    have f4:=HS2.out.pl.frozen 0
    simp at c0 c4
    have hz:=HS2.out.pl.lt
    have hg1:(g.put N).l.length=g.l.length+1:=by simp[Gs.put]
    go_upto_region 24 with fail
    generalize w2.setCell ⟨w.heap.size+4,0,none⟩ (.int .i64 ((k:Int)+(L:Int)))=w3 at HS3 ⊢
    clear HS2 c0 c4 f4 hz
    obtain⟨K,hK⟩:∃K,K=k+L:=⟨_,rfl⟩
    rw[←hK]at HS3 HV6 hkL
    have c0:=HS3.out.t.cell 0
    have c4:=HS3.out.pl.cell 0
    have f4:=HS3.out.pl.frozen 0
    simp at c0 c4
    have hz:=HS3.out.pl.lt
    have hg3:=HS3.out.gr.ok
    have HW0:Hid (Calls Tryz.prog 202 #[.pointer (some ⟨w.heap.size+3,0,none⟩),.int .i64 0] w3 fun e w'=>e=.returned (.bool ((g.put N).whole 0))∧w'=w3):=whole_any _ (g.put N) 0 w3 HS3.out.gr
    have HROOM:Hid (Calls Tryz.prog 201 #[.pointer (some ⟨w.heap.size+3,0,none⟩)] w3 fun e w'=>e=.returned (.int .i64 ((g.put N).room:Nat))∧w'=w3):=room_any _ (g.put N) w3 HS3.out.gr
    have HNK:Hid (Calls Tryz.prog 197 #[.string ⟨#[58]⟩,.pointer (some ⟨w.heap.size,0,none⟩),.pointer (some ⟨w.heap.size+4,0,none⟩)] w3 fun e w'=>e=.returned (.bool (decide ((s.data.toList.drop K).head?=some 58)))∧w'=w3):=HNX.out _ K w3 HS3.out hkL
    clear hkL' hK
    generalize g.put N=G at HS3 HV6 HW0 HROOM hg1 hg3
    go_cut [104] (fun c wx=>c=.bool (decide (s.data.toList.drop K=[])&&G.whole 0)∧wx=w3)
    case first=>
     by_cases he:K=s.size
     ·have he':((K:Int)==(s.size:Int))=true:=by rw[beq_iff_eq];omega
      have HD:Hid (decide (s.data.toList.drop K=[])=true):=decide_eq_true (drop_end s K (by omega))
      clear he
      go_wp2_with fail
      refine HW0.out.mono ?_
      rintro e w4 ⟨rfl,rfl⟩
      go_wp2_with fail
      go_meet
      exact⟨ret_bv (by rw[HD.out];rfl),rfl⟩
     ·have he':((K:Int)==(s.size:Int))=false:=by rw[beq_eq_false_iff_ne];omega
      have HD:Hid (decide (s.data.toList.drop K=[])=false):=decide_eq_false (by rw[drop_head s K (by omega)];simp)
      clear he
      go_wp2_with fail
      go_meet
      exact⟨ret_bv (by rw[HD.out];rfl),rfl⟩
    obtain⟨rfl,hwc⟩:=hcut
    rw[hwc]
    clear hwc
    obtain⟨b24,hb24⟩:∃b:Bool,b=(decide (s.data.toList.drop K=[])&&G.whole 0):=⟨_,rfl⟩
    have HV7:=HV6.out
    rw[←hb24]at HV7 ⊢
    have HB24:Hid (b24=(decide (s.data.toList.drop K=[])&&G.whole 0)):=hb24
    clear hb24 HV6
    cases b24
    case true=>
     rw[if_pos rfl]at HV7
     have HVV:Hid (v6 s.data.toList=.ok G.addr):=HV7
     have HSx:=HS3
     have hfull:G.gap=none→G.l.length=8:=whole0 G hg3 (by have:=HB24.out;simp at this;exact this.2)
     clear HV7 HB24 HME hg3
     have hsz:(bytesV (Gs.addr (G))).size=16:=by rw[bytesV_size];exact addr_len _ HSx.out.gr.ok hfull
     go_wp2_with fail
     refine(addr_any (w.heap.size+3) (G) _ HSx.out.gr hfull).mono ?_
     rintro e w5 ⟨rfl,hb5⟩
     have HS5:Hid (V6S w s (G) (K) w5):=HSx.out.later hb5
     clear hb5
     go_wp2_with (first|(refine wpList_store_row rfl 23 _ _ rfl (w.heap.size+1) rfl _ (bytesV (Gs.addr (G))) rfl 23 HS5.out.r1 (by rw[hsz];exact info16) (by rw[hsz];rfl) (bytesV_one _) rfl ?_)|(refine wpList_store_row rfl 32 _ _ rfl (w.heap.size+2) rfl _ #[.int .i64 0,.int .i64 0] rfl 32 (HS5.out.r2.row_other (by omega) _) infoSp rfl (by simp[Value.oneCell']) rfl ?_))
     exact HS5.out.ret (bytesV (Gs.addr (G))) #[.int .i64 0,.int .i64 0] _ _ rfl rfl hsz rfl ⟨by rw[HVV.out];rfl,HS5.out.below2 _ _⟩
    case false=>
     rw[if_neg (by decide)]at HV7
     have HV8:Hid _:=HV7
     clear HV7 HB24 HW0
     go_upto_region 26 with fail
     go_cut [113] (fun c wx=>c=.bool (!decide ((s.data.toList.drop K).head?=some 58)||decide (G.room=0))∧wx=w3)
     case first=>
      by_cases hc:(s.data.toList.drop K).head?=some 58
      ·have HD:Hid (decide ((s.data.toList.drop K).head?=some 58)=true):=decide_eq_true hc
       rw[HD.out]at HNK
       clear hc
       go_wp2_with fail
       refine HNK.out.mono ?_
       rintro e w4 ⟨rfl,rfl⟩
       go_wp2_with fail
       refine HROOM.out.mono ?_
       rintro e w5 ⟨rfl,rfl⟩
       go_wp2_with fail
       go_meet
       exact⟨ret_bv (by rw[HD.out,Bool.not_true,Bool.false_or,Bool.eq_iff_iff];simp;try omega),rfl⟩
      ·have HD:Hid (decide ((s.data.toList.drop K).head?=some 58)=false):=decide_eq_false hc
       rw[HD.out]at HNK
       clear hc
       go_wp2_with fail
       refine HNK.out.mono ?_
       rintro e w4 ⟨rfl,rfl⟩
       go_wp2_with fail
       go_meet
       exact⟨ret_bv (by rw[HD.out];rfl),rfl⟩
     obtain⟨rfl,hwc⟩:=hcut
     rw[hwc]
     clear hwc HROOM HNK
     obtain⟨b26,hb26⟩:∃b:Bool,b=(!decide ((s.data.toList.drop K).head?=some 58)||decide (G.room=0)):=⟨_,rfl⟩
     have HV9:=HV8.out
     rw[←hb26]at HV9 ⊢
     have HB26:Hid (b26=(!decide ((s.data.toList.drop K).head?=some 58)||decide (G.room=0))):=hb26
     clear hb26 HV8
     cases b26
     case true=>
      rw[if_pos rfl]at HV9
      have HVV:Hid (v6 s.data.toList=.error (K+0)):=HV9
      have HSx:=HS3
      clear HV9 HB26 HME
      go_wp2_with fail
      refine(HWR.out (G) (K) (0) _ HSx.out (by omega)).mono ?_
      rintro e w5 ⟨rfl,hb5⟩
      have HS5:Hid (V6S w s (G) (K) w5):=HSx.out.later hb5
      clear hb5
      go_wp2_with (first|(refine wpList_store_row rfl 23 _ _ rfl (w.heap.size+1) rfl _ (bytesV zero16) rfl 23 HS5.out.r1 info16 rfl (bytesV_one _) rfl ?_)|(refine wpList_store_row rfl 32 _ _ rfl (w.heap.size+2) rfl _ #[.int .i64 82,.int .i64 ((K+0:Nat):Int)] rfl 32 (HS5.out.r2.row_other (by omega) _) infoSp rfl (by simp[Value.oneCell']) rfl ?_))
      exact HS5.out.ret (bytesV zero16) #[.int .i64 82,.int .i64 ((K+0:Nat):Int)] _ _ rfl rfl rfl rfl ⟨by rw[HVV.out];rfl,HS5.out.below2 _ _⟩
     case false=>
      rw[if_neg (by decide)]at HV9
      have hK1:K+1≤s.size:=by
       have:=HB26.out
       rcases Nat.lt_or_ge K s.size with h|h
       ·exact h
       ·rw[drop_end s K h]at this
        simp at this
      have HV10:Hid _:=HV9
      have HS4:Hid (V6S w s G (K+1) (w3.setCell ⟨w.heap.size+4,0,none⟩ (.int .i64 ((K:Int)+1)))):=HS3.out.move (K+1)
      clear HV9 HB26
      go_upto_region 29 with fail
      generalize w3.setCell ⟨w.heap.size+4,0,none⟩ (.int .i64 ((K:Int)+1))=w4 at HS4 ⊢
      clear HS3 c0 c4 f4 hz
      have c0:=HS4.out.t.cell 0
      have c4:w4.cell? ⟨w.heap.size+4,0,none⟩=some (.int .i64 ((K:Int)+1)):=HS4.out.pl.cell 0
      have f4:=HS4.out.pl.frozen 0
      simp at c0
      have hz:=HS4.out.pl.lt
      go_wp2_with fail
      refine(HNX.out G (K+1) _ HS4.out hK1).mono ?_
      rintro e w5 ⟨rfl,rfl⟩
      have hG8:=hg3.le
      by_cases hc:(s.data.toList.drop (K+1)).head?=some 58
      ·have HV11:=HV10.out
       rw[if_pos hc]at HV11
       have HD:Hid ((s.data.toList.drop (K+1)).head?=some 58):=hc
       rw[decide_eq_true hc]
       clear hc HV10
       obtain⟨bo,hbo⟩:∃b,b=G.mayOpen:=⟨_,rfl⟩
       rw[←hbo]at HV11
       have HBO:Hid (bo=G.mayOpen):=hbo
       clear hbo
       cases bo
       ·rw[if_neg (by decide)]at HV11
        have HVV:Hid (v6 s.data.toList=.error (K+1+0)):=HV11
        have HSx:=HS4
        clear HV11 HME
        go_wp2_with fail
        refine(open_no8 (w.heap.size+3) G _ HS4.out.gr HBO.out.symm).mono ?_
        rintro e w6 ⟨rfl,rfl⟩
        clear HBO
        go_wp2_with fail
        refine(HWR.out (G) (K+1) (0) _ HSx.out (by omega)).mono ?_
        rintro e w5 ⟨rfl,hb5⟩
        have HS5:Hid (V6S w s (G) (K+1) w5):=HSx.out.later hb5
        clear hb5
        go_wp2_with (first|(refine wpList_store_row rfl 23 _ _ rfl (w.heap.size+1) rfl _ (bytesV zero16) rfl 23 HS5.out.r1 info16 rfl (bytesV_one _) rfl ?_)|(refine wpList_store_row rfl 32 _ _ rfl (w.heap.size+2) rfl _ #[.int .i64 82,.int .i64 ((K+1+0:Nat):Int)] rfl 32 (HS5.out.r2.row_other (by omega) _) infoSp rfl (by simp[Value.oneCell']) rfl ?_))
        exact HS5.out.ret (bytesV zero16) #[.int .i64 82,.int .i64 ((K+1+0:Nat):Int)] _ _ rfl rfl rfl rfl ⟨by rw[HVV.out];rfl,HS5.out.below2 _ _⟩
       ·rw[if_pos rfl]at HV11
        have HV12:Hid _:=HV11
        clear HV11
        have hK2:K+2≤s.size:=by
         rcases Nat.lt_or_ge (K+1) s.size with h|h
         ·exact h
         ·have:=HD.out
          rw[drop_end s (K+1) h]at this
          cases this
        go_wp2_with fail
        refine(open_any8 (w.heap.size+3) G _ HS4.out.gr HBO.out.symm).mono ?_
        rintro e w6 ⟨rfl,hg6,hb6⟩
        have HS6:Hid (V6S w s G.open' (K+1) w6):=HS4.out.grp hb6 hg6
        have HS7:Hid (V6S w s G.open' (K+2) (w6.setCell ⟨w.heap.size+4,0,none⟩ (.int .i64 ((K:Int)+1+1)))):=HS6.out.move (K+2)
        clear HBO hg6 hb6 HS4 c0 c4 f4 hz HD
        have c0:=HS6.out.t.cell 0
        have c4:w6.cell? ⟨w.heap.size+4,0,none⟩=some (.int .i64 ((K:Int)+1)):=HS6.out.pl.cell 0
        have f4:=HS6.out.pl.frozen 0
        simp at c0
        have hz:=HS6.out.pl.lt
        by_cases he:s.size=K+2
        ·have HVV:Hid (v6 s.data.toList=.ok G.open'.addr):=by
          show _=_
          rw[HV12.out,if_pos (drop_end s (K+2) (by omega))]
         have he':((K:Int)+1+1==(s.size:Int))=true:=by rw[beq_iff_eq];omega
         have HSx:=HS7
         have hfull:G.open'.gap=none→G.open'.l.length=8:=fun h=>by cases h
         clear HV12 HME he HS6
         have hsz:(bytesV (Gs.addr (G.open'))).size=16:=by rw[bytesV_size];exact addr_len _ HSx.out.gr.ok hfull
         go_wp2_with fail
         refine(addr_any (w.heap.size+3) (G.open') _ HSx.out.gr hfull).mono ?_
         rintro e w5 ⟨rfl,hb5⟩
         have HS5:Hid (V6S w s (G.open') (K+2) w5):=HSx.out.later hb5
         clear hb5
         go_wp2_with (first|(refine wpList_store_row rfl 23 _ _ rfl (w.heap.size+1) rfl _ (bytesV (Gs.addr (G.open'))) rfl 23 HS5.out.r1 (by rw[hsz];exact info16) (by rw[hsz];rfl) (bytesV_one _) rfl ?_)|(refine wpList_store_row rfl 32 _ _ rfl (w.heap.size+2) rfl _ #[.int .i64 0,.int .i64 0] rfl 32 (HS5.out.r2.row_other (by omega) _) infoSp rfl (by simp[Value.oneCell']) rfl ?_))
         exact HS5.out.ret (bytesV (Gs.addr (G.open'))) #[.int .i64 0,.int .i64 0] _ _ rfl rfl hsz rfl ⟨by rw[HVV.out];rfl,HS5.out.below2 _ _⟩
        ·have HVV:Hid (v6 s.data.toList=v6Go f G.open' (K+2) (s.data.toList.drop (K+2))):=by
          show _=_
          rw[HV12.out,if_neg (by rw[drop_head s (K+2) (by omega)];simp)]
         have he':((K:Int)+1+1==(s.size:Int))=false:=by rw[beq_eq_false_iff_ne];omega
         clear HV12 he HS6
         go_wp2_with fail
         go_roundw
         case rel=>exact⟨G.open',K+2,f,hK2,by show 8 - G.l.length<f;omega,HS7,HVV⟩
         case measure=>
          rw[HS7.out.gr.cells.1,HME.out]
          show 9 - (intOf (.int .i64 ((G.l.length:Nat):Int))).toNat<_
          simp[intOf]
          omega
      ·have HVV:Hid (v6 s.data.toList=v6Go f G (K+1) (s.data.toList.drop (K+1))):=by
        show _=_
        rw[HV10.out,if_neg hc]
       rw[decide_eq_false hc]
       clear hc HV10
       go_wp2_with fail
       go_roundw
       case rel=>exact⟨G,K+1,f,hK1,by omega,HS4,HVV⟩
       case measure=>
        rw[HS4.out.gr.cells.1,HME.out]
        simp[intOf]
        omega
  end Go.Proofs.YtfjpkfhbmldmfaaGreatDoor
