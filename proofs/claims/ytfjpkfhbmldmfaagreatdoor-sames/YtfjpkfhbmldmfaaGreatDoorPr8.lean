/-
  The contracts of domain.zeros, width and cut.
-/
import Derived.Test.YtfjpkfhbmldmfaaGreatDoorWd8
import Derived.Test.YtfjpkfhbmldmfaaGreatDoorDecm8
import Derived.Test.YtfjpkfhbmldmfaaGreatDoorLt8
import Derived.Test.YtfjpkfhbmldmfaaGreatDoorWt8
import Derived.Lib.Walk
import Derived.Lib.QuoteBits
import Derived.Test.YtfjpkfhbmldmfaaGreatDoorDmR
import Derived.Test.YtfjpkfhbmldmfaaGreatDoorLate5
import Derived.Lib.EndianBits
import Derived.Test.YtfjpkfhbmldmfaaGreatDoorCk8
import Derived.Test.YtfjpkfhbmldmfaaGreatDoorPtB
namespace Go.Proofs.YtfjpkfhbmldmfaaGreatDoor
open Go.RowKit
def strsV (L:List (List UInt8)):Array Value:=(L.map fun x=>Value.string ⟨x.toArray⟩).toArray
theorem info8s:(Tryz.prog.info? 154).map (·.size)=some 8:=by kernel_rfl
theorem strsV_at (L:List (List UInt8)) (k:Nat) (hk:k<L.length):(strsV L)[k]?=some (.string ⟨(L[k]).toArray⟩):=by
 simp[strsV,List.getElem?_eq_getElem hk]
theorem strsV_size (L:List (List UInt8)):(strsV L).size=L.length:=by simp[strsV]
theorem run_index_strs (L:List (List UInt8)) (hl:L.length=8) (k:Nat) (hk:k<L.length) (w:World):(Instr.index 154 (.agg (strsV L)) (.int .i64 (k:Int))).run Tryz.prog w=.ok (.string ⟨(L[k]).toArray⟩) w:=by
 have h9:(Tryz.prog.info? 9).map (·.size)=some 1:=by kernel_rfl
 cases hq:Tryz.prog.info? 9 with
 |none=>simp[hq]at h9
 |some i=>
  have hs:i.size=1:=by simpa [hq] using h9
  have hat:=strsV_at L k hk
  simp[Instr.index,asIntOf,run_underlying Tryz.underlying154,run_underlying Tryz.underlying9,sizeOf,typeInfo,hq,hs,part,isAgg,hat]
  intro h
  omega
theorem zrGo_step (i b f t:Nat) (x:List UInt8) (r:List (List UInt8)) (b':Nat) (hb:b'=if x≠[48] then i+1 else b):zrGo i b f t (x::r)=if i+1 - b'>t - f then zrGo (i+1) b' b' (i+1) r else zrGo (i+1) b' f t r:=by
 rw[zrGo,←hb]
set_option maxHeartbeats 2000000 in
set_option maxRecDepth 100000 in
theorem zeros_any (L:List (List UInt8)) (hL:L.length=8) (w:World):Calls Tryz.prog 149 #[.agg (strsV L)] w fun e w'=>e=.returned (.tuple #[.int .i64 ((zeros L).1:Nat),.int .i64 ((zeros L).2:Nat)])∧Below w.heap.size w w':=by
 have HL:Hid (L.length=8):=hL
 have hsz:(strsV L).size=8:=by rw[strsV_size,hL]
 have HA:Hid (Lies (w.alloc (.cells (strsV L) 154)) w.heap.size (strsV L) 154):=Lies.new w _ _
 have HB:Hid (Below w.heap.size w (w.alloc (.cells (strsV L) 154))):=(Below.refl _ _).alloc (Nat.le_refl _) _
 have hix:=run_index_strs L hL
 clear hL
 generalize hV:strsV L=V at hsz HA HB hix ⊢
 go_enter Tryz.func149,Tryz.ntmps149
 go_wp2_with (refine wpList_load_row rfl 154 _ rfl w.heap.size rfl V 154 _ HA.out Tryz.underlying154 rfl (by rw[hsz];exact info8s) ?_)
 go_loop [2,3,4,8] (fun cf ct cb ci=>∃f t b i:Nat,i≤8∧b≤i∧f≤t∧t≤i∧cf=.int .i64 f∧ct=.int .i64 t∧cb=.int .i64 b∧ci=.int .i64 i∧Hid (zeros L=zrGo i b f t (L.drop i))) (fun _ _ _ ci=>8 - (intOf ci).toNat)
 case atStart=>exact⟨0,0,0,0,by omega,by omega,by omega,by omega,rfl,rfl,rfl,rfl,rfl⟩
 case round=>
  obtain⟨f,t,b,i,hi,hb,hft,hti,rfl,rfl,rfl,rfl,HZ⟩:=hrel
  by_cases hlt:i<8
  ·have hil:i<L.length:=by rw[HL.out];exact hlt
   have hx:=hix i hil
   have hd:L.drop i=L[i]::L.drop (i+1):=List.drop_eq_getElem_cons hil
   rw[hd]at HZ
   generalize L[i]=x at hx HZ
   clear hix hd
   have hlt':(i:Int)<8:=by omega
   by_cases h48:x=[48]
   ·have HZ2:Hid (zeros L=if i+1 - b>t - f then zrGo (i+1) b b (i+1) (L.drop (i+1)) else zrGo (i+1) b f t (L.drop (i+1))):=by
     show _=_
     rw[HZ.out,zrGo_step i b f t x _ b (by rw[if_neg (by simp[h48])])]
    have hne:(x==[48])=true:=by rw[h48];rfl
    clear HZ h48
    by_cases hgt:i+1 - b>t - f
    ·have HZ3:Hid (zeros L=zrGo (i+1) b b (i+1) (L.drop (i+1))):=by
      show _=_
      rw[HZ2.out,if_pos hgt]
     have hgt':(t:Int) - (f:Int)<(i:Int)+1 - (b:Int):=by omega
     clear HZ2 hgt
     go_wp2_with fail
     go_round
     case rel=>exact⟨b,i+1,b,i+1,by omega,by omega,by omega,by omega,rfl,by go_num,rfl,by go_num,HZ3⟩
     case measure=>simp[intOf];omega
    ·have HZ3:Hid (zeros L=zrGo (i+1) b f t (L.drop (i+1))):=by
      show _=_
      rw[HZ2.out,if_neg hgt]
     have hgt':¬(t:Int) - (f:Int)<(i:Int)+1 - (b:Int):=by omega
     clear HZ2 hgt
     go_wp2_with fail
     go_round
     case rel=>exact⟨f,t,b,i+1,by omega,by omega,by omega,by omega,rfl,rfl,rfl,by go_num,HZ3⟩
     case measure=>simp[intOf];omega
   ·have HZ2:Hid (zeros L=if i+1 - (i+1)>t - f then zrGo (i+1) (i+1) (i+1) (i+1) (L.drop (i+1)) else zrGo (i+1) (i+1) f t (L.drop (i+1))):=by
     show _=_
     rw[HZ.out,zrGo_step i b f t x _ (i+1) (by rw[if_pos h48])]
    have HZ3:Hid (zeros L=zrGo (i+1) (i+1) f t (L.drop (i+1))):=by
     show _=_
     rw[HZ2.out,if_neg (by omega)]
    have hne:(x==[48])=false:=by rw[beq_eq_false_iff_ne];exact h48
    clear HZ h48 HZ2
    have hgt':¬(t:Int) - (f:Int)<(i:Int)+1 - ((i:Int)+1):=by omega
    go_wp2_with fail
    go_round
    case rel=>exact⟨f,t,i+1,i+1,by omega,by omega,by omega,by omega,rfl,rfl,by go_num,by go_num,HZ3⟩
    case measure=>simp[intOf];omega
  ·have HN:Hid (zeros L=(f,t)):=by
    show _=_
    rw[HZ.out,List.drop_eq_nil_of_le (by rw[HL.out];omega)]
    rfl
   have hlt':¬(i:Int)<8:=by omega
   clear HZ
   go_wp2_with fail
   refine bodyPost_ret (v:=.tuple #[.int .i64 (f:Int),.int .i64 (t:Int)]) (by simp[results,Tryz.results149,go_sem]) rfl ⟨by rw[HN.out],HB.out⟩
open Go.RowKit
theorem PowTab.below {w w':World} (h:PowTab w) (hb:Below w.heap.size w w'):PowTab w':=Lib.tabBelow_of_tabIs h w' hb
theorem dec_decD:∀n:Fin 256,Lib.decDigits n.val=decD n.val:=by decide+kernel
theorem join_joinL (sep:List UInt8):∀L:List (List UInt8),Lib.join L sep=joinL sep L
 |[]=>rfl
 |[x]=>Lib.join_one x sep
 |x::y::r=>by
  have:=join_joinL sep (y::r)
  rw[joinL,←this]
  unfold Lib.join
  simp[List.intercalate]
theorem run_index_four (l:List Nat) (hl:l.length=4) (k:Nat) (hk:k<l.length) (w:World):(Instr.index 108 (.agg (bytesV l)) (.int .i64 (k:Int))).run Tryz.prog w=.ok (.int .u8 (l[k]:Nat)) w:=by
 have h5:(Tryz.prog.info? 5).map (·.size)=some 1:=by kernel_rfl
 cases hq:Tryz.prog.info? 5 with
 |none=>simp[hq]at h5
 |some i=>
  have hs:i.size=1:=by simpa [hq] using h5
  have hat:=bytesV_at l k hk
  simp[Instr.index,asIntOf,run_underlying Tryz.underlying108,run_underlying Tryz.underlying5,sizeOf,typeInfo,hq,hs,part,isAgg,hat]
  intro h
  omega
theorem strsV_set (L:List (List UInt8)) (k:Nat) (x:List UInt8):(strsV L).setIfInBounds k (.string ⟨x.toArray⟩)=strsV (L.set k x):=by
 unfold strsV
 rw[List.setIfInBounds_toArray,List.map_set]
structure PtS (w:World) (n t:Nat) (L:List (List UInt8)) (wr:World):Prop where
 s:Lies wr (w.heap.size+1) (strsV (L++List.replicate (n - L.length) [])) t
 below:Below w.heap.size w wr
theorem PtS.later {w wr wx:World} {n t:Nat} {L:List (List UInt8)} (h:PtS w n t L wr) (hb:Below wr.heap.size wr wx):PtS w n t L wx:=
 ⟨h.s.below hb h.s.lt,h.below.trans (hb.mono (Nat.le_of_lt (Nat.lt_of_succ_lt h.s.lt)))⟩
theorem PtS.put {w wr:World} {n t:Nat} {L:List (List UInt8)} (h:PtS w n t L wr) (hl:L.length<n) (x:List UInt8):PtS w n t (L++[x]) (wr.setCell ⟨w.heap.size+1,L.length,none⟩ (.string ⟨x.toArray⟩)):=by
 refine⟨?_,h.below.setCell (p:=⟨w.heap.size+1,L.length,none⟩) (by show w.heap.size≤w.heap.size+1;omega) _⟩
 have:=h.s.set L.length (.string ⟨x.toArray⟩)
 rw[strsV_set]at this
 have e:(L++List.replicate (n - L.length) []).set L.length x=L++[x]++List.replicate (n - (L++[x]).length) []:=by
  rw[List.set_append_right _ _ (Nat.le_refl _),Nat.sub_self,show n - L.length=n - (L++[x]).length+1 from by simp;omega,List.replicate_succ,List.set_cons_zero]
  simp
 rw[e]at this
 exact this
theorem PtS.cell {w wr:World} {n t:Nat} {L:List (List UInt8)} (h:PtS w n t L wr) (hl:L.length<n):∃v,wr.cell? ⟨w.heap.size+1,L.length,none⟩=some v:=
 ⟨_,(h.s.cell L.length).trans (strsV_at _ _ (by simp;omega))⟩
theorem Lies.texts {w:World} {b t:Nat} {L:List (List UInt8)} (h:Lies w b (strsV L) t) (o:Nat):∀(j:Nat) x,((L.drop o).map fun l=>(⟨l.toArray⟩:ByteArray))[j]?=some x→w.cell? ⟨b,o+j,none⟩=some (.string x):=fun j x hx=>by
 rw[h.cell]
 unfold strsV
 rw[List.getElem?_map,List.getElem?_drop]at hx
 rw[List.getElem?_toArray,List.getElem?_map]
 cases hl:L[o+j]? with
 |none=>rw[hl]at hx;cases hx
 |some y=>
  rw[hl]at hx
  injection hx with hx
  rw[←hx]
  rfl
theorem texts_back (L:List (List UInt8)):(L.map fun l=>(⟨l.toArray⟩:ByteArray)).map (·.data.toList)=L:=by
 rw[List.map_map]
 conv=>rhs;rw[←List.map_id L]
 rfl
theorem join_some {w:World} {b t:Nat} {L:List (List UInt8)} (h:Lies w b (strsV L) t) (o n c:Nat) (sep:ByteArray) (hn:o+n≤L.length) (hc:n≤c) (hlen:(joinL sep.data.toList ((L.drop o).take n)).length≤140737488355328) (hL:L.length≤1000000):
  Calls Tryz.prog 109 #[.slice (some ⟨b,o,none⟩) n c,.string sep] w fun e w'=>e=.returned (.string ⟨(joinL sep.data.toList ((L.drop o).take n)).toArray⟩)∧Below w.heap.size w w':=by
 have hl:(((L.drop o).take n).map fun l=>(⟨l.toArray⟩:ByteArray)).length=n:=by simp;omega
 have:=Tryz.strings_Join b o c (((L.drop o).take n).map fun l=>(⟨l.toArray⟩:ByteArray)) sep w (fun j x hx=>?_) h.lt (by rw[hl];omega) (by rw[hl];exact hc) (by rw[texts_back,join_joinL];exact hlen)
 ·rw[texts_back,join_joinL,hl]at this
  exact this
 ·refine h.texts o j x ?_
  rw[List.map_take,List.getElem?_take]at hx
  split at hx
  ·exact hx
  ·cases hx
set_option maxHeartbeats 4000000 in
set_option maxRecDepth 100000 in
theorem printv4_any (a:List Nat) (ha:a.length=4) (hb:∀x∈a,x<256) (w:World) (hp:PowTab w):Calls Tryz.prog 110 #[.agg (bytesV a)] w fun e w'=>e=.returned (.string ⟨(print4 a).toArray⟩)∧Below w.heap.size w w':=by
 have HL:Hid (a.length=4):=ha
 have HX:Hid (∀x∈a,x<256):=hb
 have HP:Hid (∀wx,Below w.heap.size w wx→PowTab wx):=fun wx hb=>hp.below hb
 have hsz:(bytesV a).size=4:=by rw[bytesV_size,ha]
 have HA:Hid (Lies ((w.alloc (.cells (bytesV a) 108)).alloc (.cells (strsV (List.replicate 4 [])) 151)) w.heap.size (bytesV a) 108):=(Lies.new w _ _).alloc _
 have H0:Hid (PtS w 4 151 [] ((w.alloc (.cells (bytesV a) 108)).alloc (.cells (strsV (List.replicate 4 [])) 151))):=⟨new_one w _ _ _,((Below.refl _ _).alloc (Nat.le_refl _) _).alloc (by simp) _⟩
 have HIX:Hid (∀(k:Nat) (hk:k<a.length) (w:World),(Instr.index 108 (.agg (bytesV a)) (.int .i64 (k:Int))).run Tryz.prog w=.ok (.int .u8 (a[k]:Nat)) w):=run_index_four a ha
 clear ha hb hp
 go_enter Tryz.func110,Tryz.ntmps110
 go_wp2_with (refine wpList_load_row rfl 108 _ rfl w.heap.size rfl (bytesV a) 108 _ HA.out Tryz.underlying108 rfl (by rw[hsz];exact info4) ?_)
 go_loopw [7] (fun c wr=>∃i:Nat,i≤4∧c=.int .i64 i∧Hid (PtS w 4 151 ((a.take i).map decD) wr)) (fun c _=>4 - (intOf c).toNat)
 case atStart=>exact⟨0,by omega,rfl,H0⟩
 case round=>
  obtain⟨i,hi,rfl,HS⟩:=hrel
  clear H0 HA
  by_cases hlt:i<4
  ·have hil:i<a.length:=by rw[HL.out];exact hlt
   have hlt':(i:Int)<4:=by omega
   have hix:=HIX.out i hil
   have hx:a[i]<256:=HX.out _ (List.getElem_mem hil)
   have HM:Hid ((a.take (i+1)).map decD=(a.take i).map decD++[decD a[i]]):=by
    show _=_
    rw[List.take_succ_eq_append_getElem hil,List.map_append]
    rfl
   have hdl:=dec_decD ⟨a[i],hx⟩
   dsimp only at hdl
   generalize a[i]=x at hix hx HM hdl
   have hl:((a.take i).map decD).length=i:=by rw[List.length_map,List.length_take];omega
   generalize (a.take i).map decD=L at HS HM hl
   subst hl
   have hx':(x:Int)<256:=by omega
   go_wp2_with fail
   refine(decm_any x (by omega) _ (HP.out _ HS.out.below)).mono ?_
   rintro e w2 ⟨rfl,hb2⟩
   rw[hdl]
   have HS2:=HS.out.later hb2
   obtain⟨v,hv⟩:=HS2.cell hlt
   have hf:=HS2.s.frozen L.length
   have hz:=HS2.s.lt
   have HN:Hid (PtS w 4 151 ((a.take (L.length+1)).map decD) (w2.setCell ⟨w.heap.size+1,L.length,none⟩ (.string ⟨(decD x).toArray⟩))):=by
    have:=HS2.put hlt (decD x)
    rw[←HM.out]at this
    exact this
   clear hb2 HS2 HS HM hix
   generalize decD x=d at HN ⊢
   go_wp2_with fail
   go_roundw
   case rel=>exact⟨L.length+1,by omega,by go_num,HN⟩
   case measure=>simp[intOf];omega
  ·obtain rfl:i=4:=by omega
   have HSL:Hid (Lies wr (w.heap.size+1) (strsV (a.map decD)) 151):=by
    have:=HS.out.s
    rw[List.take_of_length_le (by rw[HL.out];omega),List.length_map,HL.out,Nat.sub_self,List.replicate_zero,List.append_nil]at this
    exact this
   have hlm:(a.map decD).length=4:=by rw[List.length_map,HL.out]
   have hpl:(print4 a).length≤140737488355328:=by
    have:=HL.out
    have h3:∀n,(decD n).length≤3:=fun n=>by
     unfold decD
     split
     ·simp
     ·split<;>simp
    match a,this with
    |[p,q,r,s],_=>
     have:=h3 p
     have:=h3 q
     have:=h3 r
     have:=h3 s
     simp[print4,joinL]
     omega
   have HJ:Hid (Calls Tryz.prog 109 #[.slice (some ⟨w.heap.size+1,0,none⟩) 4 4,.string ⟨#[46]⟩] wr fun e w'=>e=.returned (.string ⟨(print4 a).toArray⟩)∧Below wr.heap.size wr w'):=by
    have:=join_some HSL.out 0 4 4 ⟨#[46]⟩ (by omega) (by omega) (by rw[List.drop_zero,List.take_of_length_le (by omega)];exact hpl) (by omega)
    rw[List.drop_zero,List.take_of_length_le (by omega)]at this
    exact this
   have HB:=HS.out.below
   have hz:=HS.out.s.lt
   obtain⟨pa,hpa⟩:∃pa,(print4 a).toArray=pa:=⟨_,rfl⟩
   have HPA:Hid ((print4 a).toArray=pa):=hpa
   rw[hpa]at HJ
   clear hpl HSL HS hpa
   go_wp2_with (go_at_call 109;refine HJ.out.mono ?_;rintro e w2 ⟨rfl,hb2⟩)
   go_ret
   refine⟨by rw[HPA.out];rfl,HB.trans (Below.mono ?_ (Nat.le_of_lt (Nat.lt_of_succ_lt hz)))⟩
   assumption
open Go.RowKit
set_option maxHeartbeats 1000000 in
theorem ispow_16 (w:World):Calls Tryz.prog 232 #[.int .i64 16] w fun e w'=>e=.returned (.bool true)∧w'=w:=by
 have h:bits BinOp.and IntKind.i64 16 15=0:=by decide+kernel
 go_enter Tryz.func232,Tryz.ntmps232
 go_wp2
 go_ret
 exact⟨rfl,rfl⟩
set_option maxHeartbeats 1000000 in
set_option maxRecDepth 100000 in
theorem tz64_16 (w:World) (ht:w.cell? ⟨7,15,none⟩=some (.int .u8 4)):Calls Tryz.prog 248 #[.int .u64 16] w fun e w'=>e=.returned (.int .i64 4)∧w'=w:=by
 have h:IntKind.u64.wrap (bits BinOp.and IntKind.u64 16 (IntKind.u64.wrap (-16))*285870213051353865) / 288230376151711744=15:=by decide+kernel
 go_enter Tryz.func248,Tryz.ntmps248
 go_wp2_with fail
 go_ret
 exact⟨rfl,rfl⟩
set_option maxHeartbeats 1000000 in
set_option maxRecDepth 100000 in
theorem tz_16 (w:World) (ht:w.cell? ⟨7,15,none⟩=some (.int .u8 4)):Calls Tryz.prog 233 #[.int .u64 16] w fun e w'=>e=.returned (.int .i64 4)∧w'=w:=by
 go_enter Tryz.func233,Tryz.ntmps233
 go_wp2_with (go_at_call 248;refine(tz64_16 _ ht).mono ?_;rintro e w' ⟨rfl,rfl⟩)
 go_ret
 exact⟨rfl,rfl⟩
theorem hexF_fuel:∀(f n:Nat),n<16 ^ (f+1)→hexF f n=hexF (f+1) n
 |0,n,h=>by
  have hn:n<16:=by simpa using h
  rw[hexF,hexF,if_pos hn,Nat.mod_eq_of_lt hn]
 |f+1,n,h=>by
  rw[hexF,hexF]
  by_cases hn:n<16
  ·rw[if_pos hn,if_pos hn]
  ·rw[if_neg hn,if_neg hn,←hexF_fuel f (n / 16) (Nat.div_lt_of_lt_mul (by rw[Nat.pow_succ]at h;omega))]
theorem hexD_step (n:Nat) (h:n<65536) (h16:16≤n):hexD n=hexD (n / 16)++[hexC (n % 16)]:=by
 have e:hexD (n / 16)=hexF 15 (n / 16):=(hexF_fuel 15 (n / 16) (by omega)).symm
 rw[e]
 unfold hexD
 rw[hexF,if_neg (by omega)]
theorem hexD_last (n:Nat) (h:n<16):hexD n=[hexC n]:=by
 unfold hexD
 rw[hexF,if_pos h]
theorem digS_fin:∀d:Fin 16,(⟨#[48,49,50,51,52,53,54,55,56,57,97,98,99,100,101,102,103,104,105,106,107,108,109,110,111,112,113,114,115,116,117,118,119,120,121,122]⟩:ByteArray)[d.val]'(Nat.lt_of_lt_of_le d.isLt (by decide))=hexC d.val:=by decide+kernel
theorem digS_at (d:Nat) (h:d<16) (h':d<36):(⟨#[48,49,50,51,52,53,54,55,56,57,97,98,99,100,101,102,103,104,105,106,107,108,109,110,111,112,113,114,115,116,117,118,119,120,121,122]⟩:ByteArray)[d]'h'=hexC d:=digS_fin ⟨d,h⟩
theorem and15_u64 (x:Nat) (h:x<65536):bits .and .u64 (x:Int) 15=((x % 16:Nat):Int):=by
 show IntKind.u64.wrap ((BitVec.ofInt 64 (x:Int)&&& BitVec.ofInt 64 ((15:Nat):Int)).toNat:Int)=_
 rw[BitVec.toNat_and,ofInt_u64 x (by omega),ofInt_u64 15 (by omega),nat_mask4]
 have e:((x % 16:Nat):Int) % 2 ^ 64=((x % 16:Nat):Int):=Int.emod_eq_of_lt (by omega) (by omega)
 simp only[IntKind.wrap,IntKind.bits,IntKind.signed,e]
 simp
structure Fb (w:World) (ds:List UInt8) (wr:World):Prop where
 a:Lies wr w.heap.size (bytesV (List.replicate (65 - ds.length) 0++ds.map UInt8.toNat)) 238
 below:Below w.heap.size w wr
theorem Fb.put {w wr:World} {ds:List UInt8} (h:Fb w ds wr) (hl:ds.length<65) (c:UInt8):Fb w (c::ds) (wr.setCell ⟨w.heap.size,64 - ds.length,none⟩ (.int .u8 (c.toNat:Int))):=by
 refine⟨?_,h.below.setCell (p:=⟨w.heap.size,64 - ds.length,none⟩) (Nat.le_refl _) _⟩
 have:=h.a.set (64 - ds.length) (.int .u8 (c.toNat:Int))
 rw[bytesV_set]at this
 have e:(List.replicate (65 - ds.length) 0++ds.map UInt8.toNat).set (64 - ds.length) c.toNat=List.replicate (65 - (c::ds).length) 0++(c::ds).map UInt8.toNat:=by
  rw[List.set_append_left _ _ (by simp;omega),show 65 - ds.length=64 - ds.length+1 from by omega,List.replicate_succ',List.set_append_right _ _ (by simp)]
  simp[show 65 - (ds.length+1)=64 - ds.length from by omega]
 rw[e]at this
 exact this
theorem Fb.cell {w wr:World} {ds:List UInt8} (h:Fb w ds wr) (k:Nat) (hk:k<65) (hl:ds.length≤65):∃v,wr.cell? ⟨w.heap.size,k,none⟩=some v:=
 ⟨_,(h.a.cell k).trans (bytesV_at _ k (by simp;omega))⟩
theorem fb_conv {w wr:World} {ds:List UInt8} {i:Nat} (h:Fb w ds wr) (hi:i+ds.length=65):
  (convert 98 9 (.slice (some ⟨w.heap.size,i,none⟩) (65 - i) (65 - i))).run Tryz.prog wr=.ok (.string ⟨ds.toArray⟩) wr:=by
 have:=run_convert_bytes_back (P:=Tryz.prog) wr 98 9 5 ⟨w.heap.size,i,none⟩ (65 - i) ds Tryz.underlying98 Tryz.underlying5 Tryz.underlying9 (fun j hj=>by
  have he:(⟨w.heap.size,i,none⟩:Addr).add j=⟨w.heap.size,i+j,none⟩:=by rw[Addr.add_lit]
  rw[he,h.a.cell,bytesV_at _ _ (by simp;omega)]
  congr 3
  rw[List.getElem_append_right (by simp;omega),List.getElem_map]
  congr 2
  simp
  omega)
 rw[show ds.length=65 - i from by omega]at this
 exact this
set_option maxHeartbeats 4000000 in
set_option maxRecDepth 100000 in
theorem fbits_16 (n:Nat) (hn:n<65536) (w:World) (ht:w.cell? ⟨7,15,none⟩=some (.int .u8 4)):
  Calls Tryz.prog 214 #[.slice none 0 0,.int .u64 (n:Nat),.int .i64 16,.bool false,.bool false] w fun e w'=>e=.returned (.tuple #[.slice none 0 0,.string ⟨(hexD n).toArray⟩])∧Below w.heap.size w w':=by
 have ez:Tryz.zeroCells238=bytesV (List.replicate 65 0):=by kernel_rfl
 have H0:Hid (Fb w [] (w.alloc (.cells Tryz.zeroCells238 238))):=⟨by rw[ez];exact Lies.new w _ _,(Below.refl _ _).alloc (Nat.le_refl _) _⟩
 have hg:7<w.heap.size:=World.block_lt_of_cell? w _ ht
 have ht1:(w.alloc (.cells Tryz.zeroCells238 238)).cell? ⟨7,15,none⟩=some (.int .u8 4):=by
  rw[H0.out.below.cell (p:=⟨7,15,none⟩) hg]
  exact ht
 clear ez
 go_enter Tryz.func214,Tryz.ntmps214
 go_wp2_with (go_at_call 232;refine(ispow_16 _).mono ?_;rintro e w' ⟨rfl,rfl⟩)
 refine(tz_16 _ ht1).mono ?_
 rintro e w1 ⟨rfl,hw1⟩
 rw[←hw1]at H0
 clear ht1 hw1
 go_wp2_with fail
 go_loopw [1,13] (fun u c wr=>∃(m:Nat) (ds:List UInt8),u=.int .u64 (m:Nat)∧c=.int .i64 ((65 - ds.length:Nat):Int)∧ds.length≤3∧m<16 ^ (4 - ds.length)∧Hid (Fb w ds wr)∧Hid (hexD n=hexD m++ds)) (fun u _ _=>(intOf u).toNat)
 case atStart=>exact⟨n,[],rfl,rfl,by simp,hn,H0,by show _=_;rw[List.append_nil]⟩
 case round=>
  obtain⟨m,ds,rfl,rfl,hl,hm,HF,HD⟩:=hrel
  clear H0
  have hm6:m<65536:=Nat.lt_of_lt_of_le hm (Nat.pow_le_pow_right (n:=16) (by decide) (show 4 - ds.length≤4 by omega))
  obtain⟨v,hv⟩:=HF.out.cell (64 - ds.length) (by omega) (by omega)
  have hfz:=HF.out.a.frozen (64 - ds.length)
  have hz:=HF.out.a.lt
  obtain⟨i,hi⟩:∃i,i=64 - ds.length:=⟨_,rfl⟩
  rw[show 65 - ds.length=i+1 from by omega]
  rw[←hi]at hv hfz
  have hi64:i≤64:=by omega
  have hi64':(i:Int)<65:=by omega
  have HI:Hid (i=64 - ds.length):=hi
  clear hi
  by_cases h16:16≤m
  ·have h16':(16:Int)≤(m:Int):=by omega
   obtain⟨d,hd⟩:∃d,d=m % 16:=⟨_,rfl⟩
   have hand:=and15_u64 m hm6
   rw[←hd]at hand
   have hd16:d<16:=by omega
   have hd36:d<36:=by omega
   have hd36':(d:Int)<36:=by omega
   have hdg:=digS_at d hd16 hd36
   have hpow:m / 16<16 ^ (4 - (ds.length+1))∧ds.length+1≤3:=by
    match hds:ds.length,hl with
    |0,_=>rw[hds]at hm;exact⟨by omega,by omega⟩
    |1,_=>rw[hds]at hm;exact⟨by omega,by omega⟩
    |2,_=>rw[hds]at hm;exact⟨by omega,by omega⟩
    |3,_=>rw[hds]at hm;omega
   have HN:Hid (Fb w (hexC d::ds) (wr.setCell ⟨w.heap.size,i,none⟩ (.int .u8 (((⟨#[48,49,50,51,52,53,54,55,56,57,97,98,99,100,101,102,103,104,105,106,107,108,109,110,111,112,113,114,115,116,117,118,119,120,121,122]⟩:ByteArray)[d]'hd36).toNat:Int)))):=by
    rw[hdg]
    have:=HF.out.put (by omega) (hexC d)
    rw[←HI.out]at this
    exact this
   have HDN:Hid (hexD n=hexD (m / 16)++hexC d::ds):=by
    show _=_
    rw[HD.out,hexD_step m hm6 h16,←hd,List.append_assoc]
    rfl
   clear hd hdg hm HF HD
   go_wp2_with fail
   go_roundw
   case rel=>exact⟨m / 16,hexC d::ds,by go_num,by rw[List.length_cons,HI.out];congr 1;omega,hpow.2,hpow.1,HN,HDN⟩
   case measure=>simp[intOf];omega
  ·have h16':¬(16:Int)≤(m:Int):=by omega
   have hm16:m<16:=by omega
   have hm36:m<36:=by omega
   have hm36':(m:Int)<36:=by omega
   have hdg:=digS_at m hm16 hm36
   have HN:Hid (Fb w (hexC m::ds) (wr.setCell ⟨w.heap.size,i,none⟩ (.int .u8 (((⟨#[48,49,50,51,52,53,54,55,56,57,97,98,99,100,101,102,103,104,105,106,107,108,109,110,111,112,113,114,115,116,117,118,119,120,121,122]⟩:ByteArray)[m]'hm36).toNat:Int)))):=by
    rw[hdg]
    have:=HF.out.put (by omega) (hexC m)
    rw[←HI.out]at this
    exact this
   have HDN:Hid (hexD n=hexC m::ds):=by
    show _=_
    rw[HD.out,hexD_last m hm16]
    rfl
   have hcv:=fb_conv (i:=i) HN.out (by have:=HI.out;simp;omega)
   rw[←HDN.out]at hcv
   have h65:(65:Int) - (i:Int)=((65 - i:Nat):Int):=by omega
   have hal:Tryz.prog.arrayLen 238=65:=by simp[Program.arrayLen,Tryz.underlying238]
   have hsl:∀W,(Instr.sliceAt 238 (.pointer (some ⟨w.heap.size,0,none⟩)) (some (.int .i64 (i:Int))) none none).run Tryz.prog W=.ok (.slice (some ⟨w.heap.size,i,none⟩) (65 - i) (65 - i)) W:=fun W=>by
    rw[run_sliceAt_array_l W 238 ⟨w.heap.size,0,none⟩ (by simp[Program.arrayLen,Program.elem,Tryz.underlying238]) .i64 (i:Int) (by omega) (by rw[hal];omega),hal]
    go_simp
    omega
   clear hdg hm HF HD hal
   go_wp2_with fail
   exact bodyPost_ret (v:=.tuple #[.slice none 0 0,.string ⟨(hexD n).toArray⟩]) (by simp[results,Tryz.results214,go_sem]) rfl ⟨rfl,HN.out.below⟩
set_option maxHeartbeats 1000000 in
set_option maxRecDepth 100000 in
theorem fmt_16 (n:Nat) (hn:n<65536) (w:World) (ht:w.cell? ⟨7,15,none⟩=some (.int .u8 4)):
  Calls Tryz.prog 148 #[.int .u64 (n:Nat),.int .i64 16] w fun e w'=>e=.returned (.string ⟨(hexD n).toArray⟩)∧Below w.heap.size w w':=by
 have HF:Hid (Calls Tryz.prog 214 #[.slice none 0 0,.int .u64 (n:Nat),.int .i64 16,.bool false,.bool false] w fun e w'=>e=.returned (.tuple #[.slice none 0 0,.string ⟨(hexD n).toArray⟩])∧Below w.heap.size w w'):=fbits_16 n hn w ht
 generalize (hexD n).toArray=ar at HF ⊢
 go_enter Tryz.func148,Tryz.ntmps148
 go_wp2_with (first|(go_at_call 179;go_in)|(go_at_call 214;refine HF.out.mono ?_;rintro e w' ⟨rfl,hb⟩))
 go_ret
 exact⟨rfl,by assumption⟩
open Go.RowKit
theorem grpsOf_at:∀(a:List Nat) (i:Nat),2*i+1<a.length→(grpsOf a)[i]?=some (256*a.getD (2*i) 0+a.getD (2*i+1) 0)
 |[],_,h=>by simp at h
 |[_],i,h=>by simp at h
 |x::y::r,0,_=>rfl
 |x::y::r,i+1,h=>by
  have:=grpsOf_at r i (by simp at h;omega)
  rw[grpsOf,List.getElem?_cons_succ,this,show 2*(i+1)=2*i+1+1 from by omega,List.getD_cons_succ,List.getD_cons_succ,show 2*i+1+1+1=2*i+1+1+1 from rfl,List.getD_cons_succ,List.getD_cons_succ]
theorem u64_or_hi (a b:Nat) (ha:a<256) (hb:b<256):bits .or .u64 ((a:Int)*256) (b:Int)=((256*a+b:Nat):Int):=by
 have h:=u64_or8 (b:Int) ((a:Int)*256) (by omega) (by omega) (by omega) (by omega) (by omega)
 have e:bits .or .u64 ((a:Int)*256) (b:Int)=bits .or .u64 (b:Int) ((a:Int)*256):=by
  show IntKind.u64.wrap ((BitVec.ofInt 64 _|||BitVec.ofInt 64 _).toNat:Int)=IntKind.u64.wrap ((BitVec.ofInt 64 _|||BitVec.ofInt 64 _).toNat:Int)
  rw[BitVec.or_comm]
 rw[e,h]
 omega
theorem str_append (x y:List UInt8):(⟨x.toArray⟩:ByteArray)++(⟨y.toArray⟩:ByteArray)=⟨(x++y).toArray⟩:=by
 apply ByteArray.ext
 rw[ByteArray.data_append]
 simp
set_option maxHeartbeats 4000000 in
set_option maxRecDepth 100000 in
theorem printv6_any (a:List Nat) (ha:a.length=16) (hb:∀x∈a,x<256) (w:World) (ht:w.cell? ⟨7,15,none⟩=some (.int .u8 4)):Calls Tryz.prog 111 #[.agg (bytesV a)] w fun e w'=>e=.returned (.string ⟨(print6 a).toArray⟩)∧Below w.heap.size w w':=by
 have HL:Hid (a.length=16):=ha
 have HX:Hid (∀x∈a,x<256):=hb
 have HT:Hid (∀wx,Below w.heap.size w wx→wx.cell? ⟨7,15,none⟩=some (.int .u8 4)):=fun wx hb=>(hb.cell (p:=⟨7,15,none⟩) (World.block_lt_of_cell? w _ ht)).trans ht
 obtain⟨_,hgl,hg⟩:=two_grps a (by rw[ha]) hb
 rw[ha]at hgl
 have hlen:=print6_len a ha hb
 have HGL:Hid ((grpsOf a).length=8):=by show _=_;omega
 have HG:Hid (∀n∈grpsOf a,n<65536):=hg
 have HA:Hid (Lies ((w.alloc (.cells (bytesV a) 23)).alloc (.cells (strsV (List.replicate 8 [])) 154)) w.heap.size (bytesV a) 23):=(Lies.new w _ _).alloc _
 have H0:Hid (PtS w 8 154 [] ((w.alloc (.cells (bytesV a) 23)).alloc (.cells (strsV (List.replicate 8 [])) 154))):=⟨new_one w _ _ _,((Below.refl _ _).alloc (Nat.le_refl _) _).alloc (by simp) _⟩
 clear ha hb ht hg hgl
 go_enter Tryz.func111,Tryz.ntmps111
 go_wp2_with fail
 go_loopw [8] (fun c wr=>∃i:Nat,i≤8∧c=.int .i64 i∧Hid (PtS w 8 154 (((grpsOf a).take i).map hexD) wr)∧Hid (Lies wr w.heap.size (bytesV a) 23)) (fun c _=>8 - (intOf c).toNat)
 case atStart=>exact⟨0,by omega,rfl,H0,HA⟩
 case round=>
  obtain⟨i,hi,rfl,HS,HA2⟩:=hrel
  clear H0 HA
  by_cases hlt:i<8
  ·have hil:i<(grpsOf a).length:=by rw[HGL.out];exact hlt
   have hlt':(i:Int)<8:=by omega
   have hn:=HG.out _ (List.getElem_mem hil)
   have hga:=grpsOf_at a i (by rw[HL.out];omega)
   rw[List.getElem?_eq_getElem hil]at hga
   injection hga with hga
   have h1:2*i<a.length:=by rw[HL.out];omega
   have h2:2*i+1<a.length:=by rw[HL.out];omega
   have e1:a.getD (2*i) 0=a[2*i]:=by rw[List.getD_eq_getElem?_getD,List.getElem?_eq_getElem h1];rfl
   have e2:a.getD (2*i+1) 0=a[2*i+1]:=by rw[List.getD_eq_getElem?_getD,List.getElem?_eq_getElem h2];rfl
   have c1:wr.cell? ⟨w.heap.size,2*i,none⟩=some (.int .u8 (a[2*i]:Nat)):=(HA2.out.cell _).trans (bytesV_at a _ h1)
   have c2:wr.cell? ⟨w.heap.size,2*i+1,none⟩=some (.int .u8 (a[2*i+1]:Nat)):=(HA2.out.cell _).trans (bytesV_at a _ h2)
   have b1:a[2*i]<256:=HX.out _ (List.getElem_mem h1)
   have b2:a[2*i+1]<256:=HX.out _ (List.getElem_mem h2)
   rw[e1,e2]at hga
   clear e1 e2
   have HM:Hid (((grpsOf a).take (i+1)).map hexD=((grpsOf a).take i).map hexD++[hexD (grpsOf a)[i]]):=by
    show _=_
    rw[List.take_succ_eq_append_getElem hil,List.map_append]
    rfl
   generalize (grpsOf a)[i]=n at hn hga HM
   generalize a[2*i]=x at c1 b1 hga
   generalize a[2*i+1]=y at c2 b2 hga
   have hor:=u64_or_hi x y b1 b2
   rw[←hga]at hor
   have b1':(x:Int)<256:=by omega
   have b2':(y:Int)<256:=by omega
   have hz:=HA2.out.lt
   have hl:(((grpsOf a).take i).map hexD).length=i:=by rw[List.length_map,List.length_take];omega
   generalize ((grpsOf a).take i).map hexD=L at HS HM hl
   subst hl
   clear hga
   go_wp2_with fail
   go_region
   try rw[hor]
   clear hor
   go_wp2_with fail
   have HSd:PtS w 8 154 L wr.drew:=⟨HS.out.s,HS.out.below.drew⟩
   refine(fmt_16 n hn _ (HT.out _ HSd.below)).mono ?_
   rintro e w2 ⟨rfl,hb2⟩
   have HS2:=HSd.later hb2
   obtain⟨v,hv⟩:=HS2.cell hlt
   have hf:=HS2.s.frozen L.length
   have hz2:=HS2.s.lt
   have HN:Hid (PtS w 8 154 (((grpsOf a).take (L.length+1)).map hexD) (w2.setCell ⟨w.heap.size+1,L.length,none⟩ (.string ⟨(hexD n).toArray⟩))):=by
    have:=HS2.put hlt (hexD n)
    rw[←HM.out]at this
    exact this
   have HA3:Hid (Lies (w2.setCell ⟨w.heap.size+1,L.length,none⟩ (.string ⟨(hexD n).toArray⟩)) w.heap.size (bytesV a) 23):=by
    have:Lies wr.drew w.heap.size (bytesV a) 23:=HA2.out
    exact(this.below hb2 this.lt).set_other (a:=⟨w.heap.size+1,L.length,none⟩) (by show w.heap.size≠w.heap.size+1;omega) _
   clear hb2 HS2 HS HM HSd c1 c2 HA2
   generalize hexD n=d at HN HA3 ⊢
   go_wp2_with fail
   go_roundw
   case rel=>exact⟨L.length+1,by omega,by go_num,HN,HA3⟩
   case measure=>simp[intOf];omega
  ·obtain rfl:i=8:=by omega
   have HSL:Hid (Lies wr (w.heap.size+1) (strsV ((grpsOf a).map hexD)) 154):=by
    have:=HS.out.s
    rw[List.take_of_length_le (by rw[HGL.out];omega),List.length_map,HGL.out,Nat.sub_self,List.replicate_zero,List.append_nil]at this
    exact this
   have hlm:((grpsOf a).map hexD).length=8:=by rw[List.length_map,HGL.out]
   have HB:Hid (Below w.heap.size w wr):=HS.out.below
   have hzz:=zeros_ok ((grpsOf a).map hexD)
   rw[hlm]at hzz
   have HPR:Hid (print6 a=if (zeros ((grpsOf a).map hexD)).2 - (zeros ((grpsOf a).map hexD)).1<2 then joinL [58] ((grpsOf a).map hexD) else joinL [58] (((grpsOf a).map hexD).take (zeros ((grpsOf a).map hexD)).1)++[58,58]++joinL [58] (((grpsOf a).map hexD).drop (zeros ((grpsOf a).map hexD)).2)):=rfl
   have hz:=HSL.out.lt
   clear HS HA2
   generalize (grpsOf a).map hexD=L at HSL hlm hzz HPR
   have HZE:=zeros_any L hlm
   obtain⟨f,t,hft⟩:∃f t,zeros L=(f,t):=⟨_,_,rfl⟩
   rw[hft]at hzz HPR HZE
   dsimp only at hzz HPR HZE
   obtain⟨z1,z2,_⟩:=hzz
   have z1':(f:Int)≤(t:Int):=by omega
   have z2':(t:Int)≤8:=by omega
   have hsz:(strsV L).size=8:=by rw[strsV_size,hlm]
   go_wp2_with (first|(refine wpList_load_row rfl 154 _ rfl (w.heap.size+1) rfl (strsV L) 154 _ HSL.out Tryz.underlying154 rfl (by rw[hsz];exact info8s) ?_)|fail)
   refine(HZE _).mono ?_
   rintro e w2 ⟨rfl,hb2⟩
   have HS2:Hid (Lies w2 (w.heap.size+1) (strsV L) 154):=HSL.out.below hb2 hz
   have HB2:Hid (Below w.heap.size w w2):=HB.out.trans (hb2.mono (by omega))
   have hz2:=HS2.out.lt
   clear hb2 HSL HB HZE hft
   by_cases hshort:t - f<2
   ·have HPR2:Hid (print6 a=joinL [58] L):=by show _=_;rw[HPR.out,if_pos hshort]
    have hs':(t:Int) - (f:Int)<2:=by omega
    have HJ:Hid (Calls Tryz.prog 109 #[.slice (some ⟨w.heap.size+1,0,none⟩) 8 8,.string ⟨#[58]⟩] w2 fun e w'=>e=.returned (.string ⟨(print6 a).toArray⟩)∧Below w2.heap.size w2 w'):=by
     have:=join_some HS2.out 0 8 8 ⟨#[58]⟩ (by omega) (by omega) (by rw[List.drop_zero,List.take_of_length_le (by omega)];rw[HPR2.out]at hlen;exact Nat.le_trans hlen (by decide)) (by omega)
     rw[List.drop_zero,List.take_of_length_le (by omega)]at this
     rw[HPR2.out]
     exact this
    obtain⟨pa,hpa⟩:∃pa,(print6 a).toArray=pa:=⟨_,rfl⟩
    have HPA:Hid ((print6 a).toArray=pa):=hpa
    rw[hpa]at HJ
    clear hlen HPR HPR2 hpa HS2
    go_wp2_with (go_at_call 109;refine HJ.out.mono ?_;rintro e w3 ⟨rfl,hb3⟩)
    go_ret
    refine⟨by rw[HPA.out];rfl,HB2.out.trans (Below.mono ?_ (Nat.le_of_lt (Nat.lt_of_succ_lt hz2)))⟩
    assumption
   ·have HPR2:Hid (print6 a=joinL [58] (L.take f)++[58,58]++joinL [58] (L.drop t)):=by show _=_;rw[HPR.out,if_neg hshort]
    have hs':¬(t:Int) - (f:Int)<2:=by omega
    have hl1:(joinL [58] (L.take f)).length≤82∧(joinL [58] (L.drop t)).length≤82:=by
     rw[HPR2.out,List.length_append,List.length_append]at hlen
     omega
    have HJ1:Hid (∀wx,Below w2.heap.size w2 wx→Calls Tryz.prog 109 #[.slice (some ⟨w.heap.size+1,0,none⟩) f 8,.string ⟨#[58]⟩] wx fun e w'=>e=.returned (.string ⟨(joinL [58] (L.take f)).toArray⟩)∧Below w2.heap.size w2 w'):=fun wx hb=>by
     have:=join_some (HS2.out.below hb hz2) 0 f 8 ⟨#[58]⟩ (by omega) (by omega) (by rw[List.drop_zero];exact Nat.le_trans hl1.1 (by decide)) (by omega)
     rw[List.drop_zero]at this
     exact this.mono fun e w' h=>⟨h.1,hb.trans (h.2.mono hb.size)⟩
    obtain⟨o,ho⟩:∃o,o=if t=8 then 0 else t:=⟨_,rfl⟩
    have HJ2:Hid (∀wx,Below w2.heap.size w2 wx→Calls Tryz.prog 109 #[.slice (some ⟨w.heap.size+1,o,none⟩) (8 - t) (8 - t),.string ⟨#[58]⟩] wx fun e w'=>e=.returned (.string ⟨(joinL [58] (L.drop t)).toArray⟩)∧Below w2.heap.size w2 w'):=fun wx hb=>by
     by_cases h8:t=8
     ·have e:L.drop t=[]:=List.drop_eq_nil_of_le (by omega)
      rw[e,show 8 - t=0 from by omega]
      exact(Tryz.strings_Join_none _ _ _ wx).mono fun e w' h=>⟨h.1,by rw[h.2];exact hb⟩
     ·rw[if_neg h8]at ho
      subst ho
      have:=join_some (HS2.out.below hb hz2) o (8 - o) (8 - o) ⟨#[58]⟩ (by omega) (by omega) (by rw[List.take_of_length_le (by rw[List.length_drop];omega)];exact Nat.le_trans hl1.2 (by decide)) (by omega)
      rw[List.take_of_length_le (by rw[List.length_drop];omega)]at this
      exact this.mono fun e w' h=>⟨h.1,hb.trans (h.2.mono hb.size)⟩
    generalize joinL [58] (L.take f)=A at HJ1 HPR2 hl1
    generalize joinL [58] (L.drop t)=B at HJ2 HPR2 hl1
    obtain⟨hA,hB⟩:=hl1
    clear hlen HPR HS2
    have hal:Tryz.prog.arrayLen 154=8:=by simp[Program.arrayLen,Tryz.underlying154]
    have hs1:∀W,(Instr.sliceAt 154 (.pointer (some ⟨w.heap.size+1,0,none⟩)) none (some (.int .i64 (f:Int))) none).run Tryz.prog W=.ok (.slice (some ⟨w.heap.size+1,0,none⟩) f 8) W:=fun W=>by
     rw[run_sliceAt_array_h W 154 ⟨w.heap.size+1,0,none⟩ (by simp[Program.arrayLen,Program.elem,Tryz.underlying154]) .i64 (f:Int) (by omega) (by rw[hal];omega)]
     go_simp
    have hs2:∀W,(Instr.sliceAt 154 (.pointer (some ⟨w.heap.size+1,0,none⟩)) (some (.int .i64 (t:Int))) none none).run Tryz.prog W=.ok (.slice (some ⟨w.heap.size+1,o,none⟩) (8 - t) (8 - t)) W:=fun W=>by
     rw[run_sliceAt_array_l W 154 ⟨w.heap.size+1,0,none⟩ (by simp[Program.arrayLen,Program.elem,Tryz.underlying154]) .i64 (t:Int) (by omega) (by rw[hal];omega),hal]
     go_simp
     try rw[ho]
     by_cases h8:t=8
     ·simp[h8]
     ·simp[h8,Ne.symm h8]
    clear hal ho
    generalize Value.slice (some ⟨w.heap.size+1,0,none⟩) f 8=v1 at hs1 HJ1
    generalize Value.slice (some ⟨w.heap.size+1,o,none⟩) (8 - t) (8 - t)=v2 at hs2 HJ2
    obtain⟨SA,hSA⟩:∃SA:ByteArray,SA=⟨A.toArray⟩:=⟨_,rfl⟩
    obtain⟨SB,hSB⟩:∃SB:ByteArray,SB=⟨B.toArray⟩:=⟨_,rfl⟩
    have hA1:(SA.size:Int)≤8388608:=by rw[hSA];show((A.toArray.size:Nat):Int)≤_;rw[List.size_toArray];omega
    have hA2:(SB.size:Int)≤8388608:=by rw[hSB];show((B.toArray.size:Nat):Int)≤_;rw[List.size_toArray];omega
    have hA3:((SA++⟨#[58,58]⟩).size:Int)≤8388608:=by
     rw[ByteArray.size_append,hSA]
     show((A.toArray.size+2:Nat):Int)≤_
     rw[List.size_toArray]
     omega
    have HFIN:Hid ((⟨(print6 a).toArray⟩:ByteArray)=SA++⟨#[58,58]⟩++SB):=by
     show _=_
     rw[HPR2.out,hSA,hSB,show(⟨#[58,58]⟩:ByteArray)=⟨([58,58]:List UInt8).toArray⟩ from rfl,str_append,str_append]
    rw[←hSA]at HJ1
    rw[←hSB]at HJ2
    have ad1:∀W,(Op.stringOp .add SA ⟨#[58,58]⟩).run Tryz.prog W=.ok (.string (SA++⟨#[58,58]⟩)) W:=fun W=>run_string_add _ _ _ hA1 (by decide)
    have ad2:∀W,(Op.stringOp .add (SA++⟨#[58,58]⟩) SB).run Tryz.prog W=.ok (.string (SA++⟨#[58,58]⟩++SB)) W:=fun W=>run_string_add _ _ _ hA3 hA2
    clear hA hB hA1 hA2 hA3 HPR2 hSA hSB
    go_wp2_with fail
    refine wp_region_late (fun _=>True) 9 (by kernel_rfl) trivial (fun hHeld=>?_)
    refine wpAnyE_tk (i:=0) (d:=some 40) (v:=?_) rfl (by kernel_rfl) (by kernel_rfl) (by kernel_rfl) rfl (fun _ _ _ h=>h) rfl rfl ?hy (by first|assumption|go_simp) ?_
    case hy=>(intro w' hSw;(try dsimp only at hSw);go_simp<;>(first|with_reducible rfl|omega|skip))
    simp only[Act.put,pA,pB,pC]
    refine wpAnyE_tk (i:=1) (d:=some 41) (v:=v1) rfl (by kernel_rfl) (by kernel_rfl) (by kernel_rfl) rfl (fun _ _ _ h=>h) rfl rfl ?hy (by first|assumption|go_simp) ?_
    case hy=>(intro w' hSw;(try dsimp only at hSw);go_simp<;>(first|with_reducible rfl|omega|skip))
    simp only[Act.put,pA,pB,pC]
    refine wpAnyE_tk (i:=4) (d:=some 44) (v:=?_) rfl (by kernel_rfl) (by kernel_rfl) (by kernel_rfl) rfl (fun _ _ _ h=>h) rfl rfl ?hy (by first|assumption|go_simp) ?_
    case hy=>(intro w' hSw;(try dsimp only at hSw);go_simp<;>(first|with_reducible rfl|omega|skip))
    simp only[Act.put,pA,pB,pC]
    refine wpAnyE_tk (i:=5) (d:=some 45) (v:=v2) rfl (by kernel_rfl) (by kernel_rfl) (by kernel_rfl) rfl (fun _ _ _ h=>h) rfl rfl ?hy (by first|assumption|go_simp) ?_
    case hy=>(intro w' hSw;(try dsimp only at hSw);go_simp<;>(first|with_reducible rfl|omega|skip))
    simp only[Act.put,pA,pB,pC]
    refine on9 2 ?_
    go_simp
    refine Calls.mono (HJ1.out _ ((Below.refl _ w2).drew)) ?_
    rintro e u1 ⟨rfl,hb⟩
    have K1:Hid (Below w2.heap.size w2 u1):=hb
    clear hb
    refine wpAnyE_tk (i:=3) (d:=some 43) (v:=.string (SA++⟨#[58,58]⟩)) rfl (by kernel_rfl) (by kernel_rfl) (by kernel_rfl) rfl (fun _ _ _ h=>h) rfl rfl ?hy (by first|assumption|go_simp) ?_
    case hy=>(intro w' hSw;(try dsimp only at hSw);go_simp<;>(first|with_reducible rfl|omega|skip))
    simp only[Act.put,pA,pB,pC]
    refine on9 6 ?_
    go_simp
    refine Calls.mono (HJ2.out _ K1.out) ?_
    rintro e u2 ⟨rfl,hb⟩
    have K2:Hid (Below w2.heap.size w2 u2):=hb
    clear hb
    refine wpAnyE_tk (i:=7) (d:=some 47) (v:=.string (SA++⟨#[58,58]⟩++SB)) rfl (by kernel_rfl) (by kernel_rfl) (by kernel_rfl) rfl (fun _ _ _ h=>h) rfl rfl ?hy (by first|assumption|go_simp) ?_
    case hy=>(intro w' hSw;(try dsimp only at hSw);go_simp<;>(first|with_reducible rfl|omega|skip))
    simp only[Act.put,pA,pB,pC]
    refine wpAnyE_tk (i:=8) (d:=some 2) (v:=.string (SA++⟨#[58,58]⟩++SB)) rfl (by kernel_rfl) (by kernel_rfl) (by kernel_rfl) rfl (fun _ _ _ h=>h) rfl rfl ?hy (by first|assumption|go_simp) ?_
    case hy=>(intro w' hSw;(try dsimp only at hSw);go_simp<;>(first|with_reducible rfl|omega|skip))
    simp only[Act.put,pA,pB,pC]
    refine wpAnyE_done (by kernel_rfl) ?_ _
    clear hHeld
    go_wp2
    go_ret
    exact⟨by rw[HFIN.out];rfl,HB2.out.trans (K2.out.mono (Nat.le_of_lt (Nat.lt_of_succ_lt hz2)))⟩
open Go.RowKit
def printV (r:List UInt8×Nat):Value:=.tuple #[.string ⟨r.1.toArray⟩,.int .i64 (r.2:Nat)]
set_option maxHeartbeats 4000000 in
set_option maxRecDepth 100000 in
theorem print_any (h:Ho) (ok:h.Ok) (w:World) (hT:Tb w) (hP:PowTab w) (hn:h.n.length≤140737488355328):
  Calls Tryz.prog 79 #[hostV h] w fun e w'=>e=.returned (printV (print h))∧Below w.heap.size w w':=by
 have ha:=ok.len
 have HT:Hid (∀wx,Below w.heap.size w wx→Tb wx):=fun wx hb=>hT.below hb
 have HPT:Hid (∀wx,Below w.heap.size w wx→PowTab wx):=fun wx hb=>hP.below hb
 have hsz:=hostC_size h ha
 obtain⟨HC,hHC⟩:∃HC,HC=hostC h:=⟨_,rfl⟩
 have e1:hostV h=.agg HC:=by rw[hHC];rfl
 have HHC:Hid (HC=hostC h):=hHC
 rw[←hHC]at hsz
 have L1:Hid (Lies (w.alloc (.cells HC 25)) w.heap.size HC 25):=Lies.new w _ _
 have HB:Hid (Below w.heap.size w (w.alloc (.cells HC 25))):=(Below.refl _ _).alloc (Nat.le_refl _) _
 have HCK:Hid (Calls Tryz.prog 74 #[.agg HC,.bool true] (w.alloc (.cells HC 25)) fun e w'=>e=.returned (.int .i64 (check h true:Nat))∧Below (w.alloc (.cells HC 25)).heap.size (w.alloc (.cells HC 25)) w'):=by
  rw[←e1]
  exact chk_any h ha true _ (HT.out _ HB.out) hn
 rw[e1]
 clear hT hP hHC e1
 go_enter Tryz.func79,Tryz.ntmps79
 go_wp2_with (refine wpList_load_row rfl 25 _ rfl w.heap.size rfl HC 25 _ L1.out Tryz.underlying25 rfl (by rw[hsz];exact infoHo) ?_)
 refine HCK.out.mono ?_
 rintro e w1 ⟨rfl,hb1⟩
 have K1:Hid (Lies w1 w.heap.size HC 25):=L1.out.below hb1 L1.out.lt
 have KB:Hid (Below w.heap.size w w1):=HB.out.trans (hb1.mono (Nat.le_of_lt L1.out.lt))
 clear hb1 L1 HB HCK
 have hz1:=K1.out.lt
 have K1h:Lies w1 w.heap.size (hostC h) 25:=by rw[←HHC.out];exact K1.out
 obtain⟨c0,c1⟩:=host_cells K1h
 by_cases hck:check h true=0
 case neg=>
  have HV:Hid (print h=([],check h true)):=by show _=_;unfold print;rw[if_neg hck]
  have hck':((check h true:Int)==0)=false:=by rw[beq_eq_false_iff_ne];omega
  generalize check h true=ck at HV hck' ⊢
  clear hck
  go_wp2_with fail
  refine bodyPost_ret (v:=.tuple #[.string ⟨#[]⟩,.int .i64 (ck:Int)]) (by simp[results,Tryz.results79,go_sem]) rfl ⟨by rw[HV.out];rfl,KB.out⟩
 rw[hck]
 by_cases k2:h.k=2
 ·have HV:Hid (print h=([91]++print4 (h.a.take 4)++[93],0)):=by show _=_;unfold print;rw[if_pos hck,if_pos k2]
  rw[k2]at c0
  obtain⟨q0,q1,q2,q3,hq⟩:∃q0 q1 q2 q3,h.a.take 4=[q0,q1,q2,q3]:=by
   have:(h.a.take 4).length=4:=by rw[List.length_take];omega
   match h.a.take 4,this with
   |[q0,q1,q2,q3],_=>exact⟨q0,q1,q2,q3,rfl⟩
  have HM4:=host_mid4 K1h
  have hb4:∀n∈[q0,q1,q2,q3],n<256:=fun n hn=>by rw[←hq]at hn;exact ok.byt n (List.mem_of_mem_take hn)
  rw[hq]at HM4 HV
  have HS4:Hid (w1.rangeAt w.heap.size 2 [.int .u8 (q0:Nat),.int .u8 (q1:Nat),.int .u8 (q2:Nat),.int .u8 (q3:Nat)]):=HM4
  have hlen:=print4_len q0 q1 q2 q3
  have HPV:Hid (Calls Tryz.prog 110 #[.agg #[.int .u8 (q0:Nat),.int .u8 (q1:Nat),.int .u8 (q2:Nat),.int .u8 (q3:Nat)]] w1 fun e w'=>e=.returned (.string ⟨(print4 [q0,q1,q2,q3]).toArray⟩)∧Below w1.heap.size w1 w'):=printv4_any [q0,q1,q2,q3] rfl hb4 w1 (HPT.out _ KB.out)
  have hat:=array_at w.heap.size
  generalize print4 [q0,q1,q2,q3]=ps at HV hlen HPV
  obtain⟨S,hS⟩:∃S:ByteArray,S=⟨ps.toArray⟩:=⟨_,rfl⟩
  have hSs:(S.size:Int)≤100:=by rw[hS];show((ps.toArray.size:Nat):Int)≤_;rw[List.size_toArray];omega
  have HF:Hid ((⟨([91]++ps++[93]).toArray⟩:ByteArray)=⟨#[91]⟩++S++⟨#[93]⟩):=by
   show _=_
   rw[hS,show(⟨#[91]⟩:ByteArray)=⟨([91]:List UInt8).toArray⟩ from rfl,show(⟨#[93]⟩:ByteArray)=⟨([93]:List UInt8).toArray⟩ from rfl,str_append,str_append]
  rw[←hS]at HPV
  have ad1:∀W,(Op.stringOp .add ⟨#[91]⟩ S).run Tryz.prog W=.ok (.string (⟨#[91]⟩++S)) W:=fun W=>run_string_add _ _ _ (by decide) (by omega)
  have ad2:∀W,(Op.stringOp .add (⟨#[91]⟩++S) ⟨#[93]⟩).run Tryz.prog W=.ok (.string (⟨#[91]⟩++S++⟨#[93]⟩)) W:=fun W=>run_string_add _ _ _ (by rw[ByteArray.size_append];show((1+S.size:Nat):Int)≤_;omega) (by decide)
  clear HM4 hq hb4 k2 hck hS hSs hlen
  go_wp2_with (refine wpList_load_mid rfl 108 _ rfl w.heap.size 2 rfl [.int .u8 (q0:Nat),.int .u8 (q1:Nat),.int .u8 (q2:Nat),.int .u8 (q3:Nat)] _ HS4.out Tryz.underlying108 rfl info4 ?_)
  refine HPV.out.mono ?_
  rintro e w2 ⟨rfl,hb2⟩
  have KB2:Hid (Below w.heap.size w w2):=KB.out.trans (hb2.mono (Nat.le_of_lt hz1))
  clear hb2 HPV c0 c1 K1h
  go_wp2_with fail
  refine bodyPost_ret (v:=.tuple #[.string (⟨#[91]⟩++S++⟨#[93]⟩),.int .i64 0]) (by simp[results,Tryz.results79,go_sem]) rfl ⟨by rw[HV.out];unfold printV;rw[HF.out];rfl,KB2.out⟩
 have k2':(h.k==2)=false:=by rw[beq_eq_false_iff_ne];exact k2
 by_cases k3:h.k=3
 ·have HV:Hid (print h=([91,73,80,118,54,58]++print6 h.a++[93],0)):=by show _=_;unfold print;rw[if_pos hck,if_neg k2,if_pos k3]
  rw[k3]at c0
  have HM:=host_mid K1h
  obtain⟨A,hA⟩:∃A,A=h.a.map fun n=>Value.int .u8 (n:Nat):=⟨_,rfl⟩
  have hAl:A.length=16:=by rw[hA,List.length_map,ha]
  rw[←hA]at HM
  have HMID:Hid (w1.rangeAt w.heap.size 2 A):=HM
  have hlen:=print6_len h.a ha ok.byt
  have HPV:Hid (Calls Tryz.prog 111 #[.agg A.toArray] w1 fun e w'=>e=.returned (.string ⟨(print6 h.a).toArray⟩)∧Below w1.heap.size w1 w'):=by
   rw[hA]
   exact printv6_any h.a ha ok.byt w1 (HT.out _ KB.out).t64
  generalize print6 h.a=ps at HV hlen HPV
  obtain⟨S,hS⟩:∃S:ByteArray,S=⟨ps.toArray⟩:=⟨_,rfl⟩
  have hSs:(S.size:Int)≤100:=by rw[hS];show((ps.toArray.size:Nat):Int)≤_;rw[List.size_toArray];omega
  have HF:Hid ((⟨([91,73,80,118,54,58]++ps++[93]).toArray⟩:ByteArray)=⟨#[91,73,80,118,54,58]⟩++S++⟨#[93]⟩):=by
   show _=_
   rw[hS,show(⟨#[91,73,80,118,54,58]⟩:ByteArray)=⟨([91,73,80,118,54,58]:List UInt8).toArray⟩ from rfl,show(⟨#[93]⟩:ByteArray)=⟨([93]:List UInt8).toArray⟩ from rfl,str_append,str_append]
  rw[←hS]at HPV
  have ad1:∀W,(Op.stringOp .add ⟨#[91,73,80,118,54,58]⟩ S).run Tryz.prog W=.ok (.string (⟨#[91,73,80,118,54,58]⟩++S)) W:=fun W=>run_string_add _ _ _ (by decide) (by omega)
  have ad2:∀W,(Op.stringOp .add (⟨#[91,73,80,118,54,58]⟩++S) ⟨#[93]⟩).run Tryz.prog W=.ok (.string (⟨#[91,73,80,118,54,58]⟩++S++⟨#[93]⟩)) W:=fun W=>run_string_add _ _ _ (by rw[ByteArray.size_append];show((6+S.size:Nat):Int)≤_;omega) (by decide)
  clear HM k2 k3 hck hS hSs hlen hA
  go_wp2_with (refine wpList_load_mid rfl 23 _ rfl w.heap.size 2 rfl A _ HMID.out Tryz.underlying23 rfl (by rw[hAl];exact info16) ?_)
  refine HPV.out.mono ?_
  rintro e w2 ⟨rfl,hb2⟩
  have KB2:Hid (Below w.heap.size w w2):=KB.out.trans (hb2.mono (Nat.le_of_lt hz1))
  clear hb2 HPV c0 c1 K1h
  go_wp2_with fail
  refine bodyPost_ret (v:=.tuple #[.string (⟨#[91,73,80,118,54,58]⟩++S++⟨#[93]⟩),.int .i64 0]) (by simp[results,Tryz.results79,go_sem]) rfl ⟨by rw[HV.out];unfold printV;rw[HF.out];rfl,KB2.out⟩
 have k3':(h.k==3)=false:=by rw[beq_eq_false_iff_ne];exact k3
 obtain⟨S,hS⟩:∃S:ByteArray,S=⟨h.n.toArray⟩:=⟨_,rfl⟩
 rw[←hS]at c1
 by_cases k4:h.k=4
 ·have HV:Hid (print h=([91]++h.n++[93],0)):=by show _=_;unfold print;rw[if_pos hck,if_neg k2,if_neg k3,if_pos k4]
  rw[k4]at c0
  have hnl:h.n.length≤253:=by
   have:=(check_tag k4 hck).2
   unfold chTag at this
   rcases Nat.lt_or_ge 253 h.n.length with hl|hl
   ·rw[if_pos hl]at this;cases this
   ·exact hl
  have hSs:(S.size:Int)≤253:=by rw[hS];show((h.n.toArray.size:Nat):Int)≤_;rw[List.size_toArray];omega
  have HF:Hid ((⟨([91]++h.n++[93]).toArray⟩:ByteArray)=⟨#[91]⟩++S++⟨#[93]⟩):=by
   show _=_
   rw[hS,show(⟨#[91]⟩:ByteArray)=⟨([91]:List UInt8).toArray⟩ from rfl,show(⟨#[93]⟩:ByteArray)=⟨([93]:List UInt8).toArray⟩ from rfl,str_append,str_append]
  have ad1:∀W,(Op.stringOp .add ⟨#[91]⟩ S).run Tryz.prog W=.ok (.string (⟨#[91]⟩++S)) W:=fun W=>run_string_add _ _ _ (by decide) (by omega)
  have ad2:∀W,(Op.stringOp .add (⟨#[91]⟩++S) ⟨#[93]⟩).run Tryz.prog W=.ok (.string (⟨#[91]⟩++S++⟨#[93]⟩)) W:=fun W=>run_string_add _ _ _ (by rw[ByteArray.size_append];show((1+S.size:Nat):Int)≤_;omega) (by decide)
  clear k2 k3 k4 hck hS hSs hnl
  go_wp2_with fail
  refine bodyPost_ret (v:=.tuple #[.string (⟨#[91]⟩++S++⟨#[93]⟩),.int .i64 0]) (by simp[results,Tryz.results79,go_sem]) rfl ⟨by rw[HV.out];unfold printV;rw[HF.out];rfl,KB.out⟩
 have k4':(h.k==4)=false:=by rw[beq_eq_false_iff_ne];exact k4
 have HV:Hid (print h=(h.n,0)):=by show _=_;unfold print;rw[if_pos hck,if_neg k2,if_neg k3,if_neg k4]
 have HSS:Hid (S=⟨h.n.toArray⟩):=hS
 clear k2 k3 k4 hck hS
 go_wp2_with fail
 refine bodyPost_ret (v:=.tuple #[.string S,.int .i64 0]) (by simp[results,Tryz.results79,go_sem]) rfl ⟨by rw[HV.out,HSS.out];rfl,KB.out⟩
end Go.Proofs.YtfjpkfhbmldmfaaGreatDoor
