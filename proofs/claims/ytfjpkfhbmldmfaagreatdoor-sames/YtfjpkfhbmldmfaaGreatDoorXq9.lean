/-
  The program's writtenBox, writtenRoute.
-/
import Derived.Test.YtfjpkfhbmldmfaaGreatDoorDecm8
import Derived.Test.YtfjpkfhbmldmfaaGreatDoorPr8
import Derived.Test.YtfjpkfhbmldmfaaGreatDoorQi9
import Derived.Deep.OwnRows
namespace Go.Proofs.YtfjpkfhbmldmfaaGreatDoor
open Go.RowKit
structure Td (w:World):Prop where
 tb:Tb w
 pow:PowTab w
 ml:∃m,w.cell? ⟨2,0,none⟩=some (.int .i64 m)
theorem Td.below {w w':World} (h:Td w) (hb:Below w.heap.size w w'):Td w':=by
 obtain⟨m,hm⟩:=h.ml
 exact⟨h.tb.below hb,h.pow.below hb,m,(hb.cell (p:=⟨2,0,none⟩) (World.block_lt_of_cell? w _ hm)).trans hm⟩
theorem RepOk.later {s:ByteArray} {w w':World} (h:RepOk s w) (hb:Below w.heap.size w w'):RepOk s w':=⟨fun wx hx=>h.one wx (hb.trans (hx.mono hb.size)),fun wx hx=>h.two wx (hb.trans (hx.mono hb.size))⟩
theorem boxC_0 (l:List UInt8) (h:Ho):(boxC l h)[0]?=some (.string (txt l)):=by
 unfold boxC
 rw[Array.getElem?_append_left (by simp)]
 rfl
theorem boxC_1 (l:List UInt8) (h:Ho):∀j v,(hostC h).toList[j]?=some v→(boxC l h)[1+j]?=some v:=fun j v hv=>by
 unfold boxC
 rw[Array.getElem?_append_right (by simp)]
 simp only[List.size_toArray,List.length_cons,List.length_nil]
 rw[show 1+j - (0+1)=j from by omega]
 simpa using hv
set_option maxHeartbeats 4000000 in
set_option maxRecDepth 100000 in
theorem wbox_any (l:List UInt8) (h:Ho) (ok:h.Ok) (hn:h.n.length≤140737488355328) (hl:l.length≤140737488355328) (hw:(wrH h).length≤140737488355328) (w:World) (hT:Td w) (hr:RepOk (txt l) w):
  Calls Tryz.prog 50 #[.agg (boxC l h)] w fun e w'=>e=.returned (.string (txt (wrB l h)))∧Below w.heap.size w w':=by
 have hB0:=boxC_0 l h
 have hB1:=boxC_1 l h
 have hBz:=boxC_size l h ok.len
 have hsz:=hostC_size h ok.len
 obtain⟨B,hB⟩:∃B,B=boxC l h:=⟨_,rfl⟩
 rw[←hB]at hB0 hB1 hBz ⊢
 obtain⟨HC,hHC⟩:∃HC,HC=hostC h:=⟨_,rfl⟩
 rw[←hHC]at hB1 hsz
 obtain⟨M,hM⟩:∃M,M=txt l:=⟨_,rfl⟩
 rw[←hM]at hB0 hr
 have hMl:M.data.toList=l:=by rw[hM,txt_list]
 have hMz:M.size≤140737488355328:=by rw[hM,txt_size];exact hl
 have L1:Hid (Lies (w.alloc (.cells B 27)) w.heap.size B 27):=Lies.new w _ _
 have KB:Hid (Below w.heap.size w (w.alloc (.cells B 27))):=(Below.refl _ w).alloc (Nat.le_refl _) _
 have HPR:Hid (∀wx,Below w.heap.size w wx→Calls Tryz.prog 79 #[.agg HC] wx fun e w'=>e=.returned (.tuple #[.string (txt (wrH h)),.int .i64 ((print h).2:Nat)])∧Below wx.heap.size wx w'):=fun wx hx=>by
  have hd:=hT.below hx
  have:=print_any h ok wx hd.tb hd.pow hn
  unfold hostV at this
  rw[←hHC]at this
  exact this
 have HWL:Hid (∀wx,Below w.heap.size w wx→Calls Tryz.prog 76 #[.string M] wx fun e w'=>e=.returned (.string (txt (wrL l)))∧Below wx.heap.size wx w'):=fun wx hx=>by
  have:=wloc_any M hMz wx (hT.below hx).tb (hr.later hx)
  rw[hMl]at this
  exact this
 obtain⟨T1,hT1⟩:∃T1,T1=txt (wrL l):=⟨_,rfl⟩
 obtain⟨T2,hT2⟩:∃T2,T2=txt (wrH h):=⟨_,rfl⟩
 have z1:T1.size≤281474976710658:=by
  rw[hT1,txt_size]
  unfold wrL
  split
  ·omega
  ·have:=escL_two l
   simp only[List.length_cons,List.length_append,List.length_nil]
   omega
 have z2:T2.size≤140737488355328:=by rw[hT2,txt_size];exact hw
 have HR:Hid (txt (wrB l h)=T1++⟨#[64]⟩++T2):=by
  show _=_
  have e1:(⟨#[64]⟩:ByteArray)=txt [64]:=rfl
  rw[hT1,hT2,e1,txt_cat,txt_cat]
  unfold wrB
  rw[List.append_assoc]
  rfl
 rw[←hT1]at HWL
 rw[←hT2]at HPR
 generalize (print h).2=pe at HPR
 have HB0:Hid (B[0]?=some (.string M)):=hB0
 have HB1:Hid (∀j v,HC.toList[j]?=some v→B[1+j]?=some v):=hB1
 clear hB hHC hM hT hr hT1 hT2 hB0 hB1
 rw[HR.out]
 go_enter Tryz.func50,Tryz.ntmps50
 go_upto_region 1 with fail
 generalize w.alloc (.cells B 27)=w1 at L1 KB ⊢
 have hrg:w1.rangeAt w.heap.size 1 HC.toList:=fun j v hv=>(L1.out.cell (1+j)).trans (HB1.out j v hv)
 have HRG:Hid (w1.rangeAt w.heap.size 1 HC.toList):=hrg
 clear hrg
 go_wp2_with (refine wpList_load_mid rfl 25 _ rfl w.heap.size 1 rfl HC.toList _ HRG.out Tryz.underlying25 rfl (by rw[Array.length_toList,hsz];exact infoHo) ?_)
 refine Calls.mono (HPR.out _ KB.out) ?_
 rintro e w2 ⟨rfl,hb2⟩
 have L2:Hid (Lies w2 w.heap.size B 27):=L1.out.below hb2 L1.out.lt
 have K2:Hid (Below w.heap.size w w2):=KB.out.trans (hb2.mono KB.out.size)
 have c0:w2.cell? ⟨w.heap.size,0,none⟩=some (.string M):=(L2.out.cell 0).trans HB0.out
 clear hb2 L1 KB HRG HPR
 go_wp2_with fail
 refine(HWL.out _ K2.out).mono ?_
 rintro e w3 ⟨rfl,hb3⟩
 have K3:Hid (Below w.heap.size w w3):=K2.out.trans (hb3.mono K2.out.size)
 clear hb3 HWL K2 L2
 go_wp2_with fail
 go_ret
 exact⟨rfl,K3.out⟩
open Go.RowKit
def atN (h:Ho):List UInt8:=64::h.n
def nmsR (r:List Ho):List UInt8:=if r=[] then [] else joinL [44] (r.map atN)++[58]
theorem nms_wr:∀r:List Ho,(∀h∈r,wrH h=h.n)→nmsR r=wrR r
 |[],_=>rfl
 |[h],hh=>by
  unfold nmsR
  rw[if_neg (by simp),wrR,hh h (by simp)]
  simp[joinL,atN]
 |h::g::r,hh=>by
  have ih:=nms_wr (g::r) (fun x hx=>hh x (List.mem_cons_of_mem _ hx))
  unfold nmsR at ih ⊢
  rw[if_neg (by simp)]at ih ⊢
  rw[wrR,←ih,hh h (by simp)]
  simp[joinL,atN]
theorem join_len (b:Nat):∀L:List (List UInt8),(∀x∈L,x.length≤b)→(joinL [44] L).length≤(b+1)*L.length
 |[],_=>by simp[joinL]
 |[x],h=>by
  have:=h x (by simp)
  simp[joinL]
  omega
 |x::y::L,h=>by
  have h1:=h x (by simp)
  have ih:=join_len b (y::L) (fun z hz=>h z (List.mem_cons_of_mem _ hz))
  have e:(joinL [44] (x::y::L)).length=x.length+1+(joinL [44] (y::L)).length:=by simp[joinL];omega
  rw[e,List.length_cons,Nat.mul_succ]
  omega
theorem infoStr:(Tryz.prog.info? 9).map (fun i=>(i.zero,i.size,i.bytes))=some (some (.string ⟨#[]⟩),1,16):=by kernel_rfl
theorem made_strs (n:Nat):madeCells #[.string ⟨#[]⟩] n=strsV (List.replicate n []):=by
 unfold strsV
 apply Array.ext_getElem?
 intro i
 by_cases h:i<n
 ·simp[madeCells,h,Nat.mod_one]
 ·rw[Array.getElem?_eq_none (by simp[madeCells];omega),Array.getElem?_eq_none (by simp;omega)]
theorem strs_put {wr:World} {g n:Nat} {L:List (List UInt8)} (h:Lies wr g (strsV (L++List.replicate (n - L.length) [])) 9) (hl:L.length<n) (x:List UInt8):Lies (wr.setCell ⟨g,L.length,none⟩ (.string (txt x))) g (strsV ((L++[x])++List.replicate (n - (L++[x]).length) [])) 9:=by
 have:=h.set L.length (.string ⟨x.toArray⟩)
 rw[strsV_set]at this
 have e:(L++List.replicate (n - L.length) []).set L.length x=L++[x]++List.replicate (n - (L++[x]).length) []:=by
  rw[List.set_append_right _ _ (Nat.le_refl _),Nat.sub_self,show n - L.length=n - (L++[x]).length+1 from by simp;omega,List.replicate_succ,List.set_cons_zero]
  simp
 rw[e]at this
 exact this
theorem strs_cell {wr:World} {g n:Nat} {L:List (List UInt8)} (h:Lies wr g (strsV (L++List.replicate (n - L.length) [])) 9) (hl:L.length<n):∃v,wr.cell? ⟨g,L.length,none⟩=some (.string v):=
 ⟨_,(h.cell L.length).trans (strsV_at _ _ (by simp;omega))⟩
set_option maxHeartbeats 8000000 in
set_option maxRecDepth 100000 in
theorem wroute_any (sp:Option Addr) (c:Nat) (r:List Ho) (w:World) (hr:RtM w sp r) (h16:r.length≤1000) (okr:∀x∈r,x.a.length=16∧x.n.length≤1000):
  Calls Tryz.prog 78 #[.slice sp r.length c] w fun e w'=>e=.returned (.string (txt (nmsR r)))∧Below w.heap.size w w':=by
 by_cases h0:r=[]
 ·subst h0
  go_enter Tryz.func78,Tryz.ntmps78
  go_wp2_with fail
  go_ret
  exact⟨rfl,Below.refl _ _⟩
 ·have HN0:Hid (nmsR r=joinL [44] (r.map atN)++[58]):=if_neg h0
  have hpos:0<r.length:=List.length_pos_iff.2 h0
  obtain⟨g0,o,hsp,hg0,hmem⟩:∃g o,sp=some ⟨g,o,none⟩∧g<w.heap.size∧∀j (hj:j<r.length),w.rangeAt g (o+j*18) (hostC r[j]).toList:=by
   rcases hr with h|h
   ·exact absurd h h0
   ·exact h
  subst hsp
  have HMM:Hid (∀j (hj:j<r.length),w.rangeAt g0 (o+j*18) (hostC r[j]).toList):=hmem
  have HOK:Hid (∀x∈r,x.a.length=16∧x.n.length≤1000):=okr
  obtain⟨n,hn⟩:∃n,n=r.length:=⟨_,rfl⟩
  have HNN:Hid (n=r.length):=hn
  rw[←hn]at h16 hpos ⊢
  have hz:((n:Int)==0)=false:=by rw[beq_eq_false_iff_ne];omega
  have hmk:∀W:World,(Instr.makeSlice 50 (.int .i64 (n:Int)) (.int .i64 (n:Int))).run Tryz.prog W=.ok (.slice (some ⟨W.heap.size,0,none⟩) n n) (W.alloc (.cells (strsV (List.replicate n [])) 9)):=fun W=>by
   have:=run_make_row' (P:=Tryz.prog) 50 9 (.string ⟨#[]⟩) 16 Tryz.underlying50 infoStr rfl .i64 .i64 n (by omega) (by omega) W
   rw[made_strs]at this
   exact this
  have HL0:Hid (Lies (w.alloc (.cells (strsV (List.replicate n [])) 9)) w.heap.size (strsV ([]++List.replicate (n - ([]:List (List UInt8)).length) [])) 9):=Lies.new w _ _
  have HB0:Hid (Below w.heap.size w (w.alloc (.cells (strsV (List.replicate n [])) 9))):=(Below.refl _ w).alloc (Nat.le_refl _) _
  clear hn h0 hr okr hmem
  go_enter Tryz.func78,Tryz.ntmps78
  go_upto_region 4 with fail
  generalize w.alloc (.cells (strsV (List.replicate n [])) 9)=w1 at HL0 HB0 ⊢
  clear hmk
  go_wp2_with fail
  go_loopw [14] (fun ci wr=>∃i:Nat,i≤n∧ci=.int .i64 i∧Hid (Lies wr w.heap.size (strsV ((r.take i).map atN++List.replicate (n - ((r.take i).map atN).length) [])) 9)∧Hid (Below w.heap.size w wr)) (fun ci _=>n - (intOf ci).toNat)
  case atStart=>exact⟨0,Nat.zero_le _,rfl,HL0,HB0⟩
  case round=>
   obtain⟨i,hi,rfl,HL,HB⟩:=hrel
   clear HL0 HB0
   by_cases hlt:i<n
   ·have hlt':(i:Int)<(n:Int):=by omega
    have hir:i<r.length:=by rw[←HNN.out];exact hlt
    obtain⟨hx16,hxn⟩:=HOK.out r[i] (List.getElem_mem hir)
    obtain⟨C,hC⟩:∃C,C=hostC r[i]:=⟨_,rfl⟩
    have hCz:C.size=18:=by rw[hC];exact hostC_size _ hx16
    have hCo:C.all (·.oneCell')=true:=by rw[hC];exact hostC_one _
    obtain⟨M,hM⟩:∃M,M=txt r[i].n:=⟨_,rfl⟩
    have hMz:M.size≤1000:=by rw[hM,txt_size];exact hxn
    have HC1:Hid (C[1]?=some (.string M)):=by show _=_;rw[hC,hM];rfl
    have HMC:Hid (wr.rangeAt g0 (o+i*18) C.toList):=fun j v hv=>by
     rw[HB.out.cell (p:=⟨g0,o+i*18+j,none⟩) hg0]
     rw[hC]at hv
     exact HMM.out i hir j v hv
    have hlen:((r.take i).map atN).length=i:=by rw[List.length_map,List.length_take];omega
    have HLN:Hid (((r.take i).map atN).length=i):=hlen
    obtain⟨vi,hvi⟩:=strs_cell HL.out (by rw[hlen];exact hlt)
    have hfi:=HL.out.frozen ((r.take i).map atN).length
    rw[hlen]at hvi hfi
    have hwr:w.heap.size<wr.heap.size:=HL.out.lt
    have HZ:Hid (Lies (wr.alloc (.cells #[.int .i64 0,.string ⟨#[]⟩,.int .u8 0,.int .u8 0,.int .u8 0,.int .u8 0,.int .u8 0,.int .u8 0,.int .u8 0,.int .u8 0,.int .u8 0,.int .u8 0,.int .u8 0,.int .u8 0,.int .u8 0,.int .u8 0,.int .u8 0,.int .u8 0] 25)) wr.heap.size #[.int .i64 0,.string ⟨#[]⟩,.int .u8 0,.int .u8 0,.int .u8 0,.int .u8 0,.int .u8 0,.int .u8 0,.int .u8 0,.int .u8 0,.int .u8 0,.int .u8 0,.int .u8 0,.int .u8 0,.int .u8 0,.int .u8 0,.int .u8 0,.int .u8 0] 25):=Lies.new wr _ _
    have HV:Hid (Lies ((wr.alloc (.cells #[.int .i64 0,.string ⟨#[]⟩,.int .u8 0,.int .u8 0,.int .u8 0,.int .u8 0,.int .u8 0,.int .u8 0,.int .u8 0,.int .u8 0,.int .u8 0,.int .u8 0,.int .u8 0,.int .u8 0,.int .u8 0,.int .u8 0,.int .u8 0,.int .u8 0] 25)).setRow wr.heap.size C) wr.heap.size C 25):=HZ.out.row C
    have HK:Hid (Below wr.heap.size wr ((wr.alloc (.cells #[.int .i64 0,.string ⟨#[]⟩,.int .u8 0,.int .u8 0,.int .u8 0,.int .u8 0,.int .u8 0,.int .u8 0,.int .u8 0,.int .u8 0,.int .u8 0,.int .u8 0,.int .u8 0,.int .u8 0,.int .u8 0,.int .u8 0,.int .u8 0,.int .u8 0] 25)).setRow wr.heap.size C)):=below_row ((Below.refl _ wr).alloc (Nat.le_refl _) _) (Nat.le_refl _) C
    have HIM:Hid (txt (atN r[i])=⟨#[64]⟩++M):=by
     show _=_
     rw[hM,show(⟨#[64]⟩:ByteArray)=txt [64] from rfl,txt_cat]
     rfl
    clear hC hM hx16 hxn hlen
    go_upto_region 7 with(first|(refine wpList_load_mid rfl 25 _ rfl g0 (o+i*18) rfl C.toList _ HMC.out Tryz.underlying25 rfl (by rw[Array.length_toList,hCz];exact infoHo) ?_)|(refine wpList_store_row rfl 25 _ _ rfl wr.heap.size rfl #[.int .i64 0,.string ⟨#[]⟩,.int .u8 0,.int .u8 0,.int .u8 0,.int .u8 0,.int .u8 0,.int .u8 0,.int .u8 0,.int .u8 0,.int .u8 0,.int .u8 0,.int .u8 0,.int .u8 0,.int .u8 0,.int .u8 0,.int .u8 0,.int .u8 0] C rfl 25 HZ.out (by rw[hCz];exact infoHo) (by rw[hCz];rfl) hCo rfl ?_))
    have HL2:Hid (Lies ((wr.alloc (.cells #[.int .i64 0,.string ⟨#[]⟩,.int .u8 0,.int .u8 0,.int .u8 0,.int .u8 0,.int .u8 0,.int .u8 0,.int .u8 0,.int .u8 0,.int .u8 0,.int .u8 0,.int .u8 0,.int .u8 0,.int .u8 0,.int .u8 0,.int .u8 0,.int .u8 0] 25)).setRow wr.heap.size C) w.heap.size (strsV ((r.take i).map atN++List.replicate (n - ((r.take i).map atN).length) [])) 9):=HL.out.below HK.out HL.out.lt
    have HB2:Hid (Below w.heap.size w ((wr.alloc (.cells #[.int .i64 0,.string ⟨#[]⟩,.int .u8 0,.int .u8 0,.int .u8 0,.int .u8 0,.int .u8 0,.int .u8 0,.int .u8 0,.int .u8 0,.int .u8 0,.int .u8 0,.int .u8 0,.int .u8 0,.int .u8 0,.int .u8 0,.int .u8 0,.int .u8 0] 25)).setRow wr.heap.size C)):=HB.out.trans (HK.out.mono HB.out.size)
    have c1:((wr.alloc (.cells #[.int .i64 0,.string ⟨#[]⟩,.int .u8 0,.int .u8 0,.int .u8 0,.int .u8 0,.int .u8 0,.int .u8 0,.int .u8 0,.int .u8 0,.int .u8 0,.int .u8 0,.int .u8 0,.int .u8 0,.int .u8 0,.int .u8 0,.int .u8 0,.int .u8 0] 25)).setRow wr.heap.size C).cell? ⟨wr.heap.size,1,none⟩=some (.string M):=(HV.out.cell 1).trans HC1.out
    have ci:((wr.alloc (.cells #[.int .i64 0,.string ⟨#[]⟩,.int .u8 0,.int .u8 0,.int .u8 0,.int .u8 0,.int .u8 0,.int .u8 0,.int .u8 0,.int .u8 0,.int .u8 0,.int .u8 0,.int .u8 0,.int .u8 0,.int .u8 0,.int .u8 0,.int .u8 0,.int .u8 0] 25)).setRow wr.heap.size C).cell? ⟨w.heap.size,i,none⟩=some (.string vi):=(HK.out.cell (p:=⟨w.heap.size,i,none⟩) hwr).trans hvi
    have fi:((wr.alloc (.cells #[.int .i64 0,.string ⟨#[]⟩,.int .u8 0,.int .u8 0,.int .u8 0,.int .u8 0,.int .u8 0,.int .u8 0,.int .u8 0,.int .u8 0,.int .u8 0,.int .u8 0,.int .u8 0,.int .u8 0,.int .u8 0,.int .u8 0,.int .u8 0,.int .u8 0] 25)).setRow wr.heap.size C).frozen? ⟨w.heap.size,i,none⟩=false:=by
     have:=HL2.out.frozen i
     exact this
    clear HZ HV HK HL hvi hfi HMC
    generalize (wr.alloc (.cells #[.int .i64 0,.string ⟨#[]⟩,.int .u8 0,.int .u8 0,.int .u8 0,.int .u8 0,.int .u8 0,.int .u8 0,.int .u8 0,.int .u8 0,.int .u8 0,.int .u8 0,.int .u8 0,.int .u8 0,.int .u8 0,.int .u8 0,.int .u8 0,.int .u8 0] 25)).setRow wr.heap.size C=w3 at HL2 HB2 c1 ci fi ⊢
    have HL3:Hid (Lies (w3.setCell ⟨w.heap.size,i,none⟩ (.string (⟨#[64]⟩++M))) w.heap.size (strsV ((r.take (i+1)).map atN++List.replicate (n - ((r.take (i+1)).map atN).length) [])) 9):=by
     have:=strs_put HL2.out (by rw[HLN.out];exact hlt) (atN r[i])
     rw[HLN.out,HIM.out]at this
     rw[List.take_succ_eq_append_getElem hir,List.map_append]
     exact this
    have HB3:Hid (Below w.heap.size w (w3.setCell ⟨w.heap.size,i,none⟩ (.string (⟨#[64]⟩++M)))):=HB2.out.setCell (p:=⟨w.heap.size,i,none⟩) (Nat.le_refl _) _
    clear HL2 HB2
    go_wp2_with fail
    go_roundw
    case rel=>exact⟨i+1,hlt,by go_num,HL3,HB3⟩
    case measure=>simp[intOf];omega
   ·have hlt':¬(i:Int)<(n:Int):=by omega
    have hin:i=r.length:=by rw[←HNN.out];omega
    have HL2:Hid (Lies wr w.heap.size (strsV (r.map atN)) 9):=by
     have:=HL.out
     rw[hin,List.take_length,List.length_map,←HNN.out,Nat.sub_self]at this
     show Lies _ _ _ _
     simpa using this
    have hjl:(joinL [44] (r.map atN)).length≤1002*r.length:=by
     have:=join_len 1001 (r.map atN) (fun x hx=>by
      rw[List.mem_map]at hx
      obtain⟨y,hy,rfl⟩:=hx
      have:=(HOK.out y hy).2
      simp only[atN,List.length_cons]
      omega)
     rw[List.length_map]at this
     exact this
    have hjn:(joinL [44] (r.map atN)).length≤1002000:=by
     have h1:r.length≤1000:=by rw[←HNN.out];exact h16
     have h2:1002*r.length≤1002*1000:=Nat.mul_le_mul_left _ h1
     omega
    have HJ:Hid (Calls Tryz.prog 109 #[.slice (some ⟨w.heap.size,0,none⟩) n n,.string ⟨#[44]⟩] wr fun e w'=>e=.returned (.string (txt (joinL [44] (r.map atN))))∧Below wr.heap.size wr w'):=by
     have:=join_some HL2.out 0 n n ⟨#[44]⟩ (by rw[List.length_map,←HNN.out];omega) (Nat.le_refl _) (by
      rw[List.drop_zero,List.take_of_length_le (by rw[List.length_map,←HNN.out];exact Nat.le_refl _)]
      exact Nat.le_trans hjn (by omega)) (by rw[List.length_map,←HNN.out];omega)
     rw[List.drop_zero,List.take_of_length_le (by rw[List.length_map,←HNN.out];exact Nat.le_refl _)]at this
     exact this
    obtain⟨J,hJ⟩:∃J,J=txt (joinL [44] (r.map atN)):=⟨_,rfl⟩
    have hJz:J.size≤1002000:=by rw[hJ,txt_size];exact hjn
    have HR:Hid (txt (nmsR r)=J++⟨#[58]⟩):=by
     show _=_
     rw[HN0.out,hJ,show(⟨#[58]⟩:ByteArray)=txt [58] from rfl,txt_cat]
    rw[←hJ]at HJ
    clear hJ hjl hjn hin HL HL2 HN0
    go_wp2_with fail
    refine HJ.out.mono ?_
    rintro e w2 ⟨rfl,hb2⟩
    go_wp2_with fail
    go_ret
    exact⟨by rw[HR.out];rfl,HB.out.trans (hb2.mono HB.out.size)⟩
open Go.RowKit
theorem Td.drew {w:World} (h:Td w):Td w.drew:=h.below (Below.refl _ w).drew
theorem wrL_len (l:List UInt8):(wrL l).length≤2*l.length+2:=by
 unfold wrL
 split
 ·omega
 ·have:=escL_two l
  simp only[List.length_cons,List.length_append,List.length_nil]
  omega
theorem nms_len (r:List Ho) (h16:r.length≤1000) (hn:∀x∈r,x.n.length≤1000):(nmsR r).length≤1002001:=by
 unfold nmsR
 split
 ·simp
 ·have:=join_len 1001 (r.map atN) (fun x hx=>by
   rw[List.mem_map]at hx
   obtain⟨y,hy,rfl⟩:=hx
   have:=hn y hy
   simp only[atN,List.length_cons]
   omega)
  rw[List.length_map]at this
  have h2:1002*r.length≤1002*1000:=Nat.mul_le_mul_left _ h16
  rw[List.length_append,List.length_singleton]
  omega
set_option maxHeartbeats 8000000 in
set_option maxRecDepth 100000 in
theorem written_any (k:Int) (sp:Option Addr) (c:Nat) (r:List Ho) (l:List UInt8) (h:Ho) (w:World) (hr:RtM w sp r) (h16:r.length≤1000) (okr:∀x∈r,x.a.length=16∧x.n.length≤1000∧wrH x=x.n) (ok:h.Ok) (hn:h.n.length≤140737488355328) (hl:l.length≤140737488355328) (hw:(wrH h).length≤140737488355328) (hT:Td w) (hrep:RepOk (txt l) w):
  Calls Tryz.prog 49 #[.agg (pthC k (.slice sp r.length c) l h)] w fun e w'=>e=.returned (.string (txt (wrP ⟨k,r,l,h⟩)))∧Below w.heap.size w w':=by
 have hPz:=pthC_size k (.slice sp r.length c) l h ok.len
 have hBz:=boxC_size l h ok.len
 obtain⟨B,hB⟩:∃B,B=boxC l h:=⟨_,rfl⟩
 obtain⟨P,hP⟩:∃P,P=pthC k (.slice sp r.length c) l h:=⟨_,rfl⟩
 rw[←hP]at hPz ⊢
 rw[←hB]at hBz
 have p0:Hid (P[0]?=some (.int .i64 k)):=by show _=_;rw[hP];unfold pthC;rw[Array.getElem?_append_left (by simp)];rfl
 have p1:Hid (P[1]?=some (.slice sp r.length c)):=by show _=_;rw[hP];unfold pthC;rw[Array.getElem?_append_left (by simp)];rfl
 have p2:Hid (∀j v,B.toList[j]?=some v→P[2+j]?=some v):=fun j v hv=>by
  have e:P=#[.int .i64 k,.slice sp r.length c]++B:=by
   rw[hP,hB]
   unfold pthC boxC
   rw[←Array.append_assoc]
   rfl
  rw[e,Array.getElem?_append_right (by simp)]
  simp only[List.size_toArray,List.length_cons,List.length_nil]
  rw[show 2+j - (0+1+1)=j from by omega]
  simpa using hv
 have eB:B.toList.toArray=B:=by simp
 have L1:Hid (Lies (w.alloc (.cells P 29)) w.heap.size P 29):=Lies.new w _ _
 have KB:Hid (Below w.heap.size w (w.alloc (.cells P 29))):=(Below.refl _ _).alloc (Nat.le_refl _) _
 have HRR:Hid (∀wx,Below w.heap.size w wx→Calls Tryz.prog 78 #[.slice sp r.length c] wx fun e w'=>e=.returned (.string (txt (nmsR r)))∧Below wx.heap.size wx w'):=fun wx hx=>wroute_any sp c r wx (hr.below hx) h16 (fun x hxr=>⟨(okr x hxr).1,(okr x hxr).2.1⟩)
 have HBB:Hid (∀wx,Below w.heap.size w wx→Calls Tryz.prog 50 #[.agg B] wx fun e w'=>e=.returned (.string (txt (wrB l h)))∧Below wx.heap.size wx w'):=fun wx hx=>by
  rw[hB]
  exact wbox_any l h ok hn hl hw wx (hT.below hx) (hrep.later hx)
 have hz1:=nms_len r h16 (fun x hx=>(okr x hx).2.1)
 have hnw:=nms_wr r (fun x hx=>(okr x hx).2.2)
 have hz2:(wrB l h).length≤422212465065987:=by
  unfold wrB
  have:=wrL_len l
  rw[List.length_append,List.length_cons]
  omega
 obtain⟨T1,hT1⟩:∃T1,T1=txt (nmsR r):=⟨_,rfl⟩
 obtain⟨T2,hT2⟩:∃T2,T2=txt (wrB l h):=⟨_,rfl⟩
 have z1:T1.size≤1002001:=by rw[hT1,txt_size];exact hz1
 have z2:T2.size≤422212465065987:=by rw[hT2,txt_size];exact hz2
 have HTT:Hid (txt (60::(wrR r++wrB l h++[62]))=⟨#[60]⟩++T1++T2++⟨#[62]⟩):=by
  show _=_
  rw[hT1,hT2,hnw,show(⟨#[60]⟩:ByteArray)=txt [60] from rfl,show(⟨#[62]⟩:ByteArray)=txt [62] from rfl,txt_cat,txt_cat,txt_cat]
  rfl
 rw[←hT1]at HRR
 rw[←hT2]at HBB
 clear hP hB hr okr hT hrep hT1 hT2 hz1 hz2 hnw
 obtain⟨X,hX⟩:∃X,X=wrP ⟨k,r,l,h⟩:=⟨_,rfl⟩
 rw[←hX]
 have HX:Hid (X=wrP ⟨k,r,l,h⟩):=hX
 clear hX
 go_enter Tryz.func49,Tryz.ntmps49
 go_upto_region 1 with fail
 generalize w.alloc (.cells P 29)=v0 at L1 KB ⊢
 have c0:v0.cell? ⟨w.heap.size,0,none⟩=some (.int .i64 k):=(L1.out.cell 0).trans p0.out
 by_cases k1:k=1
 ·have k1b:(k==1)=true:=by rw[k1];rfl
  have HV:Hid (X=[60,62]):=by show _=_;rw[HX.out];unfold wrP;rw[if_pos k1]
  clear k1 HX HRR HBB p0 p1 p2 HTT
  go_wp2_with fail
  go_ret
  exact⟨by rw[HV.out];rfl,KB.out⟩
 have k1b:(k==1)=false:=by rw[beq_eq_false_iff_ne];exact k1
 by_cases k2:k=2
 ·have k2b:(k==2)=true:=by rw[k2];rfl
  have HV:Hid (X=60::(pmL++[62])):=by show _=_;rw[HX.out];unfold wrP;rw[if_neg k1,if_pos k2]
  clear k1 k2 HX HRR HBB p0 p1 p2 HTT
  go_wp2_with fail
  go_ret
  exact⟨by rw[HV.out];rfl,KB.out⟩
 have k2b:(k==2)=false:=by rw[beq_eq_false_iff_ne];exact k2
 have HV:Hid (txt X=⟨#[60]⟩++T1++T2++⟨#[62]⟩):=by show _=_;rw[HX.out,←HTT.out];unfold wrP;rw[if_neg k1,if_neg k2]
 have HWR:Hid (∀wx,Below v0.heap.size v0 wx→Calls Tryz.prog 78 #[.slice sp r.length c] wx fun e w'=>e=.returned (.string T1)∧Below wx.heap.size wx w'):=fun wx hx=>HRR.out wx (KB.out.trans (hx.mono KB.out.size))
 have HWB:Hid (∀wx,Below v0.heap.size v0 wx→Calls Tryz.prog 50 #[.agg B] wx fun e w'=>e=.returned (.string T2)∧Below wx.heap.size wx w'):=fun wx hx=>HBB.out wx (KB.out.trans (hx.mono KB.out.size))
 have ad1:∀W,(Op.stringOp .add ⟨#[60]⟩ T1).run Tryz.prog W=.ok (.string (⟨#[60]⟩++T1)) W:=fun W=>run_string_add_sum _ _ _ (by show 1+T1.size≤_;omega)
 have ad2:∀W,(Op.stringOp .add (⟨#[60]⟩++T1) T2).run Tryz.prog W=.ok (.string (⟨#[60]⟩++T1++T2)) W:=fun W=>run_string_add_sum _ _ _ (by rw[ByteArray.size_append];show 1+T1.size+T2.size≤_;omega)
 have ad3:∀W,(Op.stringOp .add (⟨#[60]⟩++T1++T2) ⟨#[62]⟩).run Tryz.prog W=.ok (.string (⟨#[60]⟩++T1++T2++⟨#[62]⟩)) W:=fun W=>run_string_add_sum _ _ _ (by rw[ByteArray.size_append,ByteArray.size_append];show 1+T1.size+T2.size+1≤_;omega)
 clear k1 k2 HX HTT HRR HBB
 go_upto_region 6 with fail
 refine wp_region_late (fun wx=>Below v0.heap.size v0 wx) 10 (by kernel_rfl) (Below.refl _ v0).drew (fun hHeld=>?_)
 refine tk9 0 (some 9) (.pointer (some ⟨w.heap.size,1,none⟩)) ?_
 simp only[Act.put,pA,pB,pC]
 refine tk9 1 (some 10) (.slice sp r.length c) ?_ (hy:=?hy)
 case hy=>(intro w' hSw;have hq1:=((L1.out.below hSw L1.out.lt).cell 1).trans p1.out;go_simp<;>(first|with_reducible rfl|omega|skip))
 simp only[Act.put,pA,pB,pC]
 refine tk9 4 (some 13) (.pointer (some ⟨w.heap.size,2,none⟩)) ?_
 simp only[Act.put,pA,pB,pC]
 refine tk9 5 (some 14) (.agg B) ?_ (hy:=?hy)
 case hy=>(intro w' hSw;have:=fun op a ho hx=>exec_mid9 (P:=Tryz.prog) (op:=op) (a:=a) 27 (.tmp 13) ho w.heap.size 2 hx B.toList _ (fun j v hv=>((L1.out.below hSw L1.out.lt).cell (2+j)).trans (p2.out j v hv)) Tryz.underlying27 rfl (by rw[Array.length_toList,hBz];exact infoBx);rw[eB]at this;exact this _ _ rfl rfl)
 simp only[Act.put,pA,pB,pC]
 refine on9 2 ?_
 refine oper_call (some 11) 78 #[.slice sp r.length c] (fun v w'=>v=.string T1∧Below v0.heap.size v0 w') rfl (by go_simp) ((HWR.out _ (Below.refl _ v0).drew).mono (fun e w' q=>⟨_,q.1,rfl,(Below.refl _ v0).drew.trans q.2⟩)) ?_
 rintro v y1 ⟨rfl,hy1⟩
 refine⟨Or.inr hy1,?_⟩
 simp only[Act.put,pA,pB,pC]
 refine tk9 3 (some 12) (.string (⟨#[60]⟩++T1)) ?_
 simp only[Act.put,pA,pB,pC]
 refine on9 6 ?_
 refine oper_call (some 15) 50 #[.agg B] (fun v w'=>v=.string T2∧Below v0.heap.size v0 w') rfl (by go_simp) ((HWB.out _ hy1).mono (fun e w' q=>⟨_,q.1,rfl,hy1.trans (q.2.mono hy1.size)⟩)) ?_
 rintro v y2 ⟨rfl,hy2⟩
 refine⟨Or.inr hy2,?_⟩
 simp only[Act.put,pA,pB,pC]
 refine tk9 7 (some 16) (.string (⟨#[60]⟩++T1++T2)) ?_
 simp only[Act.put,pA,pB,pC]
 refine tk9 8 (some 17) (.string (⟨#[60]⟩++T1++T2++⟨#[62]⟩)) ?_
 simp only[Act.put,pA,pB,pC]
 refine tk9 9 (some 2) (.string (⟨#[60]⟩++T1++T2++⟨#[62]⟩)) ?_
 simp only[Act.put,pA,pB,pC]
 refine wpAnyE_done (by kernel_rfl) ?_ _
 clear hHeld
 go_wp2_with fail
 go_ret
 exact⟨by rw[HV.out];rfl,KB.out.trans (hy2.mono KB.out.size)⟩
end Go.Proofs.YtfjpkfhbmldmfaaGreatDoor
