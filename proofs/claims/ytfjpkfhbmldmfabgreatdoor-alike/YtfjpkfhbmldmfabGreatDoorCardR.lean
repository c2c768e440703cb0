/-
  The statements' own made.
-/
import Derived.Test.YtfjpkfhbmldmfabGreatDoorYh9
import Derived.Test.YtfjpkfhbmldmfabGreatDoorYc9
import Derived.Test.YtfjpkfhbmldmfabGreatDoorYe9
import Derived.Deep.Strs
namespace Go.Proofs.YtfjpkfhbmldmfabGreatDoor
open Go.RowKit
def Sts (w:World) (sp:Option Addr) (l:List ByteArray):Prop:=l=[]∨∃g o,sp=some ⟨g,o,none⟩∧g<w.heap.size∧∀j (hj:j<l.length),w.cell? ⟨g,o+j,none⟩=some (.string l[j])
theorem Sts.below {w w':World} {sp:Option Addr} {l:List ByteArray} (h:Sts w sp l) (hb:Below w.heap.size w w'):Sts w' sp l:=by
 rcases h with h|⟨g,o,h1,h2,h3⟩
 ·exact .inl h
 ·exact .inr ⟨g,o,h1,Nat.lt_of_lt_of_le h2 hb.size,fun j hj=>(hb.cell (p:=⟨g,o+j,none⟩) h2).trans (h3 j hj)⟩
theorem infoRaw:(Tryz.prog.info? 45).map (·.size)=some 20:=by kernel_rfl
theorem oper_append_host {o:Oper} {a:Act} {w:World} {K:Act→World→Prop} {Q:Exit→Act→World→Prop} (s x:Operand)
  (ho:o.op=.call {callee:=.builtin .append,args:=#[s,x],argTypes:=#[25,25]}) (base:Nat) (v:Value) (n:Nat) (xs:List Value) (hs:a.eval s=v) (hown:w.ownsRow base 28 18 v n xs)
  (g c:Nat) (V:Array Value) (hVz:V.size=18) (hVo:V.all (·.oneCell')=true) (hx:a.eval x=.slice (some ⟨g,0,none⟩) 1 c) (hb:Lies w g V 28) (hn:n≤1000000) (hbase:base≤w.heap.size)
  (h:∀v' w',w'.ownsRow base 28 18 v' (n+1) (xs++V.toList)→w.grownBy w' v.ownBlock→K (a.put o.dst v') w'):o.wp Tryz.prog a w K Q:=by
 have h5:=infoHo3
 cases hq:Tryz.prog.info? 28 with
 |none=>rw[hq]at h5;cases h5
 |some i=>
  rw[hq]at h5
  have h6:(i.zero,i.size,i.bytes)=(some (.agg #[.int .i64 0,.string ⟨#[]⟩,.int .u8 0,.int .u8 0,.int .u8 0,.int .u8 0,.int .u8 0,.int .u8 0,.int .u8 0,.int .u8 0,.int .u8 0,.int .u8 0,.int .u8 0,.int .u8 0,.int .u8 0,.int .u8 0,.int .u8 0,.int .u8 0]),18,40):=by simpa using h5
  injection h6 with z0 h7
  injection h7 with z1 z2
  refine wp_append_own _ s x 25 ho base 28 i (.agg #[.int .i64 0,.string ⟨#[]⟩,.int .u8 0,.int .u8 0,.int .u8 0,.int .u8 0,.int .u8 0,.int .u8 0,.int .u8 0,.int .u8 0,.int .u8 0,.int .u8 0,.int .u8 0,.int .u8 0,.int .u8 0,.int .u8 0,.int .u8 0,.int .u8 0]) 18 40 Tryz.underlying25 hq z0 z1 z2 rfl (by decide) v n _ hs hown ⟨g,0,none⟩ 1 c V.toList hx (by rw[Array.length_toList,hVz]) (fun j u hu=>?_) (fun u hu=>?_) (by unfold maxLen;omega) (by omega) hbase ?_
  ·rw[Addr.add_lit,Nat.zero_add,hb.cell j]
   rw[Array.getElem?_toList]at hu
   exact hu
  ·rw[Array.all_eq_true_iff_forall_mem]at hVo
   exact hVo u (Array.mem_toList_iff.1 hu)
  ·intro v' w' hown' hgrow _
   exact h v' w' hown' hgrow
def rtH (rt:List ByteArray) (i:Nat):List Ho:=(rt.take i).map fun t=>⟨1,ltrs t.data.toList 9,z16⟩
theorem rtH_len {rt:List ByteArray} {i:Nat} (h:i≤rt.length):(rtH rt i).length=i:=by
 unfold rtH
 rw[List.length_map,List.length_take]
 omega
theorem rtH_snoc {rt:List ByteArray} {i:Nat} (h:i<rt.length):rtH rt (i+1)=rtH rt i++[⟨1,ltrs rt[i].data.toList 9,z16⟩]:=by
 unfold rtH
 rw[List.take_add_one,List.getElem?_eq_getElem h,List.map_append]
 rfl
theorem pthC_set1 (k:Int) (sl v:Value) (l:List UInt8) (h:Ho):(pthC k sl l h).setIfInBounds 1 v=pthC k v l h:=by
 unfold pthC hostC
 simp
theorem pthC_at1 (k:Int) (sl:Value) (l:List UInt8) (h:Ho):(pthC k sl l h)[1]?=some sl:=by
 unfold pthC
 rw[Array.getElem?_append_left (by simp)]
 rfl
theorem But.thenUnder {g:Nat} {a b c:World} (h:But g a b) (hb:Below a.heap.size b c):But g a c:=
 ⟨hb.os.trans h.os,hb.tape.trans h.tape,hb.output.trans h.output,Nat.le_trans h.size hb.size,fun j hj hn=>(hb.block j hj).trans (h.block j hj hn)⟩
theorem But.under {g B:Nat} {a b:World} (h:But g a b) (hB:B≤g) (hs:B≤a.heap.size):Below B a b:=
 ⟨h.os,h.tape,h.output,h.size,fun j hj=>h.block j (by omega) (by omega)⟩
set_option maxHeartbeats 8000000 in
set_option maxRecDepth 100000 in
theorem build_pt (U:Array Value) (hU:U.size=19):Array.foldl (fun (cs:Array Value) (x:Value×Nat)=>cs.setIfInBounds (2+x.snd) x.fst) #[.int .i64 3,.slice none 0 0,.string ⟨#[]⟩,.int .i64 0,.string ⟨#[]⟩,.int .u8 0,.int .u8 0,.int .u8 0,.int .u8 0,.int .u8 0,.int .u8 0,.int .u8 0,.int .u8 0,.int .u8 0,.int .u8 0,.int .u8 0,.int .u8 0,.int .u8 0,.int .u8 0,.int .u8 0,.int .u8 0] U.zipIdx 0 19=#[.int .i64 3,.slice none 0 0]++U:=by
 obtain⟨q⟩:=U
 match q,hU with
 |[a0,a1,a2,a3,a4,a5,a6,a7,a8,a9,a10,a11,a12,a13,a14,a15,a16,a17,a18],_=>first|kernel_rfl|(simp)
set_option maxHeartbeats 16000000 in
set_option maxRecDepth 100000 in
theorem made_any (lc hs:List UInt8) (a:List Nat) (k:Int) (sp:Option Addr) (rt:List ByteArray) (cap:Nat) (ha:a.length=16) (hlc:lc.length≤140737488355328) (hhs:hs.length≤140737488355328) (w:World) (hst:Sts w sp rt) (_hrl:rt.length≤maxLen) (hrz:∀t∈rt,t.size≤140737488355328):
  Calls Tryz.prog 13 #[.agg (rawC lc hs a k (.slice sp rt.length cap))] w fun e w'=>∃V,e=.returned (.agg V)∧PA (madeP (Int.tmod k 4) a hs lc (rt.map (·.data.toList))) V w'∧Below w.heap.size w w':=by
 obtain⟨r0,_,_,r19,_⟩:=rawC_at lc hs a k (.slice sp rt.length cap) ha
 have hok:(hostM (Int.tmod k 4) a hs lc).a.length=16:=by
  unfold hostM
  split
  ·simp[ha]
  ·split
   ·exact ha
   ·split<;>rfl
 obtain⟨hx,hhx⟩:∃hx,hx=hostM (Int.tmod k 4) a hs lc:=⟨_,rfl⟩
 rw[←hhx]at hok
 have HHO:Hid (∀wx,Calls Tryz.prog 26 #[.agg (rawC lc hs a k (.slice sp rt.length cap))] wx fun e w'=>e=.returned (.agg (hostC hx))∧Below wx.heap.size wx w'):=fun wx=>by
  have:=hostl_all lc hs a k (.slice sp rt.length cap) ha hlc hhs wx
  rw[←hhx]at this
  exact this
 have hPz:Hid ((rawC lc hs a k (.slice sp rt.length cap)).size=20):=by
  show _=_
  unfold rawC
  have hz:(bytesV a).size=16:=by rw[bytesV_size,ha]
  simp only[Array.size_append,hz]
  rfl
 have HMP:Hid (∀i,i≤rt.length→(i=10∨(i<10∧i=rt.length))→madeP (Int.tmod k 4) a hs lc (rt.map (·.data.toList))=⟨3,rtH rt i,shwn lc 31,hx⟩):=fun i h1 h2=>by
  unfold madeP rtH
  rw[←hhx,←List.map_take,List.map_map]
  have e:rt.take 10=rt.take i:=by
   rcases h2 with rfl|⟨h2,rfl⟩
   ·rfl
   ·rw[List.take_of_length_le (by omega),List.take_length]
  rw[e]
  rfl
 obtain⟨Lc,hLc⟩:∃Lc,Lc=txt lc:=⟨_,rfl⟩
 rw[←hLc]at r0
 have HSH:Hid (∀wx,Calls Tryz.prog 25 #[.string Lc,.int .i64 31] wx fun e w'=>e=.returned (.string (txt (shwn lc 31)))∧Below wx.heap.size wx w'):=fun wx=>by
  have:=shownl_any Lc (by rw[hLc,txt_size];exact hlc) 31 (by omega) wx
  rw[hLc,txt_list]at this
  rw[hLc]
  exact this
 generalize madeP (Int.tmod k 4) a hs lc (rt.map (·.data.toList))=MP at HMP ⊢
 generalize rawC lc hs a k (.slice sp rt.length cap)=P at r0 r19 HHO hPz ⊢
 have p0:Hid (P[0]?=some (.string Lc)):=r0
 have p19:Hid (P[19]?=some (.slice sp rt.length cap)):=r19
 generalize shwn lc 31=T1l at HSH HMP
 obtain⟨T1,hT1⟩:∃T1,T1=txt T1l:=⟨_,rfl⟩
 rw[←hT1]at HSH
 obtain⟨HC,hHC⟩:∃HC,HC=hostC hx:=⟨_,rfl⟩
 have HCZ:Hid (HC.size=18):=by show _=_;rw[hHC];exact hostC_size _ hok
 rw[←hHC]at HHO
 have hCz:HC.size=18:=HCZ.out
 obtain⟨BC,hBC⟩:∃BC,BC=#[.string T1]++HC:=⟨_,rfl⟩
 have hBz:BC.size=19:=by rw[hBC,Array.size_append,hCz];rfl
 have hbb:=build_box T1 HC hCz
 have hbp:=build_pt BC hBz
 rw[←hBC]at hbb
 obtain⟨PC,hPC⟩:∃PC,PC=pthC 3 (.slice none 0 0) T1l hx:=⟨_,rfl⟩
 have HPZ:Hid (PC.size=21):=by show _=_;rw[hPC];exact pthC_size _ _ _ _ hok
 have HPO:Hid (PC.all (·.oneCell')=true):=by show _=_;rw[hPC];exact pthC_one9 _ _ _ _ rfl
 have HPC:Hid (PC=pthC 3 (.slice none 0 0) T1l hx):=hPC
 have hPB:#[.int .i64 3,.slice none 0 0]++BC=PC:=by rw[hPC,pth_box,hBC,hHC,hT1];rfl
 rw[hPB]at hbp
 have L1:Hid (Lies ((w.alloc (.cells P 45)).alloc (.cells #[.int .i64 0,.slice none 0 0,.string ⟨#[]⟩,.int .i64 0,.string ⟨#[]⟩,.int .u8 0,.int .u8 0,.int .u8 0,.int .u8 0,.int .u8 0,.int .u8 0,.int .u8 0,.int .u8 0,.int .u8 0,.int .u8 0,.int .u8 0,.int .u8 0,.int .u8 0,.int .u8 0,.int .u8 0,.int .u8 0] 32)) w.heap.size P 45):=(Lies.new w _ _).alloc _
 have L2:Hid (Lies ((w.alloc (.cells P 45)).alloc (.cells #[.int .i64 0,.slice none 0 0,.string ⟨#[]⟩,.int .i64 0,.string ⟨#[]⟩,.int .u8 0,.int .u8 0,.int .u8 0,.int .u8 0,.int .u8 0,.int .u8 0,.int .u8 0,.int .u8 0,.int .u8 0,.int .u8 0,.int .u8 0,.int .u8 0,.int .u8 0,.int .u8 0,.int .u8 0,.int .u8 0] 32)) (w.heap.size+1) #[.int .i64 0,.slice none 0 0,.string ⟨#[]⟩,.int .i64 0,.string ⟨#[]⟩,.int .u8 0,.int .u8 0,.int .u8 0,.int .u8 0,.int .u8 0,.int .u8 0,.int .u8 0,.int .u8 0,.int .u8 0,.int .u8 0,.int .u8 0,.int .u8 0,.int .u8 0,.int .u8 0,.int .u8 0,.int .u8 0] 32):=new_one w _ _ _
 have KB:Hid (Below w.heap.size w ((w.alloc (.cells P 45)).alloc (.cells #[.int .i64 0,.slice none 0 0,.string ⟨#[]⟩,.int .i64 0,.string ⟨#[]⟩,.int .u8 0,.int .u8 0,.int .u8 0,.int .u8 0,.int .u8 0,.int .u8 0,.int .u8 0,.int .u8 0,.int .u8 0,.int .u8 0,.int .u8 0,.int .u8 0,.int .u8 0,.int .u8 0,.int .u8 0,.int .u8 0] 32))):=((Below.refl _ _).alloc (Nat.le_refl _) _).alloc (by simp) _
 have HST:Hid (Sts w sp rt):=hst
 have HSt:Hid (Sts w sp rt):=hst
 have HRZ:Hid (∀t∈rt,t.size≤140737488355328):=hrz
 clear r0 r19 hLc hhx hst hHC hT1 hBC hPC hrz HCZ hPB
 go_enter Tryz.func13,Tryz.ntmps13
 go_upto_region 1 with fail
 generalize (w.alloc (.cells P 45)).alloc (.cells #[.int .i64 0,.slice none 0 0,.string ⟨#[]⟩,.int .i64 0,.string ⟨#[]⟩,.int .u8 0,.int .u8 0,.int .u8 0,.int .u8 0,.int .u8 0,.int .u8 0,.int .u8 0,.int .u8 0,.int .u8 0,.int .u8 0,.int .u8 0,.int .u8 0,.int .u8 0,.int .u8 0,.int .u8 0,.int .u8 0] 32)=v0 at L1 L2 KB ⊢
 have hv0:w.heap.size+1<v0.heap.size:=L2.out.lt
 go_cut [3] (fun c wx=>∃g,c=.pointer (some ⟨g,0,none⟩)∧v0.heap.size≤g∧Hid (Lies wx g PC 32)∧Hid (Below v0.heap.size v0 wx))
 case first=>
  refine wp_region_late (fun wx=>Below v0.heap.size v0 wx) 9 (by kernel_rfl) (Below.refl _ v0).drew (fun hHeld=>?_)
  have k0:Below v0.heap.size v0 v0.drew:=(Below.refl _ v0).drew
  have q0:v0.heap.size≤v0.drew.heap.size:=Nat.le_refl _
  generalize v0.drew=W0 at hHeld k0 q0 ⊢
  refine tk9 0 (some 5) (.pointer (some ⟨w.heap.size,0,none⟩)) ?_
  simp only[Act.put,pA,pB,pC]
  refine tk9 1 (some 6) (.string Lc) ?_ (hy:=?hy)
  case hy=>(intro w' hSw;have hq1:=((L1.out.below hSw L1.out.lt).cell 0).trans p0.out;go_simp<;>(first|with_reducible rfl|omega|skip))
  simp only[Act.put,pA,pB,pC]
  refine tk9 3 (some 8) (.agg P) ?_ (hy:=?hy)
  case hy=>(intro w' hSw;refine exec_load_row 45 _ rfl w.heap.size rfl P 45 _ (L1.out.below hSw L1.out.lt) Tryz.underlying45 rfl (by rw[hPz.out];exact infoRaw))
  simp only[Act.put,pA,pB,pC]
  refine wpAnyE_two 2 7 (by kernel_rfl) rfl rfl rfl rfl ?_ ?_
  ·refine oper_call (some 7) 25 #[.string Lc,.int .i64 31] (fun v w'=>v=.string T1∧Below W0.heap.size W0 w') rfl (by go_simp) ((HSH.out _).mono (fun e w' q=>⟨_,q.1,rfl,q.2⟩)) ?_
   rintro v y1 ⟨rfl,hy1⟩
   have k1:=k0.trans (hy1.mono k0.size)
   refine⟨Or.inr k1,?_⟩
   simp only[Act.put,pA,pB,pC]
   have z1:=hy1.size
   refine wpAnyE_two 4 7 (by kernel_rfl) rfl rfl rfl rfl ?_ ?_
   ·refine oper_call (some 9) 26 #[.agg P] (fun v w'=>v=.agg HC∧Below y1.heap.size y1 w') rfl (by go_simp) ((HHO.out _).mono (fun e w' q=>⟨_,q.1,rfl,q.2⟩)) ?_
    rintro v y2 ⟨rfl,hy2⟩
    have k2:=k1.trans (hy2.mono k1.size)
    refine⟨Or.inr k2,?_⟩
    simp only[Act.put,pA,pB,pC]
    have z2:=hy2.size
    refine tk9 5 (some 10) (.agg BC) ?_
    simp only[Act.put,pA,pB,pC]
    refine tk9 6 (some 11) (.agg PC) ?_
    simp only[Act.put,pA,pB,pC]
    refine on9 7 ?_
    refine oper_valw (w':=y2.alloc (.cells #[.int .i64 0,.slice none 0 0,.string ⟨#[]⟩,.int .i64 0,.string ⟨#[]⟩,.int .u8 0,.int .u8 0,.int .u8 0,.int .u8 0,.int .u8 0,.int .u8 0,.int .u8 0,.int .u8 0,.int .u8 0,.int .u8 0,.int .u8 0,.int .u8 0,.int .u8 0,.int .u8 0,.int .u8 0,.int .u8 0] 32)) (some 3) (.pointer (some ⟨y2.heap.size,0,none⟩)) rfl (by go_simp) ?_
    have k3:=k2.alloc k2.size (.cells #[.int .i64 0,.slice none 0 0,.string ⟨#[]⟩,.int .i64 0,.string ⟨#[]⟩,.int .u8 0,.int .u8 0,.int .u8 0,.int .u8 0,.int .u8 0,.int .u8 0,.int .u8 0,.int .u8 0,.int .u8 0,.int .u8 0,.int .u8 0,.int .u8 0,.int .u8 0,.int .u8 0,.int .u8 0,.int .u8 0] 32)
    refine⟨Or.inr k3,?_⟩
    simp only[Act.put,pA,pB,pC]
    have ln3:=Lies.new y2 #[.int .i64 0,.slice none 0 0,.string ⟨#[]⟩,.int .i64 0,.string ⟨#[]⟩,.int .u8 0,.int .u8 0,.int .u8 0,.int .u8 0,.int .u8 0,.int .u8 0,.int .u8 0,.int .u8 0,.int .u8 0,.int .u8 0,.int .u8 0,.int .u8 0,.int .u8 0,.int .u8 0,.int .u8 0,.int .u8 0] 32
    have q3:=k2.size
    have ls3:=ln3.lt
    generalize y2.alloc (.cells #[.int .i64 0,.slice none 0 0,.string ⟨#[]⟩,.int .i64 0,.string ⟨#[]⟩,.int .u8 0,.int .u8 0,.int .u8 0,.int .u8 0,.int .u8 0,.int .u8 0,.int .u8 0,.int .u8 0,.int .u8 0,.int .u8 0,.int .u8 0,.int .u8 0,.int .u8 0,.int .u8 0,.int .u8 0,.int .u8 0] 32)=v3 at k3 ln3 ls3 ⊢
    refine on9 8 ?_
    refine oper_store_row 32 _ _ rfl (y2.heap.size) rfl #[.int .i64 0,.slice none 0 0,.string ⟨#[]⟩,.int .i64 0,.string ⟨#[]⟩,.int .u8 0,.int .u8 0,.int .u8 0,.int .u8 0,.int .u8 0,.int .u8 0,.int .u8 0,.int .u8 0,.int .u8 0,.int .u8 0,.int .u8 0,.int .u8 0,.int .u8 0,.int .u8 0,.int .u8 0,.int .u8 0] PC rfl 32 ln3 (by rw[HPZ.out];exact infoPt) (by rw[HPZ.out];rfl) HPO.out rfl ?_
    have hb8:=below_row k3 (show v0.heap.size≤y2.heap.size by omega) PC
    refine⟨Or.inr hb8,?_⟩
    refine wpAnyE_done (by kernel_rfl) ?_ _
    go_wp2_with fail
    go_meet
    exact⟨y2.heap.size,rfl,by omega,ln3.row PC,hb8⟩
   ·refine oper_valw (w':=y1.alloc (.cells #[.int .i64 0,.slice none 0 0,.string ⟨#[]⟩,.int .i64 0,.string ⟨#[]⟩,.int .u8 0,.int .u8 0,.int .u8 0,.int .u8 0,.int .u8 0,.int .u8 0,.int .u8 0,.int .u8 0,.int .u8 0,.int .u8 0,.int .u8 0,.int .u8 0,.int .u8 0,.int .u8 0,.int .u8 0,.int .u8 0] 32)) (some 3) (.pointer (some ⟨y1.heap.size,0,none⟩)) rfl (by go_simp) ?_
    have k4:=k1.alloc k1.size (.cells #[.int .i64 0,.slice none 0 0,.string ⟨#[]⟩,.int .i64 0,.string ⟨#[]⟩,.int .u8 0,.int .u8 0,.int .u8 0,.int .u8 0,.int .u8 0,.int .u8 0,.int .u8 0,.int .u8 0,.int .u8 0,.int .u8 0,.int .u8 0,.int .u8 0,.int .u8 0,.int .u8 0,.int .u8 0,.int .u8 0] 32)
    refine⟨Or.inr k4,?_⟩
    simp only[Act.put,pA,pB,pC]
    have ln4:=Lies.new y1 #[.int .i64 0,.slice none 0 0,.string ⟨#[]⟩,.int .i64 0,.string ⟨#[]⟩,.int .u8 0,.int .u8 0,.int .u8 0,.int .u8 0,.int .u8 0,.int .u8 0,.int .u8 0,.int .u8 0,.int .u8 0,.int .u8 0,.int .u8 0,.int .u8 0,.int .u8 0,.int .u8 0,.int .u8 0,.int .u8 0] 32
    have q4:=k1.size
    have ls4:=ln4.lt
    generalize y1.alloc (.cells #[.int .i64 0,.slice none 0 0,.string ⟨#[]⟩,.int .i64 0,.string ⟨#[]⟩,.int .u8 0,.int .u8 0,.int .u8 0,.int .u8 0,.int .u8 0,.int .u8 0,.int .u8 0,.int .u8 0,.int .u8 0,.int .u8 0,.int .u8 0,.int .u8 0,.int .u8 0,.int .u8 0,.int .u8 0,.int .u8 0] 32)=v4 at k4 ln4 ls4 ⊢
    refine on9 4 ?_
    refine oper_call (some 9) 26 #[.agg P] (fun v w'=>v=.agg HC∧Below v4.heap.size v4 w') rfl (by go_simp) ((HHO.out _).mono (fun e w' q=>⟨_,q.1,rfl,q.2⟩)) ?_
    rintro v y5 ⟨rfl,hy5⟩
    have k5:=k4.trans (hy5.mono k4.size)
    refine⟨Or.inr k5,?_⟩
    simp only[Act.put,pA,pB,pC]
    have z5:=hy5.size
    have l_5:=ln4.below hy5 ln4.lt
    refine tk9 5 (some 10) (.agg BC) ?_
    simp only[Act.put,pA,pB,pC]
    refine tk9 6 (some 11) (.agg PC) ?_
    simp only[Act.put,pA,pB,pC]
    refine on9 8 ?_
    refine oper_store_row 32 _ _ rfl (y1.heap.size) rfl #[.int .i64 0,.slice none 0 0,.string ⟨#[]⟩,.int .i64 0,.string ⟨#[]⟩,.int .u8 0,.int .u8 0,.int .u8 0,.int .u8 0,.int .u8 0,.int .u8 0,.int .u8 0,.int .u8 0,.int .u8 0,.int .u8 0,.int .u8 0,.int .u8 0,.int .u8 0,.int .u8 0,.int .u8 0,.int .u8 0] PC rfl 32 l_5 (by rw[HPZ.out];exact infoPt) (by rw[HPZ.out];rfl) HPO.out rfl ?_
    have hb8:=below_row k5 (show v0.heap.size≤y1.heap.size by omega) PC
    refine⟨Or.inr hb8,?_⟩
    refine wpAnyE_done (by kernel_rfl) ?_ _
    go_wp2_with fail
    go_meet
    exact⟨y1.heap.size,rfl,by omega,l_5.row PC,hb8⟩
  ·refine oper_valw (w':=W0.alloc (.cells #[.int .i64 0,.slice none 0 0,.string ⟨#[]⟩,.int .i64 0,.string ⟨#[]⟩,.int .u8 0,.int .u8 0,.int .u8 0,.int .u8 0,.int .u8 0,.int .u8 0,.int .u8 0,.int .u8 0,.int .u8 0,.int .u8 0,.int .u8 0,.int .u8 0,.int .u8 0,.int .u8 0,.int .u8 0,.int .u8 0] 32)) (some 3) (.pointer (some ⟨W0.heap.size,0,none⟩)) rfl (by go_simp) ?_
   have k6:=k0.alloc k0.size (.cells #[.int .i64 0,.slice none 0 0,.string ⟨#[]⟩,.int .i64 0,.string ⟨#[]⟩,.int .u8 0,.int .u8 0,.int .u8 0,.int .u8 0,.int .u8 0,.int .u8 0,.int .u8 0,.int .u8 0,.int .u8 0,.int .u8 0,.int .u8 0,.int .u8 0,.int .u8 0,.int .u8 0,.int .u8 0,.int .u8 0] 32)
   refine⟨Or.inr k6,?_⟩
   simp only[Act.put,pA,pB,pC]
   have ln6:=Lies.new W0 #[.int .i64 0,.slice none 0 0,.string ⟨#[]⟩,.int .i64 0,.string ⟨#[]⟩,.int .u8 0,.int .u8 0,.int .u8 0,.int .u8 0,.int .u8 0,.int .u8 0,.int .u8 0,.int .u8 0,.int .u8 0,.int .u8 0,.int .u8 0,.int .u8 0,.int .u8 0,.int .u8 0,.int .u8 0,.int .u8 0] 32
   have q6:=k0.size
   have ls6:=ln6.lt
   generalize W0.alloc (.cells #[.int .i64 0,.slice none 0 0,.string ⟨#[]⟩,.int .i64 0,.string ⟨#[]⟩,.int .u8 0,.int .u8 0,.int .u8 0,.int .u8 0,.int .u8 0,.int .u8 0,.int .u8 0,.int .u8 0,.int .u8 0,.int .u8 0,.int .u8 0,.int .u8 0,.int .u8 0,.int .u8 0,.int .u8 0,.int .u8 0] 32)=v6 at k6 ln6 ls6 ⊢
   refine on9 2 ?_
   refine oper_call (some 7) 25 #[.string Lc,.int .i64 31] (fun v w'=>v=.string T1∧Below v6.heap.size v6 w') rfl (by go_simp) ((HSH.out _).mono (fun e w' q=>⟨_,q.1,rfl,q.2⟩)) ?_
   rintro v y7 ⟨rfl,hy7⟩
   have k7:=k6.trans (hy7.mono k6.size)
   refine⟨Or.inr k7,?_⟩
   simp only[Act.put,pA,pB,pC]
   have z7:=hy7.size
   have l_7:=ln6.below hy7 ln6.lt
   refine on9 4 ?_
   refine oper_call (some 9) 26 #[.agg P] (fun v w'=>v=.agg HC∧Below y7.heap.size y7 w') rfl (by go_simp) ((HHO.out _).mono (fun e w' q=>⟨_,q.1,rfl,q.2⟩)) ?_
   rintro v y8 ⟨rfl,hy8⟩
   have k8:=k7.trans (hy8.mono k7.size)
   refine⟨Or.inr k8,?_⟩
   simp only[Act.put,pA,pB,pC]
   have z8:=hy8.size
   have l_8:=l_7.below hy8 l_7.lt
   refine tk9 5 (some 10) (.agg BC) ?_
   simp only[Act.put,pA,pB,pC]
   refine tk9 6 (some 11) (.agg PC) ?_
   simp only[Act.put,pA,pB,pC]
   refine on9 8 ?_
   refine oper_store_row 32 _ _ rfl (W0.heap.size) rfl #[.int .i64 0,.slice none 0 0,.string ⟨#[]⟩,.int .i64 0,.string ⟨#[]⟩,.int .u8 0,.int .u8 0,.int .u8 0,.int .u8 0,.int .u8 0,.int .u8 0,.int .u8 0,.int .u8 0,.int .u8 0,.int .u8 0,.int .u8 0,.int .u8 0,.int .u8 0,.int .u8 0,.int .u8 0,.int .u8 0] PC rfl 32 l_8 (by rw[HPZ.out];exact infoPt) (by rw[HPZ.out];rfl) HPO.out rfl ?_
   have hb8:=below_row k8 (show v0.heap.size≤W0.heap.size by omega) PC
   refine⟨Or.inr hb8,?_⟩
   refine wpAnyE_done (by kernel_rfl) ?_ _
   go_wp2_with fail
   go_meet
   exact⟨W0.heap.size,rfl,by omega,l_8.row PC,hb8⟩
 case rest=>
  obtain⟨g,rfl,hg,HLg,HBc⟩:=hcut
  have hgc:g<wc.heap.size:=HLg.out.lt
  have HL0:Hid (Lies wc g (pthC 3 (.slice none 0 0) T1l hx) 32):=by rw[←HPC.out];exact HLg.out
  have HR1:Hid (Lies wc w.heap.size P 45):=L1.out.below HBc.out L1.out.lt
  have HR2:Hid (Lies wc (w.heap.size+1) #[.int .i64 0,.slice none 0 0,.string ⟨#[]⟩,.int .i64 0,.string ⟨#[]⟩,.int .u8 0,.int .u8 0,.int .u8 0,.int .u8 0,.int .u8 0,.int .u8 0,.int .u8 0,.int .u8 0,.int .u8 0,.int .u8 0,.int .u8 0,.int .u8 0,.int .u8 0,.int .u8 0,.int .u8 0,.int .u8 0] 32):=L2.out.below HBc.out L2.out.lt
  have HWc:Hid (Below w.heap.size w wc):=KB.out.trans (HBc.out.mono KB.out.size)
  have HSc:Hid (Sts wc sp rt):=HST.out.below HWc.out
  have HOZ:Hid (wc.ownsRow wc.heap.size 28 18 (.slice none 0 0) 0 (cellsH (rtH rt 0))):=⟨rfl,.inl ⟨rfl,rfl⟩⟩
  clear HLg L1 L2 KB HST HHO HSH hbb hbp HPZ HPO hBz hCz p0 hPz HPC HBc
  go_wp2_with fail
  go_loopw [4] (fun c wr=>∃i:Nat,i≤10∧i≤rt.length∧∃sl,c=.int .i64 i∧Hid (wr.ownsRow wc.heap.size 28 18 sl i (cellsH (rtH rt i)))∧Hid (But g wc wr)∧Hid (Lies wr g (pthC 3 sl T1l hx) 32)) (fun c _=>10 - (intOf c).toNat)
  case atStart=>exact⟨0,by omega,Nat.zero_le _,_,by go_num,HOZ,But.refl _ _,HL0⟩
  case round=>
   obtain⟨i,hi10,hil,sl,rfl,HO,HB,HL⟩:=hrel
   obtain⟨sa,sc,rfl⟩:=ownH_len HO.out
   have hcr:wc.heap.size≤wr.heap.size:=HB.out.size
   have HRr:Hid (Lies wr w.heap.size P 45):=HB.out.lies HR1.out (by omega)
   have cr0:wr.cell? ⟨w.heap.size,19,none⟩=some (.slice sp rt.length cap):=(HRr.out.cell 19).trans p19.out
   have cg:wr.cell? ⟨g,1,none⟩=some (.slice sa i sc):=(HL.out.cell 1).trans (pthC_at1 _ _ _ _)
   by_cases hb:i<rt.length∧i<10
   ·obtain⟨hb1,hb2⟩:=hb
    have hb1':(i:Int)<(rt.length:Int):=by omega
    have hb2':(i:Int)<10:=by omega
    obtain⟨rg,ro,rfl,hrg,hre⟩:∃rg ro,sp=some ⟨rg,ro,none⟩∧rg<w.heap.size∧wr.cell? ⟨rg,ro+i,none⟩=some (.string rt[i]):=by
     rcases HSt.out with h|⟨q,o,h1,h2,h3⟩
     ·rw[h]at hb1
      exact absurd hb1 (Nat.not_lt_zero _)
     ·refine⟨q,o,h1,h2,?_⟩
      have hq:w.heap.size≤wc.heap.size:=HWc.out.size
      rw[HB.out.cell (p:=⟨q,o+i,none⟩) (show q≠g by omega) (show q<wc.heap.size by omega),HWc.out.cell (p:=⟨q,o+i,none⟩) h2]
      exact h3 i hb1
    have HL9:Hid (∀wx,Calls Tryz.prog 27 #[.string rt[i],.int .i64 9] wx fun e w'=>e=.returned (.string (txt (ltrs rt[i].data.toList 9)))∧Below wx.heap.size wx w'):=fun wx=>letters_any rt[i] (HRZ.out _ (List.getElem_mem hb1)) 9 (by omega) wx
    have HRS:Hid (rtH rt (i+1)=rtH rt i++[⟨1,ltrs rt[i].data.toList 9,z16⟩]):=rtH_snoc hb1
    obtain⟨NC,hNC⟩:∃NC,NC=hostC ⟨1,ltrs rt[i].data.toList 9,z16⟩:=⟨_,rfl⟩
    have hNz:NC.size=18:=by rw[hNC];rfl
    have HNO:Hid (NC.all (·.oneCell')=true):=by show _=_;rw[hNC];exact hostC_one _
    have HNL:Hid (NC.toList=cellsH [⟨1,ltrs rt[i].data.toList 9,z16⟩]):=by show _=_;rw[hNC,cellsH_one]
    have HNC:Hid (NC=#[.int .i64 1,.string (txt (ltrs rt[i].data.toList 9)),.int .u8 0,.int .u8 0,.int .u8 0,.int .u8 0,.int .u8 0,.int .u8 0,.int .u8 0,.int .u8 0,.int .u8 0,.int .u8 0,.int .u8 0,.int .u8 0,.int .u8 0,.int .u8 0,.int .u8 0,.int .u8 0]):=by show _=_;rw[hNC,nameC]
    have hbv:=build_one NC hNz
    clear hNC
    generalize ltrs rt[i].data.toList 9=t9 at HL9 HRS HNL HNC
    generalize txt t9=T9 at HL9 HNC
    generalize rt[i]=tx at hre HL9
    have HSS:Hid (∀wx,Below wc.heap.size wr wx→wx.cell? ⟨g,1,none⟩=some (.slice sa i sc)∧wx.cell? ⟨w.heap.size,19,none⟩=some (.slice (some ⟨rg,ro,none⟩) rt.length cap)∧wx.cell? ⟨rg,ro+i,none⟩=some (.string tx)):=fun wx hx=>by
     have hq:w.heap.size≤wc.heap.size:=HWc.out.size
     exact⟨(hx.cell (p:=⟨g,1,none⟩) hgc).trans cg,(hx.cell (p:=⟨w.heap.size,19,none⟩) (show w.heap.size<wc.heap.size by omega)).trans cr0,(hx.cell (p:=⟨rg,ro+i,none⟩) (show rg<wc.heap.size by omega)).trans hre⟩
    obtain⟨_,cr,ce⟩:=HSS.out wr (Below.refl _ _)
    clear cr0 hre HRr
    go_upto_region 5 with fail
    refine wp_region_late (fun wx=>wx.cell? ⟨g,1,none⟩=some (.slice sa i sc)∧wx.cell? ⟨w.heap.size,19,none⟩=some (.slice (some ⟨rg,ro,none⟩) rt.length cap)∧wx.cell? ⟨rg,ro+i,none⟩=some (.string tx)) 12 (by kernel_rfl) ⟨cg,cr,ce⟩ (fun hHeld=>?_)
    refine tk8 0 (some 23) (.pointer (some ⟨g,1,none⟩)) ?_
    simp only[Act.put,pA,pB,pC]
    refine tk8 1 (some 24) (.slice sa i sc) ?_
    simp only[Act.put,pA,pB,pC]
    refine tk8 2 (some 25) (.pointer (some ⟨w.heap.size,19,none⟩)) ?_
    simp only[Act.put,pA,pB,pC]
    refine tk8 3 (some 26) (.slice (some ⟨rg,ro,none⟩) rt.length cap) ?_
    simp only[Act.put,pA,pB,pC]
    refine tk8 4 (some 27) (.int .i64 (i:Int)) ?_
    simp only[Act.put,pA,pB,pC]
    refine tk8 5 (some 28) (.pointer (some ⟨rg,ro+i,none⟩)) ?_
    simp only[Act.put,pA,pB,pC]
    refine tk8 6 (some 29) (.string tx) ?_
    simp only[Act.put,pA,pB,pC]
    refine on9 7 ?_
    refine oper_call (some 30) 27 #[.string tx,.int .i64 9] (fun v w'=>v=.string T9∧Below wr.heap.size wr w') rfl (by go_simp) ((HL9.out wr.drew).mono (fun e w' q=>⟨_,q.1,rfl,(Below.refl _ wr).drew.trans q.2⟩)) ?_
    rintro v y ⟨rfl,hy⟩
    have hyc:=hy.mono hcr
    have hSy:=HSS.out y hyc
    refine⟨Or.inr hSy,?_⟩
    simp only[Act.put,pA,pB,pC]
    clear hHeld
    refine tk8 8 (some 31) (.agg NC) ?_ (hy:=?hy)
    case hy=>(intro w' hSw;rw[HNC.out];go_simp)
    simp only[Act.put,pA,pB,pC]
    refine on9 9 ?_
    refine oper_valw (w':=y.alloc (.cells NC 28)) (some 32) (.slice (some ⟨y.heap.size,0,none⟩) 1 1) rfl (by go_simp) ?_
    refine⟨Or.inr (HSS.out _ (hyc.alloc (Nat.le_trans hcr hy.size) _)),?_⟩
    simp only[Act.put,pA,pB,pC]
    refine on9 10 ?_
    refine oper_append_host _ _ rfl wc.heap.size (.slice sa i sc) i (cellsH (rtH rt i)) rfl (ownH_below HO.out (hy.alloc hy.size _)) y.heap.size 1 NC hNz HNO.out rfl (Lies.new y _ _) (by omega) (by have:=hy.size;simp;omega) ?_
    intro v9 w9 hown9 hgrow9
    have hg9:=grown_on (World.grownBy_alloc y _ ((.slice sa i sc:Value)).ownBlock) hgrow9 (fun _ h=>.inl h.symm)
    have hb9:Below wc.heap.size y w9:=Below.grown (B:=wc.heap.size) (Below.refl _ _) hg9 (Nat.le_trans hcr hy.size) (fun q hq=>((ownH_below HO.out hy).lt q hq).1)
    have hbw9:Below wc.heap.size wr w9:=hyc.trans hb9
    have hS9:=HSS.out w9 hbw9
    refine⟨Or.inr hS9,?_⟩
    obtain⟨va,vc,rfl⟩:=ownH_len hown9
    simp only[Act.put,List.setIfInBounds_toArray]
    refine tk8 11 (some 34) (.pointer (some ⟨g,1,none⟩)) ?_
    simp only[Act.put]
    have HL9':Hid (Lies w9 g (pthC 3 (.slice sa i sc) T1l hx) 32):=HL.out.below hbw9 hgc
    have c9:w9.cell? ⟨g,1,none⟩=some (.slice sa i sc):=hS9.1
    have f9:=HL9'.out.frozen 1
    have HW9:Hid (But g wc w9):=HB.out.thenUnder hbw9
    have HGL:Hid (Lies (w9.setCell ⟨g,1,none⟩ (.slice va (i+1) vc)) g (pthC 3 (.slice va (i+1) vc) T1l hx) 32):=by
     have:=HL9'.out.set 1 (.slice va (i+1) vc)
     rw[pthC_set1]at this
     exact this
    have HGB:Hid (But g wc (w9.setCell ⟨g,1,none⟩ (.slice va (i+1) vc))):=HW9.out.set _ _
    have HGO:Hid ((w9.setCell ⟨g,1,none⟩ (.slice va (i+1) vc)).ownsRow wc.heap.size 28 18 (.slice va (i+1) vc) (i+1) (cellsH (rtH rt (i+1)))):=by
     show World.ownsRow _ _ _ _ _ _ _
     rw[HRS.out,cellsH_append,←HNL.out]
     exact ownsRow_setCell_below hown9 hgc _
    clear hown9 hgrow9 hg9 hb9 hbw9 hS9 hSy hyc hy HSS HO HB HL HNL HRS cg cr ce
    refine on9 12 ?_
    refine oper_skip (w':=w9.setCell ⟨g,1,none⟩ (.slice va (i+1) vc)) (by go_simp<;>(first|with_reducible rfl|omega|skip)) rfl ?_
    refine⟨Or.inl rfl,?_⟩
    refine wpAnyE_done (by kernel_rfl) ?_ _
    clear c9 f9 HL9' HW9
    generalize w9.setCell ⟨g,1,none⟩ (.slice va (i+1) vc)=w10 at HGL HGB HGO ⊢
    go_wp2_with fail
    go_roundw
    case rel=>exact⟨i+1,by omega,by omega,_,by go_num,HGO,HGB,HGL⟩
    case measure=>simp[intOf];omega
   ·have hib:i=10∨(i<10∧i=rt.length):=by omega
    have HMM:Hid (MP=⟨3,rtH rt i,T1l,hx⟩):=HMP.out i hil hib
    have HR3:Hid (Lies wr (w.heap.size+1) #[.int .i64 0,.slice none 0 0,.string ⟨#[]⟩,.int .i64 0,.string ⟨#[]⟩,.int .u8 0,.int .u8 0,.int .u8 0,.int .u8 0,.int .u8 0,.int .u8 0,.int .u8 0,.int .u8 0,.int .u8 0,.int .u8 0,.int .u8 0,.int .u8 0,.int .u8 0,.int .u8 0,.int .u8 0,.int .u8 0] 32):=HB.out.lies HR2.out (by omega)
    obtain⟨V,hV⟩:∃V,V=pthC 3 (.slice sa i sc) T1l hx:=⟨_,rfl⟩
    have hVz:V.size=21:=by rw[hV];exact pthC_size _ _ _ _ hok
    have hVo:V.all (·.oneCell')=true:=by rw[hV];exact pthC_one9 _ _ _ _ rfl
    have HVV:Hid (V=pthC 3 (.slice sa i sc) T1l hx):=hV
    rw[←hV]at HL
    clear hV
    have HBW:Hid (Below w.heap.size w wr):=HWc.out.trans (HB.out.under (by omega) HWc.out.size)
    have HPA:Hid (PA MP V (wr.setRow (w.heap.size+1) V)):=by
     have h1:=ownH_row HO.out (show w.heap.size+1<wc.heap.size by omega) V
     rw[HMM.out,HVV.out]
     have h2:(wr.setRow (w.heap.size+1) (pthC 3 (.slice sa i sc) T1l hx)).ownsRow wc.heap.size 28 18 (.slice sa i sc) (rtH rt i).length (cellsH (rtH rt i)):=by
      rw[rtH_len hil,←HVV.out]
      exact h1
     obtain⟨s2,c2,e2,hm⟩:=RtM.ofOwn h2 (fun x hx=>by
      unfold rtH at hx
      obtain⟨t,_,rfl⟩:=List.mem_map.1 hx
      rfl)
     exact⟨s2,c2,by rw[e2],hm⟩
    have HBR:Hid (Below w.heap.size w (wr.setRow (w.heap.size+1) V)):=below_row HBW.out (by omega) V
    clear HMP HMM HO HB HVV HBW
    by_cases hb1:i<rt.length
    ·have hb1':(i:Int)<(rt.length:Int):=by omega
     have hb2':¬(i:Int)<10:=by omega
     go_wp2_with (first|(refine wpList_load_row rfl 32 _ rfl g rfl V 32 _ HL.out Tryz.underlying32 rfl (by rw[hVz];exact infoPt) ?_)|(refine wpList_store_row rfl 32 _ _ rfl (w.heap.size+1) rfl #[.int .i64 0,.slice none 0 0,.string ⟨#[]⟩,.int .i64 0,.string ⟨#[]⟩,.int .u8 0,.int .u8 0,.int .u8 0,.int .u8 0,.int .u8 0,.int .u8 0,.int .u8 0,.int .u8 0,.int .u8 0,.int .u8 0,.int .u8 0,.int .u8 0,.int .u8 0,.int .u8 0,.int .u8 0,.int .u8 0] V rfl 32 HR3.out (by rw[hVz];exact infoPt) (by rw[hVz];rfl) hVo rfl ?_))
     exact bodyPost_ret (results_row (p:=2) (by kernel_rfl) _ _ (w.heap.size+1) 32 _ (0,0) _ rfl (HR3.out.row _) Tryz.underlying32 rfl (by rw[hVz];exact infoPt)) rfl ⟨V,rfl,HPA.out,HBR.out⟩
    ·have hb1':¬(i:Int)<(rt.length:Int):=by omega
     go_wp2_with (first|(refine wpList_load_row rfl 32 _ rfl g rfl V 32 _ HL.out Tryz.underlying32 rfl (by rw[hVz];exact infoPt) ?_)|(refine wpList_store_row rfl 32 _ _ rfl (w.heap.size+1) rfl #[.int .i64 0,.slice none 0 0,.string ⟨#[]⟩,.int .i64 0,.string ⟨#[]⟩,.int .u8 0,.int .u8 0,.int .u8 0,.int .u8 0,.int .u8 0,.int .u8 0,.int .u8 0,.int .u8 0,.int .u8 0,.int .u8 0,.int .u8 0,.int .u8 0,.int .u8 0,.int .u8 0,.int .u8 0,.int .u8 0] V rfl 32 HR3.out (by rw[hVz];exact infoPt) (by rw[hVz];rfl) hVo rfl ?_))
     exact bodyPost_ret (results_row (p:=2) (by kernel_rfl) _ _ (w.heap.size+1) 32 _ (0,0) _ rfl (HR3.out.row _) Tryz.underlying32 rfl (by rw[hVz];exact infoPt)) rfl ⟨V,rfl,HPA.out,HBR.out⟩
open Go.ChangeShapes Go.WideShapes Go.ChangeAt Go.RowKit
theorem strs_of_trod {H:Type} {enc:TypeId×Value→H} {W:World} {fuel:Nat} {cs:List Value} {x:DataW H×List MemPlace} (h:DataW.trod enc Tryz.prog W 0 (fun _=>true) true fuel 43 cs=some x):
  ∃(sp:Option Addr) (rt:List ByteArray) (cap:Nat),cs=[.slice sp rt.length cap]∧Sts W sp rt∧rt.length≤maxLen∧∀t∈rt,∃el s2,x.1=.slice el s2∧DataW.lit (.string t.data.toList)∈el:=by
 rcases Go.Deep.open_strs Tryz.underlying43 Tryz.underlying9 cellsStr h with⟨h1,h2⟩|⟨a,len,cap,m,Sx,rfl,_,hl,hm,hmm,rfl,hx⟩
 ·exact⟨none,[],0,h1,.inl rfl,Nat.zero_le _,fun t ht=>by cases ht⟩
 ·have hlm:len≤m:=by rw[hmm];simpa using hl
  refine⟨some a,(List.range len).map Sx,cap,by simp,?_,by simp;omega,fun t ht=>?_⟩
  ·by_cases h0:len=0
   ·left
    rw[h0]
    rfl
   ·right
    obtain⟨b,o,spot⟩:=a
    have hc:=(hx 0 (by omega)).1
    have hspot:spot=none:=by simpa [Addr.add] using World.cell?_spot hc
    subst hspot
    rw[Addr.add_lit]at hc
    refine⟨b,o,rfl,World.block_lt_of_cell? W _ hc,fun j hj=>?_⟩
    have hj':j<len:=by simpa using hj
    have:=(hx j (by omega)).1
    rw[Addr.add_lit]at this
    rw[this]
    simp
  ·obtain⟨i,hi,rfl⟩:=List.mem_map.1 ht
   exact⟨_,_,rfl,List.mem_map.2 ⟨i,hi,rfl⟩⟩
theorem cellsSS:Tryz.prog.cellsOf 43=1:=by kernel_rfl
set_option maxRecDepth 100000 in
theorem open_raw {H:Type} {enc:TypeId×Value→H} {W:World} {r:Reach} {b0:Nat} {v:Value} {d:DataW H} {ps:List MemPlace} (hv:Value.okWide Tryz.prog W r b0 45 v) (h:DataW.Trod enc Tryz.prog W 0 (fun _=>true) true 45 v d ps):
  ∃(lc hs:ByteArray) (a:List Nat) (k:Int) (sp:Option Addr) (rt:List ByteArray) (cap:Nat),v=.agg (rawC lc.data.toList hs.data.toList a k (.slice sp rt.length cap))∧((a.length=16∧∀n∈a,n<256)∧Sts W sp rt∧rt.length≤maxLen)∧
   ∃p q dr,d=.agg [.lit (.string lc.data.toList),.lit (.string hs.data.toList),p,q,dr]∧∀t∈rt,∃el s2,dr=.slice el s2∧DataW.lit (.string t.data.toList)∈el:=by
 obtain⟨cs,rfl,hsz⟩:=okWide_struct Tryz.underlying45 hv
 have c20:Tryz.prog.cellsOf 45=20:=by kernel_rfl
 rw[c20]at hsz
 obtain⟨fuel,hf⟩:=h
 obtain⟨ys,n,_,hx,hl,hyl,hfd⟩:=DataW.trod_struct Tryz.underlying45 hf
 have hy5:ys.length=5:=hyl
 obtain⟨y0,y1,y2,y3,y4,rfl⟩:∃a b c d e,ys=[a,b,c,d,e]:=by
  match ys,hy5 with
  |[a,b,c,d,e],_=>exact⟨a,b,c,d,e,rfl⟩
 have g0:_=some y0:=hfd 0 _ rfl
 have g1:_=some y1:=hfd 1 _ rfl
 have g2:_=some y2:=hfd 2 _ rfl
 have g3:_=some y3:=hfd 3 _ rfl
 have g4:_=some y4:=hfd 4 _ rfl
 obtain⟨s0,a0,d0,_⟩:=DataW.trod_string Tryz.underlying9 g0
 obtain⟨s1,a1,d1,_⟩:=DataW.trod_string Tryz.underlying9 g1
 obtain⟨l,l1,l2,l3⟩:=bytes_of_trod Tryz.underlying26 cellsT16 g2
 obtain⟨z3,a3,_,_⟩:=DataW.trod_int Tryz.underlying3 g3
 obtain⟨sp,rt,cap,a4,hst,hln,hdr⟩:=strs_of_trod g4
 have e0:cs[0]?=some (.string s0):=by
  have r0:=congrArg (fun l=>l[0]?) a0
  simp only[List.getElem?_take,List.getElem?_drop]at r0
  simpa [Value.cells,cellsStr] using r0
 have e1:cs[1]?=some (.string s1):=by
  have r0:=congrArg (fun l=>l[0]?) a1
  simp only[List.getElem?_take,List.getElem?_drop]at r0
  simpa [Value.cells,cellsStr] using r0
 have e2:∀j,j<16→cs[2+j]?=(bytesV l)[j]?:=fun j hj=>by
  have r0:=congrArg (fun l=>l[j]?) l3
  simp only[List.getElem?_take,List.getElem?_drop]at r0
  have eb:(bytesV l)[j]?=(l.map fun n=>Value.int .u8 (n:Nat))[j]?:=by
   unfold bytesV
   rw[List.getElem?_toArray]
  rw[eb,←r0,if_pos (by show j<Tryz.prog.cellsOf 26;rw[cellsT16];exact hj)]
  simp[Value.cells]
 have e3:cs[18]?=some (.int .i64 z3):=by
  have r0:=congrArg (fun l=>l[0]?) a3
  simp only[List.getElem?_take,List.getElem?_drop]at r0
  simpa [Value.cells,cellsT3] using r0
 have e4:cs[19]?=some (.slice sp rt.length cap):=by
  have r0:=congrArg (fun l=>l[0]?) a4
  simp only[List.getElem?_take,List.getElem?_drop]at r0
  simpa [Value.cells,cellsSS] using r0
 refine⟨s0,s1,l,z3,sp,rt,cap,?_,⟨⟨l1,l2⟩,hst,hln⟩,y2.1,y3.1,y4.1,?_,hdr⟩
 ·have hz:(bytesV l).size=16:=by rw[bytesV_size,l1]
  obtain⟨r0,r1,r18,r19,r2⟩:=rawC_at s0.data.toList s1.data.toList l z3 (.slice sp rt.length cap) l1
  have hrz:(rawC s0.data.toList s1.data.toList l z3 (.slice sp rt.length cap)).size=20:=by
   unfold rawC
   simp only[Array.size_append,hz]
   rfl
  have hcs:cs=rawC s0.data.toList s1.data.toList l z3 (.slice sp rt.length cap):=by
   apply Array.ext_getElem?
   intro i
   by_cases h20:i<20
   ·by_cases h2:i<2
    ·match i,h2 with
     |0,_=>rw[e0,r0];rfl
     |1,_=>rw[e1,r1];rfl
    ·by_cases h18:i<18
     ·obtain⟨j,rfl⟩:∃j,i=2+j:=⟨i - 2,by omega⟩
      rw[e2 j (by omega)]
      have hj:j<(bytesV l).size:=by omega
      rw[r2 j (bytesV l)[j] (by rw[Array.getElem?_toList,Array.getElem?_eq_getElem hj]),Array.getElem?_eq_getElem hj]
     ·have hc:i=18∨i=19:=by omega
      rcases hc with rfl|rfl
      ·rw[e3,r18]
      ·rw[e4,r19]
   ·rw[Array.getElem?_eq_none (by omega),Array.getElem?_eq_none (by omega)]
  rw[hcs]
 ·have hd:d=.agg [y0.1,y1.1,y2.1,y3.1,y4.1]:=congrArg Prod.fst hx
  have q0:y0.1=.lit (.string s0.data.toList):=congrArg Prod.fst d0
  have q1:y1.1=.lit (.string s1.data.toList):=congrArg Prod.fst d1
  rw[hd,q0,q1]
theorem weights_all {H:Type} {P:Program} {e:TypeId} {n:Nat} {d:DataW H}:∀{ds:List (DataW H)},d∈ds→n∈d.weights P e→n∈DataW.weightsAll P e ds
 |x::r,h,hn=>by
  rw[DataW.weightsAll,List.mem_append]
  rcases List.mem_cons.1 h with rfl|h
  ·exact .inl hn
  ·exact .inr (weights_all h hn)
theorem raw_size {H:Type} {ts:List TypeId} {ds:List (DataW H)} {d:DataW H} {L S:List UInt8} {rt:List ByteArray} {j:Nat} (h:(DataW.weightsEach Tryz.prog ts ds).all (· ≤reachBytes)=true) (ht:ts[j]?=some 45) (hd:ds[j]?=some d)
  (e:∃p q dr,d=.agg [.lit (.string L),.lit (.string S),p,q,dr]∧∀t∈rt,∃el s2,dr=.slice el s2∧DataW.lit (.string t.data.toList)∈el):L.length≤140737488351232∧S.length≤140737488351232∧∀t∈rt,t.size≤140737488351232:=by
 obtain⟨p,q,dr,rfl,hrt⟩:=e
 have key:∀n,n∈(DataW.agg [.lit (.string L),.lit (.string S),p,q,dr]).weights Tryz.prog 45→n≤140737488351232:=fun n hn=>by
  have h0:=List.all_eq_true.1 h _ (DataW.weights_mem_each ht hd _ hn)
  simp only[reachBytes]at h0
  exact of_decide_eq_true h0
 refine⟨key _ ?_,key _ ?_,fun t htt=>key _ ?_⟩
 ·unfold DataW.weights
  rw[Tryz.underlying45]
  exact DataW.weights_mem_each (j:=0) (t:=9) (d:=.lit (.string L)) rfl rfl _ (by simp[DataW.weights])
 ·unfold DataW.weights
  rw[Tryz.underlying45]
  exact DataW.weights_mem_each (j:=1) (t:=9) (d:=.lit (.string S)) rfl rfl _ (by simp[DataW.weights])
 ·obtain⟨el,s2,rfl,hm⟩:=hrt t htt
  unfold DataW.weights
  rw[Tryz.underlying45]
  refine DataW.weights_mem_each (j:=4) (t:=43) (d:=.slice el s2) rfl rfl _ ?_
  unfold DataW.weights
  rw[Tryz.underlying43]
  refine List.mem_cons_of_mem _ (List.mem_append.2 (.inl (weights_all hm ?_)))
  simp[DataW.weights]
end Go.Proofs.YtfjpkfhbmldmfabGreatDoor
