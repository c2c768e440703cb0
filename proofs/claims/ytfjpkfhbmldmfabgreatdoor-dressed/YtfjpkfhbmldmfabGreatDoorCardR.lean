/-
  What a path is made of, as it came in.
-/
import Derived.Test.YtfjpkfhbmldmfabGreatDoorYe9
import Derived.Test.YtfjpkfhbmldmfabGreatDoorYi9
import Derived.Deep.Strs
namespace Go.Proofs.YtfjpkfhbmldmfabGreatDoor
open Go.ChangeShapes Go.WideShapes Go.ChangeAt Go.RowKit
theorem strs_of_trod {H:Type} {enc:TypeId×Value→H} {W:World} {fuel:Nat} {cs:List Value} {x:DataW H×List MemPlace} (h:DataW.trod enc Tryz.prog W 0 (fun _=>true) true fuel 43 cs=some x):
  ∃(sp:Option Addr) (rt:List ByteArray) (cap:Nat),cs=[.slice sp rt.length cap]∧Sts W sp rt∧rt.length≤maxLen∧∀t∈rt,∃el s2,x.1=.slice el s2∧DataW.lit (.string t.data.toList)∈el:=by
 rcases Go.Deep.open_strs Tryz.underlying43 Tryz.underlying9 cellsStr h with⟨h1,h2⟩|⟨a,len,cap,m,Sx,rfl,_,hl,hm,hmm,rfl,hx⟩
 ·exact⟨none,[],0,h1,.inl rfl,Nat.zero_le _,fun t ht=>by cases ht⟩
 ·have hlm:len≤m:=by rw[hmm];simpa using hl
  refine⟨some a,(List.range len).map Sx,cap,by simp,?_,by simp;omega,fun t ht=>?_⟩
  ·by_cases h0:len=0
   ·left
    rw[h0]
    rfl
   ·right
    obtain⟨b,o,spot⟩:=a
    have hc:=(hx 0 (by omega)).1
    have hspot:spot=none:=by simpa [Addr.add] using World.cell?_spot hc
    subst hspot
    rw[Addr.add_lit]at hc
    refine⟨b,o,rfl,World.block_lt_of_cell? W _ hc,fun j hj=>?_⟩
    have hj':j<len:=by simpa using hj
    have:=(hx j (by omega)).1
    rw[Addr.add_lit]at this
    rw[this]
    simp
  ·obtain⟨i,hi,rfl⟩:=List.mem_map.1 ht
   exact⟨_,_,rfl,List.mem_map.2 ⟨i,hi,rfl⟩⟩
theorem cellsSS:Tryz.prog.cellsOf 43=1:=by kernel_rfl
set_option maxRecDepth 100000 in
theorem open_raw {H:Type} {enc:TypeId×Value→H} {W:World} {r:Reach} {b0:Nat} {v:Value} {d:DataW H} {ps:List MemPlace} (hv:Value.okWide Tryz.prog W r b0 45 v) (h:DataW.Trod enc Tryz.prog W 0 (fun _=>true) true 45 v d ps):
  ∃(lc hs:ByteArray) (a:List Nat) (k:Int) (sp:Option Addr) (rt:List ByteArray) (cap:Nat),v=.agg (rawC lc.data.toList hs.data.toList a k (.slice sp rt.length cap))∧((a.length=16∧∀n∈a,n<256)∧Sts W sp rt∧rt.length≤maxLen)∧
   ∃p q dr,d=.agg [.lit (.string lc.data.toList),.lit (.string hs.data.toList),p,q,dr]∧∀t∈rt,∃el s2,dr=.slice el s2∧DataW.lit (.string t.data.toList)∈el:=by
 obtain⟨cs,rfl,hsz⟩:=okWide_struct Tryz.underlying45 hv
 have c20:Tryz.prog.cellsOf 45=20:=by kernel_rfl
 rw[c20]at hsz
 obtain⟨fuel,hf⟩:=h
 obtain⟨ys,n,_,hx,hl,hyl,hfd⟩:=DataW.trod_struct Tryz.underlying45 hf
 have hy5:ys.length=5:=hyl
 obtain⟨y0,y1,y2,y3,y4,rfl⟩:∃a b c d e,ys=[a,b,c,d,e]:=by
  match ys,hy5 with
  |[a,b,c,d,e],_=>exact⟨a,b,c,d,e,rfl⟩
 have g0:_=some y0:=hfd 0 _ rfl
 have g1:_=some y1:=hfd 1 _ rfl
 have g2:_=some y2:=hfd 2 _ rfl
 have g3:_=some y3:=hfd 3 _ rfl
 have g4:_=some y4:=hfd 4 _ rfl
 obtain⟨s0,a0,d0,_⟩:=DataW.trod_string Tryz.underlying9 g0
 obtain⟨s1,a1,d1,_⟩:=DataW.trod_string Tryz.underlying9 g1
 obtain⟨l,l1,l2,l3⟩:=bytes_of_trod Tryz.underlying26 cellsT16 g2
 obtain⟨z3,a3,_,_⟩:=DataW.trod_int Tryz.underlying3 g3
 obtain⟨sp,rt,cap,a4,hst,hln,hdr⟩:=strs_of_trod g4
 have e0:cs[0]?=some (.string s0):=by
  have r0:=congrArg (fun l=>l[0]?) a0
  simp only[List.getElem?_take,List.getElem?_drop]at r0
  simpa [Value.cells,cellsStr] using r0
 have e1:cs[1]?=some (.string s1):=by
  have r0:=congrArg (fun l=>l[0]?) a1
  simp only[List.getElem?_take,List.getElem?_drop]at r0
  simpa [Value.cells,cellsStr] using r0
 have e2:∀j,j<16→cs[2+j]?=(bytesV l)[j]?:=fun j hj=>by
  have r0:=congrArg (fun l=>l[j]?) l3
  simp only[List.getElem?_take,List.getElem?_drop]at r0
  have eb:(bytesV l)[j]?=(l.map fun n=>Value.int .u8 (n:Nat))[j]?:=by
   unfold bytesV
   rw[List.getElem?_toArray]
  rw[eb,←r0,if_pos (by show j<Tryz.prog.cellsOf 26;rw[cellsT16];exact hj)]
  simp[Value.cells]
 have e3:cs[18]?=some (.int .i64 z3):=by
  have r0:=congrArg (fun l=>l[0]?) a3
  simp only[List.getElem?_take,List.getElem?_drop]at r0
  simpa [Value.cells,cellsT3] using r0
 have e4:cs[19]?=some (.slice sp rt.length cap):=by
  have r0:=congrArg (fun l=>l[0]?) a4
  simp only[List.getElem?_take,List.getElem?_drop]at r0
  simpa [Value.cells,cellsSS] using r0
 refine⟨s0,s1,l,z3,sp,rt,cap,?_,⟨⟨l1,l2⟩,hst,hln⟩,y2.1,y3.1,y4.1,?_,hdr⟩
 ·have hz:(bytesV l).size=16:=by rw[bytesV_size,l1]
  obtain⟨r0,r1,r18,r19,r2⟩:=rawC_at s0.data.toList s1.data.toList l z3 (.slice sp rt.length cap) l1
  have hrz:(rawC s0.data.toList s1.data.toList l z3 (.slice sp rt.length cap)).size=20:=by
   unfold rawC
   simp only[Array.size_append,hz]
   rfl
  have hcs:cs=rawC s0.data.toList s1.data.toList l z3 (.slice sp rt.length cap):=by
   apply Array.ext_getElem?
   intro i
   by_cases h20:i<20
   ·by_cases h2:i<2
    ·match i,h2 with
     |0,_=>rw[e0,r0];rfl
     |1,_=>rw[e1,r1];rfl
    ·by_cases h18:i<18
     ·obtain⟨j,rfl⟩:∃j,i=2+j:=⟨i - 2,by omega⟩
      rw[e2 j (by omega)]
      have hj:j<(bytesV l).size:=by omega
      rw[r2 j (bytesV l)[j] (by rw[Array.getElem?_toList,Array.getElem?_eq_getElem hj]),Array.getElem?_eq_getElem hj]
     ·have hc:i=18∨i=19:=by omega
      rcases hc with rfl|rfl
      ·rw[e3,r18]
      ·rw[e4,r19]
   ·rw[Array.getElem?_eq_none (by omega),Array.getElem?_eq_none (by omega)]
  rw[hcs]
 ·have hd:d=.agg [y0.1,y1.1,y2.1,y3.1,y4.1]:=congrArg Prod.fst hx
  have q0:y0.1=.lit (.string s0.data.toList):=congrArg Prod.fst d0
  have q1:y1.1=.lit (.string s1.data.toList):=congrArg Prod.fst d1
  rw[hd,q0,q1]
theorem weights_all {H:Type} {P:Program} {e:TypeId} {n:Nat} {d:DataW H}:∀{ds:List (DataW H)},d∈ds→n∈d.weights P e→n∈DataW.weightsAll P e ds
 |x::r,h,hn=>by
  rw[DataW.weightsAll,List.mem_append]
  rcases List.mem_cons.1 h with rfl|h
  ·exact .inl hn
  ·exact .inr (weights_all h hn)
theorem raw_size {H:Type} {ts:List TypeId} {ds:List (DataW H)} {d:DataW H} {L S:List UInt8} {rt:List ByteArray} {j:Nat} (h:(DataW.weightsEach Tryz.prog ts ds).all (· ≤reachBytes)=true) (ht:ts[j]?=some 45) (hd:ds[j]?=some d)
  (e:∃p q dr,d=.agg [.lit (.string L),.lit (.string S),p,q,dr]∧∀t∈rt,∃el s2,dr=.slice el s2∧DataW.lit (.string t.data.toList)∈el):L.length≤140737488351232∧S.length≤140737488351232∧∀t∈rt,t.size≤140737488351232:=by
 obtain⟨p,q,dr,rfl,hrt⟩:=e
 have key:∀n,n∈(DataW.agg [.lit (.string L),.lit (.string S),p,q,dr]).weights Tryz.prog 45→n≤140737488351232:=fun n hn=>by
  have h0:=List.all_eq_true.1 h _ (DataW.weights_mem_each ht hd _ hn)
  simp only[reachBytes]at h0
  exact of_decide_eq_true h0
 refine⟨key _ ?_,key _ ?_,fun t htt=>key _ ?_⟩
 ·unfold DataW.weights
  rw[Tryz.underlying45]
  exact DataW.weights_mem_each (j:=0) (t:=9) (d:=.lit (.string L)) rfl rfl _ (by simp[DataW.weights])
 ·unfold DataW.weights
  rw[Tryz.underlying45]
  exact DataW.weights_mem_each (j:=1) (t:=9) (d:=.lit (.string S)) rfl rfl _ (by simp[DataW.weights])
 ·obtain⟨el,s2,rfl,hm⟩:=hrt t htt
  unfold DataW.weights
  rw[Tryz.underlying45]
  refine DataW.weights_mem_each (j:=4) (t:=43) (d:=.slice el s2) rfl rfl _ ?_
  unfold DataW.weights
  rw[Tryz.underlying43]
  refine List.mem_cons_of_mem _ (List.mem_append.2 (.inl (weights_all hm ?_)))
  simp[DataW.weights]
end Go.Proofs.YtfjpkfhbmldmfabGreatDoor
