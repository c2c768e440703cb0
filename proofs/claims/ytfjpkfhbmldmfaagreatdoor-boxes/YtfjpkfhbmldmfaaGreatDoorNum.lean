/-
  Well-formed bytes, their labels and their small letters: plain mathematics.
-/
import Derived.Test.YtfjpkfhbmldmfaaGreatDoorUtfE
import Derived.Test.YtfjpkfhbmldmfaaGreatDoorRcP
import Derived.Test.YtfjpkfhbmldmfaaGreatDoorPw8
import Derived.Test.YtfjpkfhbmldmfaaGreatDoorChk
import Derived.Laws.OwnMore
namespace Go.Proofs.YtfjpkfhbmldmfaaGreatDoor
def qs8:List Q:=[(0,0,0),(1,128,191),(2,160,191),(2,128,191),(2,128,159),(3,144,191),(3,128,191),(3,128,143)]
theorem begQ_mem {b:Nat} {q:Q} (h:begQ b=some q):q∈qs8:=by
 unfold begQ at h
 repeat' (split at h)
 all_goals (first|(injection h with h;subst h;decide)|cases h)
theorem stepQ_mem {q q':Q} {b:Nat} (hq:q∈qs8) (h:stepQ q b=some q'):q'∈qs8:=by
 have h3:q.1≤3:=by
  have:∀q∈qs8,q.1≤3:=by decide
  exact this q hq
 unfold stepQ at h
 split at h
 ·exact begQ_mem h
 ·rename_i h0
  split at h
  ·cases h
  ·split at h
   ·injection h with h;subst h;decide
   ·rename_i h1
    injection h with h
    subst h
    have:q.1=2∨q.1=3:=by omega
    rcases this with e|e
    ·rw[e];decide
    ·rw[e];decide
theorem runQ_mem:∀(l:List UInt8) (q q':Q),q∈qs8→runQ q l=some q'→q'∈qs8
 |[],q,q',hq,h=>by
  simp only[runQ]at h
  injection h with h
  rw[←h]
  exact hq
 |b::t,q,q',hq,h=>by
  simp only[runQ,Option.bind_eq_some_iff]at h
  obtain⟨q1,h1,h2⟩:=h
  exact runQ_mem t q1 q' (stepQ_mem hq h1) h2
theorem badUA_whole:∀(l:List UInt8) (q:Q) (n w:Nat),l≠[]→w≤n→(badUA q n w l=n+l.length↔∃q',runQ q l=some q'∧q'.1=0)
 |[],_,_,_,h,_=>absurd rfl h
 |b::t,q,n,w,_,hw=>by
  simp only[badUA,runQ]
  cases hs:stepQ q b.toNat with
  |none=>
   simp only[Option.bind_none,List.length_cons]
   constructor
   ·intro h;omega
   ·intro ⟨q',h,_⟩;cases h
  |some q1=>
   simp only[Option.bind_some,List.length_cons]
   cases t with
   |nil=>
    simp only[badUA,runQ,List.length_nil]
    constructor
    ·intro h
     refine⟨q1,rfl,?_⟩
     by_cases h0:q1.1=0
     ·exact h0
     ·rw[if_neg h0]at h;omega
    ·intro ⟨q',h,h0⟩
     injection h with h
     subst h
     rw[if_pos h0]
   |cons c t=>
    have:=badUA_whole (c::t) q1 (n+1) (if q1.1=0 then n+1 else w) (by simp) (by split<;>omega)
    rw[←this]
    constructor<;>intro h<;>omega
theorem badU_whole (l:List UInt8):badU l=l.length↔∃q',runQ q0 l=some q'∧q'.1=0:=by
 cases l with
 |nil=>exact⟨fun _=>⟨q0,rfl,rfl⟩,fun _=>rfl⟩
 |cons b t=>
  have:=badUA_whole (b::t) q0 0 0 (by simp) (Nat.le_refl _)
  rw[Nat.zero_add]at this
  exact this
theorem qs8_zero:∀q∈qs8,q.1=0→q=q0:=by decide
def Wf (l:List UInt8):Prop:=badU l=l.length
theorem wf_iff (l:List UInt8):Wf l↔runQ q0 l=some q0:=by
 unfold Wf
 rw[badU_whole]
 constructor
 ·rintro ⟨q,h,h0⟩
  rw[h,qs8_zero q (runQ_mem l q0 q (by decide) h) h0]
 ·intro h
  exact⟨q0,h,rfl⟩
theorem smB_high {c:UInt8} (h:¬c.toNat<128):smB c=c:=by
 unfold smB
 rw[if_neg (by omega)]
theorem splitD_none:∀x:List UInt8,(∀c∈x,c≠46)→splitD x=[x]
 |[],_=>rfl
 |c::r,h=>by
  rw[splitD,if_neg (h c (by simp)),splitD_none r fun x hx=>h x (by simp[hx])]
theorem splitD_dot:∀(x y:List UInt8),(∀c∈x,c≠46)→splitD (x++46::y)=x::splitD y
 |[],y,_=>by rw[List.nil_append,splitD,if_pos rfl]
 |c::r,y,h=>by
  rw[List.cons_append,splitD,if_neg (h c (by simp)),splitD_dot r y fun x hx=>h x (by simp[hx])]
theorem split_cases:∀s:List UInt8,(∀c∈s,c≠46)∨∃x y,(∀c∈x,c≠46)∧s=x++46::y
 |[]=>Or.inl fun c hc=>by cases hc
 |c::r=>by
  by_cases hc:c=46
  ·exact Or.inr ⟨[],r,fun c hc=>(by cases hc),by rw[hc];rfl⟩
  ·rcases split_cases r with h|⟨x,y,h,e⟩
   ·refine Or.inl fun d hd=>?_
    rcases List.mem_cons.1 hd with rfl|hd
    ·exact hc
    ·exact h d hd
   ·refine Or.inr ⟨c::x,y,fun d hd=>?_,by rw[e];rfl⟩
    rcases List.mem_cons.1 hd with rfl|hd
    ·exact hc
    ·exact h d hd
structure LabW (l:List UInt8):Prop where
 ne:l≠[]
 le:l.length≤63
 ch:∀c∈l,lbB c=true∨128≤c.toNat
 hd:l.head?≠some 45
 la:l.getLast?≠some 45
structure LabA (l:List UInt8):Prop where
 ne:l≠[]
 le:l.length≤63
 ch:∀c∈l,lbB c=true
 hd:l.head?≠some 45
 la:l.getLast?≠some 45
structure RestA (n:Nat) (h:Bool) (x:List UInt8):Prop where
 ch:∀c∈x,lbB c=true
 hd:n=0→x.head?≠some 45
 le:n+x.length≤63
 ne:0<n+x.length
 em:x=[]→h=false
 la:x.getLast?≠some 45
theorem LabA.rest {x:List UInt8} (h:LabA x):RestA 0 false x:=
 ⟨h.ch,fun _=>h.hd,by have:=h.le;omega,by
  cases x with
  |nil=>exact absurd rfl h.ne
  |cons c r=>simp,fun _=>rfl,h.la⟩
theorem lbB_fin:∀b:Fin 256,lbB (UInt8.ofNat b.val)=lbB (smB (UInt8.ofNat b.val))∧smB (smB (UInt8.ofNat b.val))=smB (UInt8.ofNat b.val)∧(smB (UInt8.ofNat b.val)=45↔UInt8.ofNat b.val=45)∧(lbB (UInt8.ofNat b.val)=true→b.val<128):=by decide+kernel
theorem smB_facts (c:UInt8):lbB c=lbB (smB c)∧smB (smB c)=smB c∧(smB c=45↔c=45)∧(lbB c=true→c.toNat<128):=by
 have:=lbB_fin ⟨c.toNat,c.toNat_lt⟩
 simpa using this
theorem sml_head (l:List UInt8):(sml l).head?=some 45↔l.head?=some 45:=by
 cases l with
 |nil=>simp[sml]
 |cons c r=>simp[sml,(smB_facts c).2.2.1]
theorem sml_last (l:List UInt8):(sml l).getLast?=some 45↔l.getLast?=some 45:=by
 unfold sml
 rw[List.getLast?_map]
 cases l.getLast? with
 |none=>simp
 |some c=>simp[(smB_facts c).2.2.1]
theorem LabW.sml {l:List UInt8} (h:LabW l):LabW (sml l):=by
 refine⟨fun e=>h.ne (by simpa [Go.Proofs.YtfjpkfhbmldmfaaGreatDoor.sml] using e),by have:=h.le;simpa [Go.Proofs.YtfjpkfhbmldmfaaGreatDoor.sml] using this,fun c hc=>?_,fun e=>h.hd ((sml_head l).1 e),fun e=>h.la ((sml_last l).1 e)⟩
 obtain⟨d,hd,rfl⟩:=List.mem_map.1 hc
 rcases h.ch d hd with h1|h1
 ·exact Or.inl ((smB_facts d).1 ▸ h1)
 ·exact Or.inr (by rw[smB_high (by omega)];exact h1)
theorem sml_len (x:List UInt8):(sml x).length=x.length:=by simp[sml]
theorem check_tag {h:Ho} {wide:Bool} (hk:h.k=4) (hc:check h wide=0):h.a=z16∧chTag h.n=0:=by
 unfold check at hc
 rw[if_neg (by omega),if_neg (by omega),if_neg (by omega),if_pos hk]at hc
 split at hc
 ·exact⟨‹_›,hc⟩
 ·cases hc
open Go.RowKit
def printV (r:List UInt8×Nat):Value:=.tuple #[.string ⟨r.1.toArray⟩,.int .i64 (r.2:Nat)]
set_option maxHeartbeats 4000000 in
set_option maxRecDepth 100000 in
theorem print_any (h:Ho) (ok:h.Ok) (w:World) (hT:Tb w) (hP:PowTab w) (hn:h.n.length≤140737488351232):
  Calls Tryz.prog 79 #[hostV h] w fun e w'=>e=.returned (printV (print h))∧Below w.heap.size w w':=by
 have ha:=ok.len
 have HT:Hid (∀wx,Below w.heap.size w wx→Tb wx):=fun wx hb=>hT.below hb
 have HPT:Hid (∀wx,Below w.heap.size w wx→PowTab wx):=fun wx hb=>hP.below hb
 have hsz:=hostC_size h ha
 obtain⟨HC,hHC⟩:∃HC,HC=hostC h:=⟨_,rfl⟩
 have e1:hostV h=.agg HC:=by rw[hHC];rfl
 have HHC:Hid (HC=hostC h):=hHC
 rw[←hHC]at hsz
 have L1:Hid (Lies (w.alloc (.cells HC 25)) w.heap.size HC 25):=Lies.new w _ _
 have HB:Hid (Below w.heap.size w (w.alloc (.cells HC 25))):=(Below.refl _ _).alloc (Nat.le_refl _) _
 have HCK:Hid (Calls Tryz.prog 74 #[.agg HC,.bool true] (w.alloc (.cells HC 25)) fun e w'=>e=.returned (.int .i64 (check h true:Nat))∧Below (w.alloc (.cells HC 25)).heap.size (w.alloc (.cells HC 25)) w'):=by
  rw[←e1]
  exact chk_any h ha true _ (HT.out _ HB.out) hn
 rw[e1]
 clear hT hP hHC e1
 go_enter Tryz.func79,Tryz.ntmps79
 go_wp2_with (refine wpList_load_row rfl 25 _ rfl w.heap.size rfl HC 25 _ L1.out Tryz.underlying25 rfl (by rw[hsz];exact infoHo) ?_)
 refine HCK.out.mono ?_
 rintro e w1 ⟨rfl,hb1⟩
 have K1:Hid (Lies w1 w.heap.size HC 25):=L1.out.below hb1 L1.out.lt
 have KB:Hid (Below w.heap.size w w1):=HB.out.trans (hb1.mono (Nat.le_of_lt L1.out.lt))
 clear hb1 L1 HB HCK
 have hz1:=K1.out.lt
 have K1h:Lies w1 w.heap.size (hostC h) 25:=by rw[←HHC.out];exact K1.out
 obtain⟨c0,c1⟩:=host_cells K1h
 by_cases hck:check h true=0
 case neg=>
  have HV:Hid (print h=([],check h true)):=by show _=_;unfold print;rw[if_neg hck]
  have hck':((check h true:Int)==0)=false:=by rw[beq_eq_false_iff_ne];omega
  generalize check h true=ck at HV hck' ⊢
  clear hck
  go_wp2_with fail
  refine bodyPost_ret (v:=.tuple #[.string ⟨#[]⟩,.int .i64 (ck:Int)]) (by simp[results,Tryz.results79,go_sem]) rfl ⟨by rw[HV.out];rfl,KB.out⟩
 rw[hck]
 by_cases k2:h.k=2
 ·have HV:Hid (print h=([91]++print4 (h.a.take 4)++[93],0)):=by show _=_;unfold print;rw[if_pos hck,if_pos k2]
  rw[k2]at c0
  obtain⟨q0,q1,q2,q3,hq⟩:∃q0 q1 q2 q3,h.a.take 4=[q0,q1,q2,q3]:=by
   have:(h.a.take 4).length=4:=by rw[List.length_take];omega
   match h.a.take 4,this with
   |[q0,q1,q2,q3],_=>exact⟨q0,q1,q2,q3,rfl⟩
  have HM4:=host_mid4 K1h
  have hb4:∀n∈[q0,q1,q2,q3],n<256:=fun n hn=>by rw[←hq]at hn;exact ok.byt n (List.mem_of_mem_take hn)
  rw[hq]at HM4 HV
  have HS4:Hid (w1.rangeAt w.heap.size 2 [.int .u8 (q0:Nat),.int .u8 (q1:Nat),.int .u8 (q2:Nat),.int .u8 (q3:Nat)]):=HM4
  have hlen:=print4_len q0 q1 q2 q3
  have HPV:Hid (Calls Tryz.prog 110 #[.agg #[.int .u8 (q0:Nat),.int .u8 (q1:Nat),.int .u8 (q2:Nat),.int .u8 (q3:Nat)]] w1 fun e w'=>e=.returned (.string ⟨(print4 [q0,q1,q2,q3]).toArray⟩)∧Below w1.heap.size w1 w'):=printv4_any [q0,q1,q2,q3] rfl hb4 w1 (HPT.out _ KB.out)
  have hat:=array_at w.heap.size
  generalize print4 [q0,q1,q2,q3]=ps at HV hlen HPV
  obtain⟨S,hS⟩:∃S:ByteArray,S=⟨ps.toArray⟩:=⟨_,rfl⟩
  have hSs:(S.size:Int)≤100:=by rw[hS];show((ps.toArray.size:Nat):Int)≤_;rw[List.size_toArray];omega
  have HF:Hid ((⟨([91]++ps++[93]).toArray⟩:ByteArray)=⟨#[91]⟩++S++⟨#[93]⟩):=by
   show _=_
   rw[hS,show(⟨#[91]⟩:ByteArray)=⟨([91]:List UInt8).toArray⟩ from rfl,show(⟨#[93]⟩:ByteArray)=⟨([93]:List UInt8).toArray⟩ from rfl,str_append,str_append]
  rw[←hS]at HPV
  have ad1:∀W,(Op.stringOp .add ⟨#[91]⟩ S).run Tryz.prog W=.ok (.string (⟨#[91]⟩++S)) W:=fun W=>run_string_add _ _ _ (by decide) (by omega)
  have ad2:∀W,(Op.stringOp .add (⟨#[91]⟩++S) ⟨#[93]⟩).run Tryz.prog W=.ok (.string (⟨#[91]⟩++S++⟨#[93]⟩)) W:=fun W=>run_string_add _ _ _ (by rw[ByteArray.size_append];show((1+S.size:Nat):Int)≤_;omega) (by decide)
  clear HM4 hq hb4 k2 hck hS hSs hlen
  go_wp2_with (refine wpList_load_mid rfl 108 _ rfl w.heap.size 2 rfl [.int .u8 (q0:Nat),.int .u8 (q1:Nat),.int .u8 (q2:Nat),.int .u8 (q3:Nat)] _ HS4.out Tryz.underlying108 rfl info4 ?_)
  refine HPV.out.mono ?_
  rintro e w2 ⟨rfl,hb2⟩
  have KB2:Hid (Below w.heap.size w w2):=KB.out.trans (hb2.mono (Nat.le_of_lt hz1))
  clear hb2 HPV c0 c1 K1h
  go_wp2_with fail
  refine bodyPost_ret (v:=.tuple #[.string (⟨#[91]⟩++S++⟨#[93]⟩),.int .i64 0]) (by simp[results,Tryz.results79,go_sem]) rfl ⟨by rw[HV.out];unfold printV;rw[HF.out];rfl,KB2.out⟩
 have k2':(h.k==2)=false:=by rw[beq_eq_false_iff_ne];exact k2
 by_cases k3:h.k=3
 ·have HV:Hid (print h=([91,73,80,118,54,58]++print6 h.a++[93],0)):=by show _=_;unfold print;rw[if_pos hck,if_neg k2,if_pos k3]
  rw[k3]at c0
  have HM:=host_mid K1h
  obtain⟨A,hA⟩:∃A,A=h.a.map fun n=>Value.int .u8 (n:Nat):=⟨_,rfl⟩
  have hAl:A.length=16:=by rw[hA,List.length_map,ha]
  rw[←hA]at HM
  have HMID:Hid (w1.rangeAt w.heap.size 2 A):=HM
  have hlen:=print6_len h.a ha ok.byt
  have HPV:Hid (Calls Tryz.prog 111 #[.agg A.toArray] w1 fun e w'=>e=.returned (.string ⟨(print6 h.a).toArray⟩)∧Below w1.heap.size w1 w'):=by
   rw[hA]
   exact printv6_any h.a ha ok.byt w1 (HT.out _ KB.out).t64
  generalize print6 h.a=ps at HV hlen HPV
  obtain⟨S,hS⟩:∃S:ByteArray,S=⟨ps.toArray⟩:=⟨_,rfl⟩
  have hSs:(S.size:Int)≤100:=by rw[hS];show((ps.toArray.size:Nat):Int)≤_;rw[List.size_toArray];omega
  have HF:Hid ((⟨([91,73,80,118,54,58]++ps++[93]).toArray⟩:ByteArray)=⟨#[91,73,80,118,54,58]⟩++S++⟨#[93]⟩):=by
   show _=_
   rw[hS,show(⟨#[91,73,80,118,54,58]⟩:ByteArray)=⟨([91,73,80,118,54,58]:List UInt8).toArray⟩ from rfl,show(⟨#[93]⟩:ByteArray)=⟨([93]:List UInt8).toArray⟩ from rfl,str_append,str_append]
  rw[←hS]at HPV
  have ad1:∀W,(Op.stringOp .add ⟨#[91,73,80,118,54,58]⟩ S).run Tryz.prog W=.ok (.string (⟨#[91,73,80,118,54,58]⟩++S)) W:=fun W=>run_string_add _ _ _ (by decide) (by omega)
  have ad2:∀W,(Op.stringOp .add (⟨#[91,73,80,118,54,58]⟩++S) ⟨#[93]⟩).run Tryz.prog W=.ok (.string (⟨#[91,73,80,118,54,58]⟩++S++⟨#[93]⟩)) W:=fun W=>run_string_add _ _ _ (by rw[ByteArray.size_append];show((6+S.size:Nat):Int)≤_;omega) (by decide)
  clear HM k2 k3 hck hS hSs hlen hA
  go_wp2_with (refine wpList_load_mid rfl 23 _ rfl w.heap.size 2 rfl A _ HMID.out Tryz.underlying23 rfl (by rw[hAl];exact info16) ?_)
  refine HPV.out.mono ?_
  rintro e w2 ⟨rfl,hb2⟩
  have KB2:Hid (Below w.heap.size w w2):=KB.out.trans (hb2.mono (Nat.le_of_lt hz1))
  clear hb2 HPV c0 c1 K1h
  go_wp2_with fail
  refine bodyPost_ret (v:=.tuple #[.string (⟨#[91,73,80,118,54,58]⟩++S++⟨#[93]⟩),.int .i64 0]) (by simp[results,Tryz.results79,go_sem]) rfl ⟨by rw[HV.out];unfold printV;rw[HF.out];rfl,KB2.out⟩
 have k3':(h.k==3)=false:=by rw[beq_eq_false_iff_ne];exact k3
 obtain⟨S,hS⟩:∃S:ByteArray,S=⟨h.n.toArray⟩:=⟨_,rfl⟩
 rw[←hS]at c1
 by_cases k4:h.k=4
 ·have HV:Hid (print h=([91]++h.n++[93],0)):=by show _=_;unfold print;rw[if_pos hck,if_neg k2,if_neg k3,if_pos k4]
  rw[k4]at c0
  have hnl:h.n.length≤253:=by
   have:=(check_tag k4 hck).2
   unfold chTag at this
   rcases Nat.lt_or_ge 253 h.n.length with hl|hl
   ·rw[if_pos hl]at this;cases this
   ·exact hl
  have hSs:(S.size:Int)≤253:=by rw[hS];show((h.n.toArray.size:Nat):Int)≤_;rw[List.size_toArray];omega
  have HF:Hid ((⟨([91]++h.n++[93]).toArray⟩:ByteArray)=⟨#[91]⟩++S++⟨#[93]⟩):=by
   show _=_
   rw[hS,show(⟨#[91]⟩:ByteArray)=⟨([91]:List UInt8).toArray⟩ from rfl,show(⟨#[93]⟩:ByteArray)=⟨([93]:List UInt8).toArray⟩ from rfl,str_append,str_append]
  have ad1:∀W,(Op.stringOp .add ⟨#[91]⟩ S).run Tryz.prog W=.ok (.string (⟨#[91]⟩++S)) W:=fun W=>run_string_add _ _ _ (by decide) (by omega)
  have ad2:∀W,(Op.stringOp .add (⟨#[91]⟩++S) ⟨#[93]⟩).run Tryz.prog W=.ok (.string (⟨#[91]⟩++S++⟨#[93]⟩)) W:=fun W=>run_string_add _ _ _ (by rw[ByteArray.size_append];show((1+S.size:Nat):Int)≤_;omega) (by decide)
  clear k2 k3 k4 hck hS hSs hnl
  go_wp2_with fail
  refine bodyPost_ret (v:=.tuple #[.string (⟨#[91]⟩++S++⟨#[93]⟩),.int .i64 0]) (by simp[results,Tryz.results79,go_sem]) rfl ⟨by rw[HV.out];unfold printV;rw[HF.out];rfl,KB.out⟩
 have k4':(h.k==4)=false:=by rw[beq_eq_false_iff_ne];exact k4
 have HV:Hid (print h=(h.n,0)):=by show _=_;unfold print;rw[if_pos hck,if_neg k2,if_neg k3,if_neg k4]
 have HSS:Hid (S=⟨h.n.toArray⟩):=hS
 clear k2 k3 k4 hck hS
 go_wp2_with fail
 refine bodyPost_ret (v:=.tuple #[.string S,.int .i64 0]) (by simp[results,Tryz.results79,go_sem]) rfl ⟨by rw[HV.out,HSS.out];rfl,KB.out⟩
open Go.RowKit
def cellsN (k:IntKind) (l:List Int):List Value:=l.map fun x=>Value.int k x
def Nts (k:IntKind) (a:Option Addr) (l:List Int) (w:World):Prop:=l=[]∨∃g o,a=some ⟨g,o,none⟩∧g<w.heap.size∧∀j,(h:j<l.length)→w.cell? ⟨g,o+j,none⟩=some (.int k l[j])
theorem Nts.below {k:IntKind} {a:Option Addr} {l:List Int} {w w':World} (h:Nts k a l w) (hb:Below w.heap.size w w'):Nts k a l w':=by
 rcases h with h|⟨g,o,e,hg,hr⟩
 ·exact .inl h
 ·exact .inr ⟨g,o,e,Nat.lt_of_lt_of_le hg hb.size,fun j hj=>(hb.cell (p:=⟨g,o+j,none⟩) hg).trans (hr j hj)⟩
theorem Nts.cell {k:IntKind} {a:Option Addr} {l:List Int} {w:World} (h:Nts k a l w) (j:Nat) (hj:j<l.length):∃g o,a=some ⟨g,o,none⟩∧g<w.heap.size∧w.cell? ⟨g,o+j,none⟩=some (.int k l[j]):=by
 rcases h with rfl|⟨g,o,e,hg,hr⟩
 ·simp at hj
 ·exact⟨g,o,e,hg,hr j hj⟩
theorem Nts.but {k:IntKind} {g:Nat} {a:Option Addr} {l:List Int} {w w':World} (hb:Nts k a l w) (h:But g w w') (hne:∀ad,a=some ad→ad.block≠g):Nts k a l w':=by
 rcases hb with hb|⟨b,o,e,hb,hr⟩
 ·exact .inl hb
 ·exact .inr ⟨b,o,e,Nat.lt_of_lt_of_le hb h.size,fun j hj=>(World.cell?_of_block (w:=w) (a:=⟨b,o+j,none⟩) (h.block b hb (hne _ e))).trans (hr j hj)⟩
theorem ownN_keep {w w':World} {B n e m:Nat} {v:Value} {xs:List Value} (h:w.ownsRow B e m v n xs) (hb:∀k,v.ownBlock=some k→w'.heap[k]?=w.heap[k]?):w'.ownsRow B e m v n xs:=by
 obtain⟨h1,h2⟩:=h
 refine⟨h1,?_⟩
 rcases h2 with h2|⟨g,cap,cur,rfl,hB,hg,hr⟩
 ·exact .inl h2
 ·exact .inr ⟨g,cap,cur,rfl,hB,by rw[hb g rfl];exact hg,hr⟩
theorem ownN_below {w w':World} {B n e m:Nat} {v:Value} {xs:List Value} (h:w.ownsRow B e m v n xs) (hb:Below w.heap.size w w'):w'.ownsRow B e m v n xs:=ownN_keep h (fun k hk=>hb.block k (h.lt k hk).2)
end Go.Proofs.YtfjpkfhbmldmfaaGreatDoor
