/-
  Mailboxes compared; the contract of head.
-/
import Derived.Test.YtfjpkfhbmldmfabGreatDoorXt9
import Derived.Test.YtfjpkfhbmldmfabGreatDoorUtfE
import Derived.Test.YtfjpkfhbmldmfabGreatDoorChk
import Derived.Laws.OwnMore
namespace Go.Proofs.YtfjpkfhbmldmfabGreatDoor
open Go.RowKit
theorem pthC_one9 (k:Int) (sl:Value) (l:List UInt8) (h:Ho) (hs:sl.oneCell'=true):(pthC k sl l h).all (·.oneCell')=true:=by
 rw[pth_box,Array.all_append,boxC_one]
 simp[Value.oneCell']
 exact hs
theorem pthC_024 (k:Int) (sl:Value) (l:List UInt8) (h:Ho):(pthC k sl l h)[0]?=some (.int .i64 k)∧(pthC k sl l h)[1]?=some sl∧(pthC k sl l h)[2]?=some (.string (txt l))∧(pthC k sl l h)[3]?=some (.int .i64 h.k)∧(pthC k sl l h)[4]?=some (.string (txt h.n)):=by
 unfold pthC hostC txt
 simp
def annH:Ho:=⟨1,[97,46,101,120,97,109,112,108,101],z16⟩
theorem head_pth:pth false true [60,97,110,110,64,97,46,101,120,97,109,112,108,101,62,32,83,73,90,69,61,51]=.ok (⟨3,[],[97,110,110],annH⟩,15):=by kernel_rfl
set_option maxHeartbeats 4000000 in
set_option maxRecDepth 100000 in
theorem head_any (w:World) (hT:Td w) (h10:10≤w.heap.size):Calls Tryz.prog 7 #[] w fun e w'=>e=.returned (.bool true)∧Below w.heap.size w w':=by
 have HR:Hid (∀wx,Below w.heap.size w wx→Calls Tryz.prog 10 #[.string ⟨#[60,97,110,110,64,97,46,101,120,97,109,112,108,101,62,32,83,73,90,69,61,51]⟩,.bool false] wx fun e w'=>∃sl,sl.oneCell'=true∧e=.returned (.tuple #[.agg (pthC 3 sl [97,110,110] annH),.int .i64 15,.agg #[.int .i64 0,.int .i64 0]])∧Below wx.heap.size wx w'):=fun wx hx=>by
  refine Calls.mono (rev_any ⟨#[60,97,110,110,64,97,46,101,120,97,109,112,108,101,62,32,83,73,90,69,61,51]⟩ (by decide) false wx (hT.below hx) (Nat.le_trans h10 hx.size)) ?_
  rintro e w' ⟨v,rfl,hv,hb⟩
  have e1:pth false true (⟨#[60,97,110,110,64,97,46,101,120,97,109,112,108,101,62,32,83,73,90,69,61,51]⟩:ByteArray).data.toList=.ok (⟨3,[],[97,110,110],annH⟩,15):=head_pth
  rw[e1]at hv
  obtain⟨sl,rfl,ho⟩:=hv
  obtain⟨sa,sc,hsl⟩:=ownH_len ho
  exact⟨sl,by rw[hsl];rfl,rfl,hb⟩
 go_enter Tryz.func7,Tryz.ntmps7
 go_upto_region 1 with fail
 go_wp2_with fail
 refine Calls.mono (HR.out _ (Below.refl _ _)) ?_
 rintro e y ⟨sl,hs1,rfl,hc⟩
 obtain⟨VP,hVP⟩:∃VP,VP=pthC 3 sl [97,110,110] annH:=⟨_,rfl⟩
 rw[←hVP]
 have zp:Hid (VP.size=21):=by rw[hVP];exact pthC_size _ _ _ _ rfl
 have op:Hid (VP.all (·.oneCell')=true):=by rw[hVP];exact pthC_one9 _ _ _ _ hs1
 have p0:Hid (VP[0]?=some (.int .i64 3)):=by rw[hVP];exact(pthC_024 _ _ _ _).1
 have p2:Hid (VP[2]?=some (.string ⟨#[97,110,110]⟩)):=by rw[hVP];exact(pthC_024 _ _ _ _).2.2.1
 have p4:Hid (VP[4]?=some (.string ⟨#[97,46,101,120,97,109,112,108,101]⟩)):=by rw[hVP];exact(pthC_024 _ _ _ _).2.2.2.2
 clear hVP hs1
 have KB:Hid (Below w.heap.size w y):=hc
 clear hc HR hT h10
 have A:Hid (Lies ((y.alloc (.cells #[.int .i64 0,.slice none 0 0,.string ⟨#[]⟩,.int .i64 0,.string ⟨#[]⟩,.int .u8 0,.int .u8 0,.int .u8 0,.int .u8 0,.int .u8 0,.int .u8 0,.int .u8 0,.int .u8 0,.int .u8 0,.int .u8 0,.int .u8 0,.int .u8 0,.int .u8 0,.int .u8 0,.int .u8 0,.int .u8 0] 32)).alloc (.cells #[.int .i64 0,.int .i64 0] 35)) y.heap.size #[.int .i64 0,.slice none 0 0,.string ⟨#[]⟩,.int .i64 0,.string ⟨#[]⟩,.int .u8 0,.int .u8 0,.int .u8 0,.int .u8 0,.int .u8 0,.int .u8 0,.int .u8 0,.int .u8 0,.int .u8 0,.int .u8 0,.int .u8 0,.int .u8 0,.int .u8 0,.int .u8 0,.int .u8 0,.int .u8 0] 32):=(Lies.new y _ _).alloc _
 have B:Hid (Lies ((y.alloc (.cells #[.int .i64 0,.slice none 0 0,.string ⟨#[]⟩,.int .i64 0,.string ⟨#[]⟩,.int .u8 0,.int .u8 0,.int .u8 0,.int .u8 0,.int .u8 0,.int .u8 0,.int .u8 0,.int .u8 0,.int .u8 0,.int .u8 0,.int .u8 0,.int .u8 0,.int .u8 0,.int .u8 0,.int .u8 0,.int .u8 0] 32)).alloc (.cells #[.int .i64 0,.int .i64 0] 35)) (y.heap.size+1) #[.int .i64 0,.int .i64 0] 35):=new_one y _ _ _
 have M:Hid (Lies ((((y.alloc (.cells #[.int .i64 0,.slice none 0 0,.string ⟨#[]⟩,.int .i64 0,.string ⟨#[]⟩,.int .u8 0,.int .u8 0,.int .u8 0,.int .u8 0,.int .u8 0,.int .u8 0,.int .u8 0,.int .u8 0,.int .u8 0,.int .u8 0,.int .u8 0,.int .u8 0,.int .u8 0,.int .u8 0,.int .u8 0,.int .u8 0] 32)).alloc (.cells #[.int .i64 0,.int .i64 0] 35)).setRow y.heap.size VP).setRow (y.heap.size+1) #[.int .i64 0,.int .i64 0]) y.heap.size VP 32):=(A.out.row _).row_other (by omega) _
 have N:Hid (Lies ((((y.alloc (.cells #[.int .i64 0,.slice none 0 0,.string ⟨#[]⟩,.int .i64 0,.string ⟨#[]⟩,.int .u8 0,.int .u8 0,.int .u8 0,.int .u8 0,.int .u8 0,.int .u8 0,.int .u8 0,.int .u8 0,.int .u8 0,.int .u8 0,.int .u8 0,.int .u8 0,.int .u8 0,.int .u8 0,.int .u8 0,.int .u8 0] 32)).alloc (.cells #[.int .i64 0,.int .i64 0] 35)).setRow y.heap.size VP).setRow (y.heap.size+1) #[.int .i64 0,.int .i64 0]) (y.heap.size+1) #[.int .i64 0,.int .i64 0] 35):=(B.out.row_other (by omega) _).row _
 have BB:Hid (Below w.heap.size w ((((y.alloc (.cells #[.int .i64 0,.slice none 0 0,.string ⟨#[]⟩,.int .i64 0,.string ⟨#[]⟩,.int .u8 0,.int .u8 0,.int .u8 0,.int .u8 0,.int .u8 0,.int .u8 0,.int .u8 0,.int .u8 0,.int .u8 0,.int .u8 0,.int .u8 0,.int .u8 0,.int .u8 0,.int .u8 0,.int .u8 0,.int .u8 0] 32)).alloc (.cells #[.int .i64 0,.int .i64 0] 35)).setRow y.heap.size VP).setRow (y.heap.size+1) #[.int .i64 0,.int .i64 0])):=KB.out.trans ((below_row (below_row (((Below.refl _ _).alloc (Nat.le_refl _) _).alloc (by simp) _) (Nat.le_refl _) _) (by omega) _:Below y.heap.size y _).mono KB.out.size)
 clear KB
 go_upto_region 2 with(first|(refine wpList_store_row rfl 32 _ _ rfl y.heap.size rfl #[.int .i64 0,.slice none 0 0,.string ⟨#[]⟩,.int .i64 0,.string ⟨#[]⟩,.int .u8 0,.int .u8 0,.int .u8 0,.int .u8 0,.int .u8 0,.int .u8 0,.int .u8 0,.int .u8 0,.int .u8 0,.int .u8 0,.int .u8 0,.int .u8 0,.int .u8 0,.int .u8 0,.int .u8 0,.int .u8 0] VP rfl 32 A.out (by rw[zp.out];exact infoPt) (by rw[zp.out];rfl) op.out rfl ?_)|(refine wpList_store_row rfl 35 _ _ rfl (y.heap.size+1) rfl #[.int .i64 0,.int .i64 0] #[.int .i64 0,.int .i64 0] rfl 35 (B.out.row_other (by omega) _) infoSp rfl (by simp[Value.oneCell']) rfl ?_))
 generalize hv:(((y.alloc (.cells #[.int .i64 0,.slice none 0 0,.string ⟨#[]⟩,.int .i64 0,.string ⟨#[]⟩,.int .u8 0,.int .u8 0,.int .u8 0,.int .u8 0,.int .u8 0,.int .u8 0,.int .u8 0,.int .u8 0,.int .u8 0,.int .u8 0,.int .u8 0,.int .u8 0,.int .u8 0,.int .u8 0,.int .u8 0,.int .u8 0] 32)).alloc (.cells #[.int .i64 0,.int .i64 0] 35)).setRow y.heap.size VP).setRow (y.heap.size+1) #[.int .i64 0,.int .i64 0]=v at M N BB ⊢
 clear hv A B
 have c0:v.cell? ⟨y.heap.size,0,none⟩=some (.int .i64 3):=(M.out.cell 0).trans p0.out
 have c2:v.cell? ⟨y.heap.size,2,none⟩=some (.string ⟨#[97,110,110]⟩):=(M.out.cell 2).trans p2.out
 have c4:v.cell? ⟨y.heap.size,4,none⟩=some (.string ⟨#[97,46,101,120,97,109,112,108,101]⟩):=(M.out.cell 4).trans p4.out
 go_wp2_with (refine wpList_load_row9 (by rfl) 35 _ rfl (y.heap.size+1) rfl #[.int .i64 0,.int .i64 0] 35 _ N.out Tryz.underlying35 rfl infoSp ?_)
 go_ret
 exact⟨rfl,BB.out⟩
open Go.RowKit
def cellsN (k:IntKind) (l:List Int):List Value:=l.map fun x=>Value.int k x
theorem cellsN_length (k:IntKind) (l:List Int):(cellsN k l).length=l.length:=by simp[cellsN]
theorem cellsN_append (k:IntKind) (l r:List Int):cellsN k (l++r)=cellsN k l++cellsN k r:=by simp[cellsN]
theorem cellsN_at (k:IntKind) (l:List Int) (j:Nat) (h:j<l.length):(cellsN k l)[j]?=some (.int k l[j]):=by simp[cellsN,List.getElem?_eq_getElem h]
theorem cellsN_one (k:IntKind) (l:List Int):∀v∈cellsN k l,v.oneCell'=true:=by
 intro v hv
 simp only[cellsN,List.mem_map]at hv
 obtain⟨b,_,rfl⟩:=hv
 rfl
def Nts (k:IntKind) (a:Option Addr) (l:List Int) (w:World):Prop:=l=[]∨∃g o,a=some ⟨g,o,none⟩∧g<w.heap.size∧∀j,(h:j<l.length)→w.cell? ⟨g,o+j,none⟩=some (.int k l[j])
theorem Nts.below {k:IntKind} {a:Option Addr} {l:List Int} {w w':World} (h:Nts k a l w) (hb:Below w.heap.size w w'):Nts k a l w':=by
 rcases h with h|⟨g,o,e,hg,hr⟩
 ·exact .inl h
 ·exact .inr ⟨g,o,e,Nat.lt_of_lt_of_le hg hb.size,fun j hj=>(hb.cell (p:=⟨g,o+j,none⟩) hg).trans (hr j hj)⟩
theorem Nts.cell {k:IntKind} {a:Option Addr} {l:List Int} {w:World} (h:Nts k a l w) (j:Nat) (hj:j<l.length):∃g o,a=some ⟨g,o,none⟩∧g<w.heap.size∧w.cell? ⟨g,o+j,none⟩=some (.int k l[j]):=by
 rcases h with rfl|⟨g,o,e,hg,hr⟩
 ·simp at hj
 ·exact⟨g,o,e,hg,hr j hj⟩
theorem Nts.but {k:IntKind} {g:Nat} {a:Option Addr} {l:List Int} {w w':World} (hb:Nts k a l w) (h:But g w w') (hne:∀ad,a=some ad→ad.block≠g):Nts k a l w':=by
 rcases hb with hb|⟨b,o,e,hb,hr⟩
 ·exact .inl hb
 ·exact .inr ⟨b,o,e,Nat.lt_of_lt_of_le hb h.size,fun j hj=>(World.cell?_of_block (w:=w) (a:=⟨b,o+j,none⟩) (h.block b hb (hne _ e))).trans (hr j hj)⟩
theorem nts_news {k:IntKind} {ad:Addr} {l:List Int} {w:World} (h:Nts k (some ad) l w):∀j u,(cellsN k l)[j]?=some u→w.cell? (ad.add j)=some u:=by
 intro j u hu
 have hj:j<l.length:=by
  have:=(List.getElem?_eq_some_iff.1 hu).1
  simpa [cellsN] using this
 obtain⟨g,o,e,_,hc⟩:=h.cell j hj
 injection e with e
 subst e
 rw[Addr.add_lit,hc,←hu,cellsN_at k l j hj]
theorem own_nts {w:World} {k:IntKind} {base n e:Nat} {v:Value} {l:List Int} (h:w.ownsRow base e 1 v n (cellsN k l)):∃a cap,v=.slice a n cap∧Nts k a l w∧l.length=n∧(a=none→cap=0)∧n≤cap∧∀ad,a=some ad→base≤ad.block∧ad.block<w.heap.size∧ad.off=0∧ad.spot=none:=by
 obtain⟨h1,h2⟩:=id h
 have hl:l.length=n:=by rw[cellsN_length]at h1;omega
 rcases h2 with⟨rfl,h0⟩|⟨g,cap,cur,rfl,hb,hg,hcap,_⟩
 ·exact⟨none,0,by rw[h0],.inl (List.eq_nil_of_length_eq_zero (hl.trans h0)),hl,fun _=>rfl,by omega,fun ad e=>by cases e⟩
 ·refine⟨_,cap,rfl,.inr ⟨g,0,rfl,(Array.getElem?_eq_some_iff.1 hg).1,fun j hj=>?_⟩,hl,(fun e=>by cases e),hcap,fun ad e=>?_⟩
  ·have:=h.cellAt j (by omega)
   rw[Nat.zero_add,this,cellsN_at k l j hj]
  ·injection e with e
   subst e
   exact⟨hb,(Array.getElem?_eq_some_iff.1 hg).1,rfl,rfl⟩
theorem ownN_keep {w w':World} {B n e m:Nat} {v:Value} {xs:List Value} (h:w.ownsRow B e m v n xs) (hb:∀k,v.ownBlock=some k→w'.heap[k]?=w.heap[k]?):w'.ownsRow B e m v n xs:=by
 obtain⟨h1,h2⟩:=h
 refine⟨h1,?_⟩
 rcases h2 with h2|⟨g,cap,cur,rfl,hB,hg,hr⟩
 ·exact .inl h2
 ·exact .inr ⟨g,cap,cur,rfl,hB,by rw[hb g rfl];exact hg,hr⟩
theorem ownN_apart {w:World} {B n e m g t:Nat} {v:Value} {xs:List Value} {cs:Array Value} (h:w.ownsRow B e m v n xs) (hl:Lies w g cs t) (ht:t≠e):∀k,v.ownBlock=some k→k≠g:=by
 intro k hk e
 subst e
 rcases h.2 with⟨rfl,_⟩|⟨g',cap,cur,rfl,hB,hg,_⟩
 ·cases hk
 ·injection hk with hk
  subst hk
  exact ht (lies_kind hl hg)
theorem ownN_shape {w:World} {base n e m:Nat} {v:Value} {xs:List Value} (h:w.ownsRow base e m v n xs):∃a cap,v=.slice a n cap:=by
 rcases h.2 with⟨rfl,h0⟩|⟨g,cap,cur,hv,_⟩
 ·exact⟨none,0,by rw[h0]⟩
 ·exact⟨_,_,hv⟩
theorem one_nts (w:World) (t:TypeId) (k:IntKind) (x:Int):Nts k (some ⟨w.heap.size,0,none⟩) [x] (w.alloc (.cells #[.int k x] t)):=
 .inr ⟨w.heap.size,0,rfl,by simp,fun j hj=>by
  obtain rfl:j=0:=by simpa using hj
  simp⟩
theorem wpList_append_num {ops:Array Oper} {rest:List Oper} {o:Oper} {a:Act} {w:World} {Q:Exit→Act→World→Prop} (hgd:o.guard=none) (s x:Operand) (T e by':Nat) (k:IntKind)
  (hT:Tryz.prog.underlying T=some (.slice e)) (hI:(Tryz.prog.info? e).map (fun i=>(i.zero,i.size,i.bytes))=some (some (.int k 0),1,by')) (hby:0<by')
  (ho:o.op=.call {callee:=.builtin .append,args:=#[s,x],argTypes:=#[T,T]}) (base:Nat) (v:Value) (n:Nat) (xs:List Int) (hs:a.eval s=v) (hown:w.ownsRow base e 1 v n (cellsN k xs))
  (ad:Addr) (y:Int) (c:Nat) (hx:a.eval x=.slice (some ad) 1 c) (hb:Nts k (some ad) [y] w) (hbytes:(n+1)*by'≤140737488355328) (hbase:base≤w.heap.size)
  (h:∀v' w',w'.ownsRow base e 1 v' (n+1) (cellsN k (xs++[y]))→w.grownBy w' v.ownBlock→wpList Tryz.prog ops Q rest (a.put o.dst v') w'):wpList Tryz.prog ops Q (o::rest) a w:=by
 obtain⟨i0,hi,hz0,hz1,hz2⟩:=info_parts hI
 have hn:n+1≤140737488355328:=Nat.le_trans (Nat.le_mul_of_pos_right _ hby) hbytes
 refine wpList_append_own _ hgd s x T ho base e i0 (.int k 0) 1 by' hT hi hz0 hz1 hz2 rfl (by decide) v n _ hs hown ad 1 c (cellsN k [y]) hx (by rw[cellsN_length];rfl) (nts_news hb) (cellsN_one k _) (by unfold maxLen;omega) hbytes hbase ?_
 intro v' w' hown' hgrow _
 exact h v' w' (by rw[cellsN_append];exact hown') hgrow
theorem own_nilN (w:World) (B e:Nat) (k:IntKind):w.ownsRow B e 1 (.slice none 0 0) 0 (cellsN k []):=⟨rfl,.inl ⟨rfl,rfl⟩⟩
theorem madeN (k:IntKind) (n:Nat):(madeCells #[Value.int k 0] n).toList=cellsN k (List.replicate n 0):=by
 apply List.ext_getElem?
 intro i
 by_cases h:i<n
 ·simp[madeCells,cellsN,h,Nat.mod_one]
 ·rw[List.getElem?_eq_none (by simp[madeCells];omega),List.getElem?_eq_none (by simp[cellsN];omega)]
theorem make_roomN (w:World) (T e by':Nat) (k:IntKind) (hT:Tryz.prog.underlying T=some (.slice e)) (hI:(Tryz.prog.info? e).map (fun i=>(i.zero,i.size,i.bytes))=some (some (.int k 0),1,by')) (hby:0<by')
  (n c:Nat) (x y:Int) (hx:x=(n:Int)) (hy:y=(c:Int)) (hc:n≤c) (hl:by'*c≤281474976710656) (base:Nat) (hb:base≤w.heap.size):
  ∃w',(Instr.makeSlice T (.int .i64 x) (.int .i64 y)).run Tryz.prog w=.ok (.slice (some ⟨w.heap.size,0,none⟩) n c) w'∧
   w'.ownsRow base e 1 (.slice (some ⟨w.heap.size,0,none⟩) n c) n (cellsN k (List.replicate n 0))∧Below w.heap.size w w'∧w'.heap.size=w.heap.size+1:=by
 subst hx hy
 obtain⟨i0,hi,hz0,hz1,hz2⟩:=info_parts hI
 have hcl:c≤281474976710656:=Nat.le_trans (Nat.le_mul_of_pos_left _ hby) hl
 have hr:=run_make (P:=Tryz.prog) w T e i0 (.int k 0) hT hi hz0 .i64 .i64 n c (by omega) (by omega) (by rw[hz2];first|omega|exact(by exact_mod_cast hl)|(rw[Nat.mul_comm];exact(by exact_mod_cast hl))) (by omega)
 rw[hz1,Nat.mul_one,Int.toNat_natCast,Int.toNat_natCast]at hr
 refine⟨_,hr,?_,(Below.refl _ _).alloc (Nat.le_refl _) _,by simp⟩
 refine⟨by rw[cellsN_length];simp,.inr ⟨w.heap.size,c,_,rfl,hb,heap_alloc_last w _,hc,by unfold maxLen;omega,by rw[size_madeCells,Nat.mul_one],?_⟩⟩
 show((madeCells #[Value.int k 0] c).toList).take (n*1)=_
 rw[madeN,Nat.mul_one]
 simp[cellsN,Nat.min_eq_left hc]
theorem infoR:(Tryz.prog.info? 21).map (fun i=>(i.zero,i.size,i.bytes))=some (some (.int .i32 0),1,4):=by kernel_rfl
theorem infoI:(Tryz.prog.info? 3).map (fun i=>(i.zero,i.size,i.bytes))=some (some (.int .i64 0),1,8):=by kernel_rfl
end Go.Proofs.YtfjpkfhbmldmfabGreatDoor
