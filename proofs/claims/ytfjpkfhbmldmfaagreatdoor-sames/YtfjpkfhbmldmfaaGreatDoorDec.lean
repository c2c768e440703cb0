/-
  Mailboxes compared; the contract of head.
-/
import Derived.Test.YtfjpkfhbmldmfaaGreatDoorXt9
import Derived.Test.YtfjpkfhbmldmfaaGreatDoorDmW
import Derived.Test.YtfjpkfhbmldmfaaGreatDoorChk
import Derived.Laws.OwnMore
import Derived.Test.YtfjpkfhbmldmfaaGreatDoorBase
import Derived.Shelf.Strings.Builder1
import Derived.Test.YtfjpkfhbmldmfaaGreatDoorProg
import Derived.Lib.OthersKept
import Derived.Test.YtfjpkfhbmldmfaaGreatDoorLate5
import Derived.Lib.RuneCount
namespace Go.Proofs.YtfjpkfhbmldmfaaGreatDoor
open Go.RowKit
theorem exec_eql_host {op:Oper} {a:Act} {w:World} (p q:Operand) (r:TypeId) (ho:op.op=.binOp .eql 25 p q r) (x y:Ho) (hp:a.eval p=hostV x) (hq:a.eval q=hostV y) (hx:x.a.length=16) (hy:y.a.length=16):(execOp a.eval op).run Tryz.prog w=.ok (.value (.bool (decide (x=y)))) w:=by
 have hgu:Tryz.prog.eqGuardType Tryz.prog.depth 25=false:=by kernel_rfl
 have h:=eqlHost x y hx hy w
 have hg:=run_eqGuard_agg (P:=Tryz.prog) w .eql 25 p q (hostC x) (hostC y) hgu
 unfold hostV at*
 unfold execOp
 simp only[ho,hp,hq,Sem.run_bind,hg,Result.andThen_ok,h,Sem.run_pure]
theorem pthC_one9 (k:Int) (sl:Value) (l:List UInt8) (h:Ho) (hs:sl.oneCell'=true):(pthC k sl l h).all (·.oneCell')=true:=by
 rw[pth_box,Array.all_append,boxC_one]
 simp[Value.oneCell']
 exact hs
theorem pthC_024 (k:Int) (sl:Value) (l:List UInt8) (h:Ho):(pthC k sl l h)[0]?=some (.int .i64 k)∧(pthC k sl l h)[1]?=some sl∧(pthC k sl l h)[2]?=some (.string (txt l))∧(pthC k sl l h)[3]?=some (.int .i64 h.k)∧(pthC k sl l h)[4]?=some (.string (txt h.n)):=by
 unfold pthC hostC txt
 simp
def annH:Ho:=⟨1,[97,46,101,120,97,109,112,108,101],z16⟩
theorem head_pth:pth false true [60,97,110,110,64,97,46,101,120,97,109,112,108,101,62,32,83,73,90,69,61,51]=.ok (⟨3,[],[97,110,110],annH⟩,15):=by kernel_rfl
set_option maxHeartbeats 4000000 in
set_option maxRecDepth 100000 in
theorem head_any (w:World) (hT:Td w) (h10:10≤w.heap.size):Calls Tryz.prog 11 #[] w fun e w'=>e=.returned (.bool true)∧Below w.heap.size w w':=by
 have HR:Hid (∀wx,Below w.heap.size w wx→Calls Tryz.prog 14 #[.string ⟨#[60,97,110,110,64,97,46,101,120,97,109,112,108,101,62,32,83,73,90,69,61,51]⟩,.bool false] wx fun e w'=>∃sl,sl.oneCell'=true∧e=.returned (.tuple #[.agg (pthC 3 sl [97,110,110] annH),.int .i64 15,.agg #[.int .i64 0,.int .i64 0]])∧Below wx.heap.size wx w'):=fun wx hx=>by
  refine Calls.mono (rev_any ⟨#[60,97,110,110,64,97,46,101,120,97,109,112,108,101,62,32,83,73,90,69,61,51]⟩ (by decide) false wx (hT.below hx) (Nat.le_trans h10 hx.size)) ?_
  rintro e w' ⟨v,rfl,hv,hb⟩
  have e1:pth false true (⟨#[60,97,110,110,64,97,46,101,120,97,109,112,108,101,62,32,83,73,90,69,61,51]⟩:ByteArray).data.toList=.ok (⟨3,[],[97,110,110],annH⟩,15):=head_pth
  rw[e1]at hv
  obtain⟨sl,rfl,ho⟩:=hv
  obtain⟨sa,sc,hsl⟩:=ownH_len ho
  exact⟨sl,by rw[hsl];rfl,rfl,hb⟩
 go_enter Tryz.func11,Tryz.ntmps11
 go_upto_region 1 with fail
 go_wp2_with fail
 refine Calls.mono (HR.out _ (Below.refl _ _)) ?_
 rintro e y ⟨sl,hs1,rfl,hc⟩
 obtain⟨VP,hVP⟩:∃VP,VP=pthC 3 sl [97,110,110] annH:=⟨_,rfl⟩
 rw[←hVP]
 have zp:Hid (VP.size=21):=by rw[hVP];exact pthC_size _ _ _ _ rfl
 have op:Hid (VP.all (·.oneCell')=true):=by rw[hVP];exact pthC_one9 _ _ _ _ hs1
 have p0:Hid (VP[0]?=some (.int .i64 3)):=by rw[hVP];exact(pthC_024 _ _ _ _).1
 have p2:Hid (VP[2]?=some (.string ⟨#[97,110,110]⟩)):=by rw[hVP];exact(pthC_024 _ _ _ _).2.2.1
 have p4:Hid (VP[4]?=some (.string ⟨#[97,46,101,120,97,109,112,108,101]⟩)):=by rw[hVP];exact(pthC_024 _ _ _ _).2.2.2.2
 clear hVP hs1
 have KB:Hid (Below w.heap.size w y):=hc
 clear hc HR hT h10
 have A:Hid (Lies ((y.alloc (.cells #[.int .i64 0,.slice none 0 0,.string ⟨#[]⟩,.int .i64 0,.string ⟨#[]⟩,.int .u8 0,.int .u8 0,.int .u8 0,.int .u8 0,.int .u8 0,.int .u8 0,.int .u8 0,.int .u8 0,.int .u8 0,.int .u8 0,.int .u8 0,.int .u8 0,.int .u8 0,.int .u8 0,.int .u8 0,.int .u8 0] 29)).alloc (.cells #[.int .i64 0,.int .i64 0] 32)) y.heap.size #[.int .i64 0,.slice none 0 0,.string ⟨#[]⟩,.int .i64 0,.string ⟨#[]⟩,.int .u8 0,.int .u8 0,.int .u8 0,.int .u8 0,.int .u8 0,.int .u8 0,.int .u8 0,.int .u8 0,.int .u8 0,.int .u8 0,.int .u8 0,.int .u8 0,.int .u8 0,.int .u8 0,.int .u8 0,.int .u8 0] 29):=(Lies.new y _ _).alloc _
 have B:Hid (Lies ((y.alloc (.cells #[.int .i64 0,.slice none 0 0,.string ⟨#[]⟩,.int .i64 0,.string ⟨#[]⟩,.int .u8 0,.int .u8 0,.int .u8 0,.int .u8 0,.int .u8 0,.int .u8 0,.int .u8 0,.int .u8 0,.int .u8 0,.int .u8 0,.int .u8 0,.int .u8 0,.int .u8 0,.int .u8 0,.int .u8 0,.int .u8 0] 29)).alloc (.cells #[.int .i64 0,.int .i64 0] 32)) (y.heap.size+1) #[.int .i64 0,.int .i64 0] 32):=new_one y _ _ _
 have M:Hid (Lies ((((y.alloc (.cells #[.int .i64 0,.slice none 0 0,.string ⟨#[]⟩,.int .i64 0,.string ⟨#[]⟩,.int .u8 0,.int .u8 0,.int .u8 0,.int .u8 0,.int .u8 0,.int .u8 0,.int .u8 0,.int .u8 0,.int .u8 0,.int .u8 0,.int .u8 0,.int .u8 0,.int .u8 0,.int .u8 0,.int .u8 0,.int .u8 0] 29)).alloc (.cells #[.int .i64 0,.int .i64 0] 32)).setRow y.heap.size VP).setRow (y.heap.size+1) #[.int .i64 0,.int .i64 0]) y.heap.size VP 29):=(A.out.row _).row_other (by omega) _
 have N:Hid (Lies ((((y.alloc (.cells #[.int .i64 0,.slice none 0 0,.string ⟨#[]⟩,.int .i64 0,.string ⟨#[]⟩,.int .u8 0,.int .u8 0,.int .u8 0,.int .u8 0,.int .u8 0,.int .u8 0,.int .u8 0,.int .u8 0,.int .u8 0,.int .u8 0,.int .u8 0,.int .u8 0,.int .u8 0,.int .u8 0,.int .u8 0,.int .u8 0] 29)).alloc (.cells #[.int .i64 0,.int .i64 0] 32)).setRow y.heap.size VP).setRow (y.heap.size+1) #[.int .i64 0,.int .i64 0]) (y.heap.size+1) #[.int .i64 0,.int .i64 0] 32):=(B.out.row_other (by omega) _).row _
 have BB:Hid (Below w.heap.size w ((((y.alloc (.cells #[.int .i64 0,.slice none 0 0,.string ⟨#[]⟩,.int .i64 0,.string ⟨#[]⟩,.int .u8 0,.int .u8 0,.int .u8 0,.int .u8 0,.int .u8 0,.int .u8 0,.int .u8 0,.int .u8 0,.int .u8 0,.int .u8 0,.int .u8 0,.int .u8 0,.int .u8 0,.int .u8 0,.int .u8 0,.int .u8 0] 29)).alloc (.cells #[.int .i64 0,.int .i64 0] 32)).setRow y.heap.size VP).setRow (y.heap.size+1) #[.int .i64 0,.int .i64 0])):=KB.out.trans ((below_row (below_row (((Below.refl _ _).alloc (Nat.le_refl _) _).alloc (by simp) _) (Nat.le_refl _) _) (by omega) _:Below y.heap.size y _).mono KB.out.size)
 clear KB
 go_upto_region 2 with(first|(refine wpList_store_row rfl 29 _ _ rfl y.heap.size rfl #[.int .i64 0,.slice none 0 0,.string ⟨#[]⟩,.int .i64 0,.string ⟨#[]⟩,.int .u8 0,.int .u8 0,.int .u8 0,.int .u8 0,.int .u8 0,.int .u8 0,.int .u8 0,.int .u8 0,.int .u8 0,.int .u8 0,.int .u8 0,.int .u8 0,.int .u8 0,.int .u8 0,.int .u8 0,.int .u8 0] VP rfl 29 A.out (by rw[zp.out];exact infoPt) (by rw[zp.out];rfl) op.out rfl ?_)|(refine wpList_store_row rfl 32 _ _ rfl (y.heap.size+1) rfl #[.int .i64 0,.int .i64 0] #[.int .i64 0,.int .i64 0] rfl 32 (B.out.row_other (by omega) _) infoSp rfl (by simp[Value.oneCell']) rfl ?_))
 generalize hv:(((y.alloc (.cells #[.int .i64 0,.slice none 0 0,.string ⟨#[]⟩,.int .i64 0,.string ⟨#[]⟩,.int .u8 0,.int .u8 0,.int .u8 0,.int .u8 0,.int .u8 0,.int .u8 0,.int .u8 0,.int .u8 0,.int .u8 0,.int .u8 0,.int .u8 0,.int .u8 0,.int .u8 0,.int .u8 0,.int .u8 0,.int .u8 0] 29)).alloc (.cells #[.int .i64 0,.int .i64 0] 32)).setRow y.heap.size VP).setRow (y.heap.size+1) #[.int .i64 0,.int .i64 0]=v at M N BB ⊢
 clear hv A B
 have c0:v.cell? ⟨y.heap.size,0,none⟩=some (.int .i64 3):=(M.out.cell 0).trans p0.out
 have c2:v.cell? ⟨y.heap.size,2,none⟩=some (.string ⟨#[97,110,110]⟩):=(M.out.cell 2).trans p2.out
 have c4:v.cell? ⟨y.heap.size,4,none⟩=some (.string ⟨#[97,46,101,120,97,109,112,108,101]⟩):=(M.out.cell 4).trans p4.out
 go_wp2_with (refine wpList_load_row9 (by rfl) 32 _ rfl (y.heap.size+1) rfl #[.int .i64 0,.int .i64 0] 32 _ N.out Tryz.underlying32 rfl infoSp ?_)
 go_ret
 exact⟨rfl,BB.out⟩
open Go.RowKit
def cellsN (k:IntKind) (l:List Int):List Value:=l.map fun x=>Value.int k x
theorem cellsN_length (k:IntKind) (l:List Int):(cellsN k l).length=l.length:=by simp[cellsN]
theorem cellsN_append (k:IntKind) (l r:List Int):cellsN k (l++r)=cellsN k l++cellsN k r:=by simp[cellsN]
theorem cellsN_at (k:IntKind) (l:List Int) (j:Nat) (h:j<l.length):(cellsN k l)[j]?=some (.int k l[j]):=by simp[cellsN,List.getElem?_eq_getElem h]
theorem cellsN_one (k:IntKind) (l:List Int):∀v∈cellsN k l,v.oneCell'=true:=by
 intro v hv
 simp only[cellsN,List.mem_map]at hv
 obtain⟨b,_,rfl⟩:=hv
 rfl
def Nts (k:IntKind) (a:Option Addr) (l:List Int) (w:World):Prop:=l=[]∨∃g o,a=some ⟨g,o,none⟩∧g<w.heap.size∧∀j,(h:j<l.length)→w.cell? ⟨g,o+j,none⟩=some (.int k l[j])
theorem Nts.below {k:IntKind} {a:Option Addr} {l:List Int} {w w':World} (h:Nts k a l w) (hb:Below w.heap.size w w'):Nts k a l w':=by
 rcases h with h|⟨g,o,e,hg,hr⟩
 ·exact .inl h
 ·exact .inr ⟨g,o,e,Nat.lt_of_lt_of_le hg hb.size,fun j hj=>(hb.cell (p:=⟨g,o+j,none⟩) hg).trans (hr j hj)⟩
theorem Nts.cell {k:IntKind} {a:Option Addr} {l:List Int} {w:World} (h:Nts k a l w) (j:Nat) (hj:j<l.length):∃g o,a=some ⟨g,o,none⟩∧g<w.heap.size∧w.cell? ⟨g,o+j,none⟩=some (.int k l[j]):=by
 rcases h with rfl|⟨g,o,e,hg,hr⟩
 ·simp at hj
 ·exact⟨g,o,e,hg,hr j hj⟩
theorem Nts.but {k:IntKind} {g:Nat} {a:Option Addr} {l:List Int} {w w':World} (hb:Nts k a l w) (h:But g w w') (hne:∀ad,a=some ad→ad.block≠g):Nts k a l w':=by
 rcases hb with hb|⟨b,o,e,hb,hr⟩
 ·exact .inl hb
 ·exact .inr ⟨b,o,e,Nat.lt_of_lt_of_le hb h.size,fun j hj=>(World.cell?_of_block (w:=w) (a:=⟨b,o+j,none⟩) (h.block b hb (hne _ e))).trans (hr j hj)⟩
theorem nts_none {k:IntKind} {l:List Int} {w:World} (h:Nts k none l w):l=[]:=by
 rcases h with h|⟨g,o,e,_⟩
 ·exact h
 ·cases e
theorem nts_news {k:IntKind} {ad:Addr} {l:List Int} {w:World} (h:Nts k (some ad) l w):∀j u,(cellsN k l)[j]?=some u→w.cell? (ad.add j)=some u:=by
 intro j u hu
 have hj:j<l.length:=by
  have:=(List.getElem?_eq_some_iff.1 hu).1
  simpa [cellsN] using this
 obtain⟨g,o,e,_,hc⟩:=h.cell j hj
 injection e with e
 subst e
 rw[Addr.add_lit,hc,←hu,cellsN_at k l j hj]
theorem own_nts {w:World} {k:IntKind} {base n e:Nat} {v:Value} {l:List Int} (h:w.ownsRow base e 1 v n (cellsN k l)):∃a cap,v=.slice a n cap∧Nts k a l w∧l.length=n∧(a=none→cap=0)∧n≤cap∧∀ad,a=some ad→base≤ad.block∧ad.block<w.heap.size∧ad.off=0∧ad.spot=none:=by
 obtain⟨h1,h2⟩:=id h
 have hl:l.length=n:=by rw[cellsN_length]at h1;omega
 rcases h2 with⟨rfl,h0⟩|⟨g,cap,cur,rfl,hb,hg,hcap,_⟩
 ·exact⟨none,0,by rw[h0],.inl (List.eq_nil_of_length_eq_zero (hl.trans h0)),hl,fun _=>rfl,by omega,fun ad e=>by cases e⟩
 ·refine⟨_,cap,rfl,.inr ⟨g,0,rfl,(Array.getElem?_eq_some_iff.1 hg).1,fun j hj=>?_⟩,hl,(fun e=>by cases e),hcap,fun ad e=>?_⟩
  ·have:=h.cellAt j (by omega)
   rw[Nat.zero_add,this,cellsN_at k l j hj]
  ·injection e with e
   subst e
   exact⟨hb,(Array.getElem?_eq_some_iff.1 hg).1,rfl,rfl⟩
theorem ownN_keep {w w':World} {B n e m:Nat} {v:Value} {xs:List Value} (h:w.ownsRow B e m v n xs) (hb:∀k,v.ownBlock=some k→w'.heap[k]?=w.heap[k]?):w'.ownsRow B e m v n xs:=by
 obtain⟨h1,h2⟩:=h
 refine⟨h1,?_⟩
 rcases h2 with h2|⟨g,cap,cur,rfl,hB,hg,hr⟩
 ·exact .inl h2
 ·exact .inr ⟨g,cap,cur,rfl,hB,by rw[hb g rfl];exact hg,hr⟩
theorem ownN_below {w w':World} {B n e m:Nat} {v:Value} {xs:List Value} (h:w.ownsRow B e m v n xs) (hb:Below w.heap.size w w'):w'.ownsRow B e m v n xs:=ownN_keep h (fun k hk=>hb.block k (h.lt k hk).2)
theorem ownN_apart {w:World} {B n e m g t:Nat} {v:Value} {xs:List Value} {cs:Array Value} (h:w.ownsRow B e m v n xs) (hl:Lies w g cs t) (ht:t≠e):∀k,v.ownBlock=some k→k≠g:=by
 intro k hk e
 subst e
 rcases h.2 with⟨rfl,_⟩|⟨g',cap,cur,rfl,hB,hg,_⟩
 ·cases hk
 ·injection hk with hk
  subst hk
  exact ht (lies_kind hl hg)
theorem ownN_shape {w:World} {base n e m:Nat} {v:Value} {xs:List Value} (h:w.ownsRow base e m v n xs):∃a cap,v=.slice a n cap:=by
 rcases h.2 with⟨rfl,h0⟩|⟨g,cap,cur,hv,_⟩
 ·exact⟨none,0,by rw[h0]⟩
 ·exact⟨_,_,hv⟩
theorem one_nts (w:World) (t:TypeId) (k:IntKind) (x:Int):Nts k (some ⟨w.heap.size,0,none⟩) [x] (w.alloc (.cells #[.int k x] t)):=
 .inr ⟨w.heap.size,0,rfl,by simp,fun j hj=>by
  obtain rfl:j=0:=by simpa using hj
  simp⟩
theorem wpList_append_num {ops:Array Oper} {rest:List Oper} {o:Oper} {a:Act} {w:World} {Q:Exit→Act→World→Prop} (hgd:o.guard=none) (s x:Operand) (T e by':Nat) (k:IntKind)
  (hT:Tryz.prog.underlying T=some (.slice e)) (hI:(Tryz.prog.info? e).map (fun i=>(i.zero,i.size,i.bytes))=some (some (.int k 0),1,by')) (hby:0<by')
  (ho:o.op=.call {callee:=.builtin .append,args:=#[s,x],argTypes:=#[T,T]}) (base:Nat) (v:Value) (n:Nat) (xs:List Int) (hs:a.eval s=v) (hown:w.ownsRow base e 1 v n (cellsN k xs))
  (ad:Addr) (y:Int) (c:Nat) (hx:a.eval x=.slice (some ad) 1 c) (hb:Nts k (some ad) [y] w) (hbytes:(n+1)*by'≤140737488355328) (hbase:base≤w.heap.size)
  (h:∀v' w',w'.ownsRow base e 1 v' (n+1) (cellsN k (xs++[y]))→w.grownBy w' v.ownBlock→wpList Tryz.prog ops Q rest (a.put o.dst v') w'):wpList Tryz.prog ops Q (o::rest) a w:=by
 obtain⟨i0,hi,hz0,hz1,hz2⟩:=info_parts hI
 have hn:n+1≤140737488355328:=Nat.le_trans (Nat.le_mul_of_pos_right _ hby) hbytes
 refine wpList_append_own _ hgd s x T ho base e i0 (.int k 0) 1 by' hT hi hz0 hz1 hz2 rfl (by decide) v n _ hs hown ad 1 c (cellsN k [y]) hx (by rw[cellsN_length];rfl) (nts_news hb) (cellsN_one k _) (by unfold maxLen;omega) hbytes hbase ?_
 intro v' w' hown' hgrow _
 exact h v' w' (by rw[cellsN_append];exact hown') hgrow
theorem own_nilN (w:World) (B e:Nat) (k:IntKind):w.ownsRow B e 1 (.slice none 0 0) 0 (cellsN k []):=⟨rfl,.inl ⟨rfl,rfl⟩⟩
theorem madeN (k:IntKind) (n:Nat):(madeCells #[Value.int k 0] n).toList=cellsN k (List.replicate n 0):=by
 apply List.ext_getElem?
 intro i
 by_cases h:i<n
 ·simp[madeCells,cellsN,h,Nat.mod_one]
 ·rw[List.getElem?_eq_none (by simp[madeCells];omega),List.getElem?_eq_none (by simp[cellsN];omega)]
theorem make_roomN (w:World) (T e by':Nat) (k:IntKind) (hT:Tryz.prog.underlying T=some (.slice e)) (hI:(Tryz.prog.info? e).map (fun i=>(i.zero,i.size,i.bytes))=some (some (.int k 0),1,by')) (hby:0<by')
  (n c:Nat) (x y:Int) (hx:x=(n:Int)) (hy:y=(c:Int)) (hc:n≤c) (hl:by'*c≤281474976710656) (base:Nat) (hb:base≤w.heap.size):
  ∃w',(Instr.makeSlice T (.int .i64 x) (.int .i64 y)).run Tryz.prog w=.ok (.slice (some ⟨w.heap.size,0,none⟩) n c) w'∧
   w'.ownsRow base e 1 (.slice (some ⟨w.heap.size,0,none⟩) n c) n (cellsN k (List.replicate n 0))∧Below w.heap.size w w'∧w'.heap.size=w.heap.size+1:=by
 subst hx hy
 obtain⟨i0,hi,hz0,hz1,hz2⟩:=info_parts hI
 have hcl:c≤281474976710656:=Nat.le_trans (Nat.le_mul_of_pos_left _ hby) hl
 have hr:=run_make (P:=Tryz.prog) w T e i0 (.int k 0) hT hi hz0 .i64 .i64 n c (by omega) (by omega) (by rw[hz2];first|omega|exact(by exact_mod_cast hl)|(rw[Nat.mul_comm];exact(by exact_mod_cast hl))) (by omega)
 rw[hz1,Nat.mul_one,Int.toNat_natCast,Int.toNat_natCast]at hr
 refine⟨_,hr,?_,(Below.refl _ _).alloc (Nat.le_refl _) _,by simp⟩
 refine⟨by rw[cellsN_length];simp,.inr ⟨w.heap.size,c,_,rfl,hb,heap_alloc_last w _,hc,by unfold maxLen;omega,by rw[size_madeCells,Nat.mul_one],?_⟩⟩
 show((madeCells #[Value.int k 0] c).toList).take (n*1)=_
 rw[madeN,Nat.mul_one]
 simp[cellsN,Nat.min_eq_left hc]
theorem infoR:(Tryz.prog.info? 21).map (fun i=>(i.zero,i.size,i.bytes))=some (some (.int .i32 0),1,4):=by kernel_rfl
theorem infoI:(Tryz.prog.info? 3).map (fun i=>(i.zero,i.size,i.bytes))=some (some (.int .i64 0),1,8):=by kernel_rfl
open Go.RowKit
theorem own_shape {w:World} {base n:Nat} {v:Value} {xs:List Value} (h:w.ownsRow base 5 1 v n xs):∃a cap,v=.slice a n cap:=by
 rcases h.2 with⟨rfl,h0⟩|⟨g,cap,cur,hv,_⟩
 ·exact⟨none,0,by rw[h0]⟩
 ·exact⟨_,_,hv⟩
end Go.Proofs.YtfjpkfhbmldmfaaGreatDoor
namespace Go.Proofs
open Go.Shelf
def Tryz.lays170_ren:Go.Shelf.Ren:=⟨fun|170=>220|n=>n,fun|70=>143|3=>3|0=>0|72=>145|37=>98|5=>5|n=>n,fun|n=>n⟩
theorem Tryz.lays170:Go.Proofs.Lays.n170 Tryz.prog Tryz.lays170_ren:={
 mixed:=by kernel_rfl
 f170:=Tryz.func220.trans (congrArg some (by kernel_rfl))
 t0:=Tryz.underlying0
 a0:=Tryz.isAgg0
 z0:=Tryz.sizeOf0
 v0:=Tryz.zeroValue0
 t3:=Tryz.underlying3
 a3:=Tryz.isAgg3
 z3:=Tryz.sizeOf3
 v3:=Tryz.zeroValue3
 t37:=Tryz.underlying98
 a37:=Tryz.isAgg98
 z37:=Tryz.sizeOf98
 v37:=Tryz.zeroValue98
 t70:=Tryz.underlying143
 a70:=Tryz.isAgg143
 z70:=Tryz.sizeOf143
 v70:=Tryz.zeroValue143
 t72:=Tryz.underlying145
 a72:=Tryz.isAgg145
 z72:=Tryz.sizeOf145
 v72:=Tryz.zeroValue145}
open Go.RowKit in
theorem Tryz.Builder_Len (B b:Nat) (bs:List Value) (w:World) (h:Lib.IsBuilder 145 5 B b bs w):
 Calls Tryz.prog 220 #[.pointer (some ⟨b,0,none⟩)] w fun e w'=>e=.returned (.int .i64 bs.length)∧w'=w:=Any.Builder_Len Tryz.lays170 B b bs w h
def Tryz.lays169_ren:Go.Shelf.Ren:=⟨fun|169=>146|n=>n,fun|70=>143|9=>9|0=>0|72=>145|37=>98|127=>181|3=>3|5=>5|n=>n,fun|n=>n⟩
theorem Tryz.lays169:Go.Proofs.Lays.n169 Tryz.prog Tryz.lays169_ren:={
 mixed:=by kernel_rfl
 f169:=Tryz.func146.trans (congrArg some (by kernel_rfl))
 t0:=Tryz.underlying0
 a0:=Tryz.isAgg0
 z0:=Tryz.sizeOf0
 v0:=Tryz.zeroValue0
 t3:=Tryz.underlying3
 a3:=Tryz.isAgg3
 z3:=Tryz.sizeOf3
 v3:=Tryz.zeroValue3
 t9:=Tryz.underlying9
 a9:=Tryz.isAgg9
 z9:=Tryz.sizeOf9
 v9:=Tryz.zeroValue9
 t37:=Tryz.underlying98
 a37:=Tryz.isAgg98
 z37:=Tryz.sizeOf98
 v37:=Tryz.zeroValue98
 t70:=Tryz.underlying143
 a70:=Tryz.isAgg143
 z70:=Tryz.sizeOf143
 v70:=Tryz.zeroValue143
 t72:=Tryz.underlying145
 a72:=Tryz.isAgg145
 z72:=Tryz.sizeOf145
 v72:=Tryz.zeroValue145
 t127:=Tryz.underlying181
 a127:=Tryz.isAgg181
 z127:=Tryz.sizeOf181
 v127:=Tryz.zeroValue181}
theorem Tryz.Builder_Extra_169:Builder.Extra Tryz.prog Tryz.lays169_ren:={
 sizeBuilder:=by kernel_rfl
 liesBuilder:=by kernel_rfl
 t5:=Tryz.underlying5
 a5:=Tryz.isAgg5
 z5:=Tryz.sizeOf5
 v5:=Tryz.zeroValue5
 infoByte:=by kernel_rfl
 cellsByte:=by kernel_rfl
 sizeByte:=by kernel_rfl
 neB5:=by decide}
open Go.RowKit in
theorem Tryz.Builder_String_any (B b:Nat) (l:List UInt8) (w:World) (h:Lib.IsBuilder 145 5 B b (Lib.byteCells l) w) (hBw:B≤w.heap.size):
 Calls Tryz.prog 146 #[.pointer (some ⟨b,0,none⟩)] w fun e w'=>e=.returned (.string ⟨l.toArray⟩)∧Below B w w':=Any.Builder_String_any Tryz.lays169 Tryz.Builder_Extra_169 B b l w h hBw
end Go.Proofs
namespace Go.Proofs.YtfjpkfhbmldmfaaGreatDoor
open Go.RowKit
theorem bld_size:(Tryz.prog.info? 145).map (·.size)=some 2:=by kernel_rfl
theorem bld_lies:liesAt Tryz.prog Tryz.prog.depth 145 (2 / Tryz.prog.cellsOf 145) 0 145 1=true:=by kernel_rfl
set_option maxHeartbeats 1000000 in
set_option maxRecDepth 100000 in
theorem check_used (b:Nat) (w:World) (h0:w.cell? ⟨b,0,none⟩=some (.pointer (some ⟨b,0,none⟩))):
  Calls Tryz.prog 177 #[.pointer (some ⟨b,0,none⟩)] w fun e w'=>e=.returned (.tuple #[])∧w'=w:=by
 obtain⟨j,hj,_⟩:=Option.map_eq_some_iff.1 bld_size
 go_enter Tryz.func177,Tryz.ntmps177
 go_wp2
 rw[Lib.run_neq_ptr_same w _ Tryz.underlying143 hj]
 go_wp2
 go_end0
 exact⟨rfl,rfl⟩
set_option maxHeartbeats 1000000 in
set_option maxRecDepth 100000 in
theorem check_fresh (b:Nat) (w:World) (h0:w.cell? ⟨b,0,none⟩=some (.pointer none)) (hsh:w.shape? b=some (145,2)) (hfz:w.frozen? ⟨b,0,none⟩=false):
  Calls Tryz.prog 177 #[.pointer (some ⟨b,0,none⟩)] w fun e w'=>e=.returned (.tuple #[])∧w'=w.setCell ⟨b,0,none⟩ (.pointer (some ⟨b,0,none⟩)):=by
 obtain⟨j,hj,hjs⟩:=Option.map_eq_some_iff.1 bld_size
 go_enter Tryz.func177,Tryz.ntmps177
 go_wp2
 rw[Lib.run_to_unsafe w ⟨b,0,none⟩ Tryz.underlying143 Tryz.underlying207 hj (by rw[hjs];decide) hsh (Nat.zero_lt_succ 1)]
 simp only[Result.andThen]
 rw[Oper.upon_value]
 go_wp2
 rw[run_callFunc_extern Tryz.func209 (by kernel_rfl) (by kernel_rfl) (by kernel_rfl) (e:=Extern.AbiNoEscape.same) (by kernel_rfl)]
 rw[Lib.run_noEscape]
 simp only[Result.andThen]
 rw[Oper.upon_value]
 go_wp2
 rw[Lib.run_from_unsafe w ⟨b,0,none⟩ Tryz.underlying207 Tryz.underlying143 hj hsh bld_lies]
 simp only[Result.andThen]
 rw[Oper.upon_value]
 go_wp2
 go_end0
 exact⟨rfl,rfl⟩
structure Wrote (B b:Nat) (w w':World):Prop where
 below:Below B w w'
 kept:Lib.OthersKept 5 (some b) w w'
theorem Wrote.refl (B b:Nat) (w:World):Wrote B b w w:=⟨Below.refl _ _,Lib.OthersKept.refl _ _ _⟩
theorem Wrote.trans {B b:Nat} {x y z:World} (h:Wrote B b x y) (k:Wrote B b y z):Wrote B b x z:=⟨h.below.trans k.below,h.kept.trans k.kept⟩
theorem Wrote.lies {B b g t:Nat} {w w':World} {cs:Array Value} (h:Wrote B b w w') (hl:Lies w g cs t) (hg:g≠b) (ht:t≠5):Lies w' g cs t:=
 h.kept g _ hl (by intro e;injection e with e;exact hg e) (fun c fz e=>by injection e with _ e2;exact ht e2)
def Bl (B b:Nat) (l:List UInt8) (w:World):Prop:=Lib.IsBuilder 145 5 B b (cellsB l) w
theorem Bl.lt {B b:Nat} {l:List UInt8} {w:World} (h:Bl B b l w):b<w.heap.size:=by rcases h with h|h<;>exact Lib.BuilderAt.lt h
theorem Bl.le {B b:Nat} {l:List UInt8} {w:World} (h:Bl B b l w):B≤b:=by rcases h with h|h<;>exact h.1
theorem Bl.fresh (w:World):Bl w.heap.size w.heap.size [] (w.alloc (.cells #[.pointer none,.slice none 0 0] 145)):=Lib.fresh_isBuilder 145 5 w
theorem Bl.keep {B b:Nat} {l:List UInt8} {w w':World} (h:Bl B b l w) (hk:∀k:Nat,(∃(c:Array Value) (t:TypeId) (fz:Nat×Nat),w.heap[k]?=some (Obj.cells c t fz)∧(t=5∨t=145))→w'.heap[k]?=w.heap[k]?):Bl B b l w':=by
 have go:∀p,Lib.BuilderAt 145 5 B b p (cellsB l) w→Lib.BuilderAt 145 5 B b p (cellsB l) w':=by
  rintro p ⟨h1,v,hb,hown,hne⟩
  refine⟨h1,v,(hk b ⟨_,_,_,hb,.inr rfl⟩).trans hb,?_,hne⟩
  obtain⟨h2,h3|⟨g,cap,cur,hv,hB,hg,hr⟩⟩:=hown
  ·exact⟨h2,.inl h3⟩
  ·exact⟨h2,.inr ⟨g,cap,cur,hv,hB,(hk g ⟨_,_,_,hg,.inl rfl⟩).trans hg,hr⟩⟩
 rcases h with h|h
 ·exact .inl (go _ h)
 ·exact .inr (go _ h)
theorem Bl.below {B b:Nat} {l:List UInt8} {w w':World} (h:Bl B b l w) (hb:Below w.heap.size w w'):Bl B b l w':=
 h.keep (fun k ⟨_,_,_,hk,_⟩=>hb.block k (Array.getElem?_eq_some_iff.1 hk).1)
theorem Bl.but {B b g:Nat} {l:List UInt8} {w w':World} {cs:Array Value} {t:TypeId} (h:Bl B b l w) (hb:But g w w') (hg:Lies w g cs t) (ht:t≠5) (ht2:t≠145):Bl B b l w':=
 h.keep (fun k ⟨c,u,fz,hk,hu⟩=>hb.block k (Array.getElem?_eq_some_iff.1 hk).1 (fun e=>by
  subst e
  have:=hk.symm.trans hg
  injection this with e
  injection e with _ e2
  rcases hu with rfl|rfl
  ·exact ht e2.symm
  ·exact ht2 e2.symm))
theorem check_any (B b:Nat) (l:List UInt8) (w:World) (h:Bl B b l w):
  Calls Tryz.prog 177 #[.pointer (some ⟨b,0,none⟩)] w fun e w'=>e=.returned (.tuple #[])∧Lib.BuilderAt 145 5 B b (.pointer (some ⟨b,0,none⟩)) (cellsB l) w'∧Wrote B b w w':=by
 rcases h with h|h
 ·refine(check_fresh b w h.cell0 h.shape h.frozen0).mono ?_
  rintro e w' ⟨rfl,rfl⟩
  exact⟨rfl,h.used _,(Below.refl B w).setCell (p:=⟨b,0,none⟩) h.1 _,Lib.OthersKept.setCell (b:=b) (Lib.OthersKept.refl _ _ _) ⟨b,0,none⟩ rfl _⟩
 ·refine(check_used b w h.cell0).mono ?_
  rintro e w' ⟨rfl,rfl⟩
  exact⟨rfl,h,Wrote.refl _ _ _⟩
theorem own_kindB {w:World} {B n:Nat} {v:Value} {xs:List Value} (h:w.ownsRow B 5 1 v n xs):∀g,v.ownBlock=some g→∃c fz,w.heap[g]?=some (.cells c 5 fz):=by
 intro g hg
 rcases h.2 with⟨rfl,_⟩|⟨g',cap,cur,rfl,hB,hk,_⟩
 ·cases hg
 ·injection hg with hg
  subst hg
  exact⟨_,_,hk⟩
set_option maxHeartbeats 1000000 in
set_option maxRecDepth 100000 in
theorem wbyte_any (B b:Nat) (l:List UInt8) (c:UInt8) (w:World) (h:Bl B b l w) (hlen:l.length+1≤140737488355328) (hBw:B≤w.heap.size):
  Calls Tryz.prog 217 #[.pointer (some ⟨b,0,none⟩),.int .u8 (c.toNat:Int)] w fun e w'=>e=.returned .nilIface∧Bl B b (l++[c]) w'∧Wrote B b w w':=by
 go_enter Tryz.func217,Tryz.ntmps217
 go_wp2_with fail
 refine(check_any B b l _ h).mono ?_
 rintro e w1 ⟨rfl,⟨hB,v,hbk,hown,hne⟩,hw1⟩
 have hlt:b<w1.heap.size:=(Array.getElem?_eq_some_iff.1 hbk).1
 have c1:w1.cell? ⟨b,1,none⟩=some v:=by rw[Lib.cell_of_heap hbk];rfl
 have HBK:Hid (w1.heap[b]?=some (.cells #[.pointer (some ⟨b,0,none⟩),v] 145 (0,0))):=hbk
 have HNE:Hid (v.ownBlock≠some b):=hne
 have HW1:Hid (Wrote B b w w1):=hw1
 have HOW:Hid (w1.ownsRow B 5 1 v l.length (cellsB l)):=by rw[cellsB_length]at hown;exact hown
 clear hbk hne h hown hw1
 have hsz:=HW1.out.below.size
 go_wp2_with (at_builtin;refine wpList_append_keep rfl _ _ rfl B _ l.length l rfl (HOW.out.alloc _) (some ⟨w1.heap.size,0,none⟩) [c] 1 1 rfl rfl (.inr ⟨w1.heap.size,0,rfl,by simp,fun j hj=>by obtain rfl:j=0:=(by simpa using hj);simp⟩) (fun e=>by cases e) (by omega) (by simp;omega) ?_)
 intro v2 w2 hown2 hgrow2
 have hg2:=grown_on (World.grownBy_alloc w1 _ v.ownBlock) hgrow2 (fun _ h=>.inl h.symm)
 have HL2:Hid (Lies w2 b #[.pointer (some ⟨b,0,none⟩),v] 145):=(hg2.block b hlt (fun e=>HNE.out e.symm)).trans HBK.out
 have HW2:Hid (Wrote B b w w2):=⟨HW1.out.below.grown hg2 (by omega) (fun q hq=>(HOW.out.lt q hq).1),HW1.out.kept.grown hg2 (own_kindB HOW.out)⟩
 have c2:w2.cell? ⟨b,1,none⟩=some v:=HL2.out.cell 1
 have f2:=HL2.out.frozen 1
 have HO2:Hid (w2.ownsRow B 5 1 v2 (cellsB (l++[c])).length (cellsB (l++[c]))):=by
  show World.ownsRow _ _ _ _ _ _ _
  rw[cellsB_length,List.length_append]
  exact hown2
 obtain⟨a2,k2,rfl⟩:=own_shape hown2
 clear hown2 hgrow2 hg2
 go_wp2
 go_ret
 exact⟨rfl,.inr (Lib.BuilderAt.put hB HL2.out HO2.out (by decide)),HW2.out.below.setCell (p:=⟨b,1,none⟩) hB _,Lib.OthersKept.setCell (b:=b) HW2.out.kept ⟨b,1,none⟩ rfl _⟩
theorem bstr_any (B b:Nat) (l:List UInt8) (w:World) (h:Bl B b l w) (hBw:B≤w.heap.size):
 Calls Tryz.prog 146 #[.pointer (some ⟨b,0,none⟩)] w fun e w'=>e=.returned (.string ⟨l.toArray⟩)∧Below B w w':=Tryz.Builder_String_any B b l w h hBw
theorem blen_any (B b:Nat) (l:List UInt8) (w:World) (h:Bl B b l w):
  Calls Tryz.prog 220 #[.pointer (some ⟨b,0,none⟩)] w fun e w'=>e=.returned (.int .i64 l.length)∧w'=w:=by
 have:=Tryz.Builder_Len B b (cellsB l) w h
 rw[cellsB_length]at this
 exact this
open Go.RowKit
set_option maxHeartbeats 1000000 in
set_option maxRecDepth 100000 in
theorem isr_any (r:Int) (w:World):Calls Tryz.prog 234 #[.int .i32 r] w fun e w'=>e=.returned (.bool (decide (isR r)))∧w'=w:=by
 have HR:Hid (decide (isR r)=((decide (0≤r)&&decide (r<55296))||(decide (57343<r)&&decide (r≤1114111)))):=by
  show _=_
  by_cases h:isR r
  ·rw[decide_eq_true h]
   obtain⟨a,b,c|c⟩:=h
   ·simp[a,c]
   ·simp[b,c]
  ·rw[decide_eq_false h]
   symm
   simp only[Bool.or_eq_false_iff,Bool.and_eq_false_iff,decide_eq_false_iff_not]
   unfold isR at h
   omega
 rw[HR.out]
 by_cases h1:0≤r
 ·by_cases h2:r<55296
  ·go_enter Tryz.func234,Tryz.ntmps234
   go_wp2
   go_ret
   exact⟨ret_b (by simp[h1,h2]),rfl⟩
  ·by_cases h3:57343<r
   ·go_enter Tryz.func234,Tryz.ntmps234
    go_wp2
    go_ret
    exact⟨ret_b (by rw[Bool.eq_iff_iff];simp only[decide_eq_true_eq,Bool.or_eq_true];omega),rfl⟩
   ·go_enter Tryz.func234,Tryz.ntmps234
    go_wp2
    go_ret
    exact⟨ret_b (by rw[Bool.eq_iff_iff];simp only[decide_eq_true_eq,Bool.or_eq_true,Bool.and_eq_true,Bool.false_eq_true,false_iff];omega),rfl⟩
 ·have h3:¬57343<r:=by omega
  go_enter Tryz.func234,Tryz.ntmps234
  go_wp2
  go_ret
  exact⟨ret_b (by rw[Bool.eq_iff_iff];simp only[decide_eq_true_eq,Bool.or_eq_true,Bool.and_eq_true,Bool.false_eq_true,false_iff];omega),rfl⟩
def noR:List Int→Nat
 |[]=>0
 |r::t=>if isR r then noR t+1 else 0
theorem noR_le (l:List Int):noR l≤l.length:=by
 induction l with
 |nil=>exact Nat.le_refl _
 |cons r t ih=>simp only[noR];split<;>simp<;>omega
theorem noR_all (l:List Int):noR l=l.length↔∀r∈l,isR r:=by
 induction l with
 |nil=>simp[noR]
 |cons r t ih=>
  simp only[noR,List.length_cons,List.mem_cons,forall_eq_or_imp]
  by_cases h:isR r
  ·rw[if_pos h]
   constructor
   ·intro e;exact⟨h,ih.1 (by omega)⟩
   ·intro e;have:=ih.2 e.2;omega
  ·rw[if_neg h]
   constructor
   ·intro e;omega
   ·intro e;exact absurd e.1 h
theorem noR_drop (l:List Int) (k:Nat) (hk:k<l.length):noR (l.drop k)=if isR l[k] then noR (l.drop (k+1))+1 else 0:=by
 rw[List.drop_eq_getElem_cons hk]
 rfl
set_option maxHeartbeats 1000000 in
set_option maxRecDepth 100000 in
theorem norune_any (a:Option Addr) (l:List Int) (cap:Nat) (w:World) (hb:Nts .i32 a l w) (hs:l.length≤9223372036854775806):
  Calls Tryz.prog 215 #[.slice a l.length cap] w fun e w'=>e=.returned (.int .i64 (noR l))∧w'=w:=by
 have HL:Hid (Nts .i32 a l w):=hb
 clear hb
 go_enter Tryz.func215,Tryz.ntmps215
 go_wp2
 go_loop [7] (fun i=>∃k:Nat,i=.int .i64 k∧k≤l.length∧Hid (noR l=k+noR (l.drop k))) (fun i=>l.length - (intOf i).toNat)
 case atStart=>exact⟨0,rfl,Nat.zero_le _,by show _=_;rw[List.drop_zero];omega⟩
 case round=>
  obtain⟨k,rfl,hk,HE⟩:=hrel
  by_cases hlk:k<l.length
  ·have HD:Hid (_=_):=noR_drop l k hlk
   obtain⟨g,o,rfl,hg,hc⟩:=HL.out.cell k hlk
   have HI:=isr_any l[k] w
   by_cases hr:isR l[k]
   ·have HN:Hid (noR l=(k+1)+noR (l.drop (k+1))):=by
     show _=_
     rw[HE.out,HD.out,if_pos hr];omega
    have hd:decide (isR l[k])=true:=decide_eq_true hr
    rw[hd]at HI
    go_wp2_with (go_at_call 234;refine HI.mono ?_;rintro e w' ⟨rfl,rfl⟩)
    go_round
    case rel=>exact⟨k+1,by go_num,by omega,HN⟩
    case measure=>simp[intOf];omega
   ·have HN:Hid (noR l=k):=by
     show _=_
     rw[HE.out,HD.out,if_neg hr];omega
    have hd:decide (isR l[k])=false:=decide_eq_false hr
    rw[hd]at HI
    go_wp2_with (go_at_call 234;refine HI.mono ?_;rintro e w' ⟨rfl,rfl⟩)
    go_ret
    exact⟨ret_i64 (by rw[HN.out]),rfl⟩
  ·have HN:Hid (noR l=k):=by
    show _=_
    rw[HE.out,List.drop_eq_nil_of_le (by omega)]
    rfl
   obtain rfl:k=l.length:=by omega
   go_wp2
   go_ret
   exact⟨ret_i64 (by rw[HN.out]),rfl⟩
open Go.RowKit
set_option maxHeartbeats 1000000 in
set_option maxRecDepth 100000 in
theorem rcount_any (s:ByteArray) (w:World) (hs:s.size≤9223372036854775806):
  Calls Tryz.prog 206 #[.string s] w fun e w'=>(∃n:Nat,e=.returned (.int .i64 n)∧n≤s.size)∧Below w.heap.size w w':=by
 go_enter Tryz.func206,Tryz.ntmps206
 go_wp2
 go_loopw [2] (fun n w'=>∃(pos acc:Nat),w'=w.iter s pos∧n=.int .i64 acc∧acc≤pos∧acc≤s.size) (fun _ w'=>s.size - w'.iterPos w.heap.size)
 case atStart=>exact⟨0,0,rfl,rfl,Nat.le_refl _,Nat.zero_le _⟩
 case round=>
  obtain⟨pos,acc,rfl,rfl,hc,ha⟩:=hrel
  by_cases hp:pos<s.size
  ·have hnx:∀ty,(Instr.next (.pointer (some ⟨w.heap.size,0,none⟩)) true ty).run Tryz.prog (w.iter s pos)=_:=fun ty=>run_next_any w s pos ty hp
   have hwd:=Lib.decode_width_pos s pos hp
   go_wp2
   go_roundw
   case rel=>exact⟨pos+(Utf8.decode s pos).2,acc+1,rfl,by go_num,by omega,by omega⟩
   case measure=>
    simp
    omega
  ·have hnx:∀ty,(Instr.next (.pointer (some ⟨w.heap.size,0,none⟩)) true ty).run Tryz.prog (w.iter s pos)=_:=fun ty=>run_next_end w s pos ty hp
   go_wp2
   go_ret
   exact⟨⟨acc,rfl,ha⟩,(Below.refl _ _).alloc (Nat.le_refl _) _⟩
def decR (l:List UInt8):List Int:=if badU l<l.length then [] else decL l
def decE (l:List UInt8):Array Value:=if badU l<l.length then #[.int .i64 50,.int .i64 (badU l)] else #[.int .i64 0,.int .i64 0]
theorem oneN_whole {l:List UInt8} (h:badU l=l.length) (h0:0<l.length):∃r n,oneN l=some (r,n)∧badU (l.drop n)=(l.drop n).length:=by
 cases e:oneN l with
 |none=>rw[badU_none e]at h;omega
 |some p=>
  obtain⟨r,n⟩:=p
  refine⟨r,n,rfl,?_⟩
  have h1:=badU_some e
  have h2:=(oneN_run l r n e).1
  rw[List.length_drop]
  omega
set_option maxHeartbeats 2000000 in
set_option maxRecDepth 100000 in
theorem dec_any (s:ByteArray) (w:World) (hf:Fst w) (hs:s.size≤35184372088000):
  Calls Tryz.prog 180 #[.string s] w fun e w'=>(∃v,e=.returned (.tuple #[v,.agg (decE s.data.toList)])∧w'.ownsRow w.heap.size 21 1 v (decR s.data.toList).length (cellsN .i32 (decR s.data.toList)))∧Below w.heap.size w w':=by
 have HF:Hid (Fst w):=hf
 have hflt:=hf.lt
 have hle:=badU_le s.data.toList
 rw[len_list]at hle
 have HC:=ubs_any s (w.alloc (.cells #[.int .i64 0,.int .i64 0] 32)) (hf.below ((Below.refl _ w).alloc (Nat.le_refl _) _) hflt) (by omega)
 clear hf
 by_cases hr:badU s.data.toList<s.size
 ·have HT:Hid (decR s.data.toList=[]):=if_pos (by rw[len_list];exact hr)
  have HE:Hid (decE s.data.toList=#[.int .i64 50,.int .i64 (badU s.data.toList)]):=if_pos (by rw[len_list];exact hr)
  go_enter Tryz.func180,Tryz.ntmps180
  go_wp2_with fail
  refine HC.mono ?_
  rintro e w1 ⟨rfl,b1⟩
  have HS1:Hid (Lies w1 w.heap.size #[.int .i64 0,.int .i64 0] 32):=(Lies.new w _ 32).below b1 (by simp)
  have HW1:Hid (Below w.heap.size w w1):=((Below.refl _ w).alloc (Nat.le_refl _) _).trans (b1.mono (by simp))
  have c0:=HS1.out.cell 0
  have c1:=HS1.out.cell 1
  have f0:=HS1.out.frozen 0
  have f1:=HS1.out.frozen 1
  simp at c0 c1
  clear b1 HC
  go_wp2
  (try simp only[Exit.inBlock,Exit.then])
  refine bodyPost_ret (v:=.tuple #[.slice none 0 0,.agg #[.int .i64 50,.int .i64 (badU s.data.toList)]]) (by simp[results,Tryz.results180,go_sem,c0,c1]) rfl ⟨⟨.slice none 0 0,by rw[HE.out],?_⟩,(HW1.out.setCell (p:=⟨w.heap.size,0,none⟩) (Nat.le_refl _) _).setCell (p:=⟨w.heap.size,1,none⟩) (Nat.le_refl _) _⟩
  rw[HT.out]
  exact own_nilN _ _ _ _
 ·have hq:badU s.data.toList=s.size:=by omega
  have HT:Hid (decR s.data.toList=decL s.data.toList):=if_neg (by rw[len_list];exact hr)
  have HE:Hid (decE s.data.toList=#[.int .i64 0,.int .i64 0]):=if_neg (by rw[len_list];exact hr)
  have HQ:Hid (badU s.data.toList=s.data.toList.length):=by show _=_;rw[hq,len_list]
  rw[hq]at HC
  clear hq hr hle
  go_enter Tryz.func180,Tryz.ntmps180
  go_wp2_with fail
  refine HC.mono ?_
  rintro e w1 ⟨rfl,b1⟩
  have HS1:Hid (Lies w1 w.heap.size #[.int .i64 0,.int .i64 0] 32):=(Lies.new w _ 32).below b1 (by simp)
  have HW1:Hid (Below w.heap.size w w1):=((Below.refl _ w).alloc (Nat.le_refl _) _).trans (b1.mono (by simp))
  have HC2:=rcount_any s w1 (by omega)
  clear b1 HC
  go_wp2_with fail
  refine HC2.mono ?_
  rintro e w2 ⟨⟨n,rfl,hn⟩,b2⟩
  have HS2:Hid (Lies w2 w.heap.size #[.int .i64 0,.int .i64 0] 32):=HS1.out.below b2 HS1.out.lt
  have HW2:Hid (Below w.heap.size w w2):=HW1.out.trans (b2.mono HW1.out.size)
  clear b2 HC2
  obtain⟨w3,hmk,hown3,b3,hsz3⟩:=make_roomN w2 121 21 4 .i32 Tryz.underlying121 infoR (by omega) 0 n 0 n rfl rfl (by omega) (by omega) w.heap.size HW2.out.size
  have HS3:Hid (Lies w3 w.heap.size #[.int .i64 0,.int .i64 0] 32):=HS2.out.below b3 HS2.out.lt
  have HW3:Hid (Below w.heap.size w w3):=HW2.out.trans (b3.mono HW2.out.size)
  have HO3:Hid (w3.ownsRow w.heap.size 21 1 (.slice (some ⟨w2.heap.size,0,none⟩) 0 n) 0 (cellsN .i32 [])):=hown3
  clear hown3 b3
  go_wp2
  have HIT:Hid ((w3.iter s 0).heap[w2.heap.size+1]?=some (.stringIter s 0)):=by
   have:=World.iter_heap w3 s 0
   rw[hsz3]at this
   exact this
  have hw2:=HW2.out.size
  clear hmk HS1 HW1 HS2
  go_loopw [5] (fun v wr=>∃(pos:Nat) (acc:List Int),Hid (wr.ownsRow w.heap.size 21 1 v acc.length (cellsN .i32 acc))∧Hid (wr.heap[w2.heap.size+1]?=some (.stringIter s pos))∧Hid (Below w.heap.size w wr)∧Hid (Lies wr w.heap.size #[.int .i64 0,.int .i64 0] 32)∧Hid (acc++decL (s.data.toList.drop pos)=decL s.data.toList)∧Hid (badU (s.data.toList.drop pos)=(s.data.toList.drop pos).length)∧pos≤s.size∧acc.length≤pos) (fun _ wr=>s.size - wr.iterPos (w2.heap.size+1))
  case atStart=>exact⟨0,[],HO3.out.alloc _,HIT,HW3.out.alloc HW3.out.size _,HS3.out.alloc _,by show _=_;rw[List.drop_zero];rfl,by show _=_;rw[List.drop_zero];exact HQ.out,Nat.zero_le _,Nat.le_refl _⟩
  case round=>
   obtain⟨pos,acc,HO,HI,HW,HS,HA,HQ1,hps,hal⟩:=hrel
   have hib:w2.heap.size+1<wr.heap.size:=(Array.getElem?_eq_some_iff.1 HI.out).1
   by_cases hp:pos<s.size
   ·obtain⟨r,m,ho,hq2⟩:=oneN_whole HQ1.out (by rw[List.length_drop,len_list];omega)
    have hdec:=decode_one s pos r m ho
    have hr:=(oneN_is ho).1
    have hr0:(r.toNat:Int)=r:=Int.toNat_of_nonneg hr.1
    have hm:=(oneN_run _ r m ho)
    have hm1:=hm.1
    have hm2:=hm.2.1
    rw[List.length_drop,len_list]at hm1
    have hnx:∀ty,(Instr.next (.pointer (some ⟨w2.heap.size+1,0,none⟩)) true ty).run Tryz.prog wr=.ok (.tuple #[.bool true,.int .i64 pos,.int .i32 r]) (wr.iterAt (w2.heap.size+1) s (pos+m)):=fun ty=>by
     rw[Lib.run_next_any_at wr (w2.heap.size+1) s pos ty HI.out hp,hdec,hr0]
    have HA2:Hid ((acc++[r])++decL (s.data.toList.drop (pos+m))=decL s.data.toList):=by
     have:=HA.out
     rw[decL_some ho,List.drop_drop]at this
     show _=_
     rw[←this]
     simp
    have HQ2:Hid (badU (s.data.toList.drop (pos+m))=(s.data.toList.drop (pos+m)).length):=by
     rw[List.drop_drop]at hq2
     exact hq2
    have hne:(u5:Value).ownBlock≠some (w2.heap.size+1):=fun e=>by
     rcases HO.out.2 with⟨rfl,_⟩|⟨g',cap,cur,rfl,hB,hk,_⟩
     ·cases e
     ·injection e with e
      subst e
      have:=hk.symm.trans HI.out
      injection this with this
      cases this
    have HOI:Hid ((wr.iterAt (w2.heap.size+1) s (pos+m)).ownsRow w.heap.size 21 1 u5 acc.length (cellsN .i32 acc)):=ownN_keep HO.out (fun k hk=>Lib.iterAt_other _ _ _ _ _ (fun e=>hne (by rw[hk,e])))
    have HII:Hid ((wr.iterAt (w2.heap.size+1) s (pos+m)).heap[w2.heap.size+1]?=some (.stringIter s (pos+m))):=Lib.iterAt_heap _ _ s pos _ HI.out
    have HWI:Hid (Below w.heap.size w (wr.iterAt (w2.heap.size+1) s (pos+m))):=Lib.below_iterAt HW.out (by omega) _ _
    have HSI:Hid (Lies (wr.iterAt (w2.heap.size+1) s (pos+m)) w.heap.size #[.int .i64 0,.int .i64 0] 32):=(Lib.iterAt_other _ _ _ _ _ (by omega)).trans HS.out
    have hsI:w2.heap.size+1<(wr.iterAt (w2.heap.size+1) s (pos+m)).heap.size:=by rw[Lib.iterAt_size];exact hib
    have HNE:Hid ((u5:Value).ownBlock≠some (w2.heap.size+1)):=hne
    clear hne ho hdec hr hr0 hm hq2
    generalize wr.iterAt (w2.heap.size+1) s (pos+m)=wi at hnx HOI HII HWI HSI hsI
    go_wp2_with (at_builtin;refine wpList_append_num rfl _ _ 121 21 4 .i32 Tryz.underlying121 infoR (by omega) rfl w.heap.size _ acc.length acc rfl (HOI.out.alloc _) ⟨wi.heap.size,0,none⟩ r 1 rfl (one_nts _ _ _ _) (by omega) (by simp;omega) ?_)
    intro v4 w4 hown4 hgrow4
    have hg4:=grown_on (World.grownBy_alloc wi _ (u5:Value).ownBlock) hgrow4 (fun _ h=>.inl h.symm)
    have HI4:Hid (w4.heap[w2.heap.size+1]?=some (.stringIter s (pos+m))):=(hg4.block _ (by omega) (fun e=>HNE.out e.symm)).trans HII.out
    have HW4:Hid (Below w.heap.size w w4):=HWI.out.grown hg4 HWI.out.size (fun q hq=>(HOI.out.lt q hq).1)
    have HS4:Hid (Lies w4 w.heap.size #[.int .i64 0,.int .i64 0] 32):=(hg4.block _ HSI.out.lt (fun e=>ownN_apart HOI.out HSI.out (by decide) _ e.symm rfl)).trans HSI.out
    have HO4:Hid (w4.ownsRow w.heap.size 21 1 v4 (acc++[r]).length (cellsN .i32 (acc++[r]))):=by
     show World.ownsRow _ _ _ _ _ _ _
     rw[List.length_append]
     exact hown4
    clear hown4 hgrow4 hg4
    go_wp2
    go_roundw
    case rel=>exact⟨pos+m,acc++[r],HO4,HI4,HW4,HS4,HA2,HQ2,by omega,by simp;omega⟩
    case measure=>
     simp only[World.iterPos,HI4.out,HI.out]
     omega
   ·have hnx:∀ty,(Instr.next (.pointer (some ⟨w2.heap.size+1,0,none⟩)) true ty).run Tryz.prog wr=.ok (.tuple #[.bool false]) wr:=fun ty=>Lib.run_next_end_at wr (w2.heap.size+1) s pos ty HI.out hp
    have HD:Hid (decL s.data.toList=acc):=by
     have:=HA.out
     rw[List.drop_eq_nil_of_le (by rw[len_list];omega),decL_none rfl,List.append_nil]at this
     exact this.symm
    have c0:=HS.out.cell 0
    have c1:=HS.out.cell 1
    have f0:=HS.out.frozen 0
    have f1:=HS.out.frozen 1
    simp at c0 c1
    go_wp2
    (try simp only[Exit.inBlock,Exit.then])
    refine bodyPost_ret (v:=.tuple #[u5,.agg #[.int .i64 0,.int .i64 0]]) (by simp[results,Tryz.results180,go_sem,c0,c1]) rfl ⟨⟨u5,by rw[HE.out],?_⟩,(HW.out.setCell (p:=⟨w.heap.size,0,none⟩) (Nat.le_refl _) _).setCell (p:=⟨w.heap.size,1,none⟩) (Nat.le_refl _) _⟩
    rw[HT.out,HD.out]
    have hap:=ownN_apart HO.out HS.out (by decide)
    exact ownN_keep HO.out (fun k hk=>(Below.heap_setCell _ _ _ _ (hap k hk)).trans (Below.heap_setCell _ _ _ _ (hap k hk)))
end Go.Proofs.YtfjpkfhbmldmfaaGreatDoor
