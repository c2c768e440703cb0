/-
  The document's route.
-/
import Derived.Test.YtfjpkfhbmldmfaaGreatDoorQg9
namespace Go.Proofs.YtfjpkfhbmldmfaaGreatDoor
open Go.RowKit
def cellsH (l:List Ho):List Value:=l.flatMap fun h=>(hostC h).toList
theorem cellsH_append (x y:List Ho):cellsH (x++y)=cellsH x++cellsH y:=List.flatMap_append
theorem cellsH_one (h:Ho):cellsH [h]=(hostC h).toList:=by simp[cellsH]
theorem infoHo3:(Tryz.prog.info? 25).map (fun i=>(i.zero,i.size,i.bytes))=some (some (.agg #[.int .i64 0,.string ⟨#[]⟩,.int .u8 0,.int .u8 0,.int .u8 0,.int .u8 0,.int .u8 0,.int .u8 0,.int .u8 0,.int .u8 0,.int .u8 0,.int .u8 0,.int .u8 0,.int .u8 0,.int .u8 0,.int .u8 0,.int .u8 0,.int .u8 0]),18,40):=by kernel_rfl
theorem ownH_keep {w w':World} {B n t k:Nat} {v:Value} {xs:List Value} (h:w.ownsRow B t k v n xs) (hb:∀j,v.ownBlock=some j→w'.heap[j]?=w.heap[j]?):w'.ownsRow B t k v n xs:=by
 obtain⟨h1,h2⟩:=h
 refine⟨h1,?_⟩
 rcases h2 with h2|⟨g,cap,cur,rfl,hB,hg,hr⟩
 ·exact .inl h2
 ·exact .inr ⟨g,cap,cur,rfl,hB,by rw[hb g rfl];exact hg,hr⟩
theorem ownH_below {w w':World} {B n t k:Nat} {v:Value} {xs:List Value} (h:w.ownsRow B t k v n xs) (hb:Below w.heap.size w w'):w'.ownsRow B t k v n xs:=ownH_keep h (fun k hk=>hb.block k (h.lt k hk).2)
theorem ownH_base {w:World} {B B' n t k:Nat} {v:Value} {xs:List Value} (h:w.ownsRow B t k v n xs) (hb:B'≤B):w.ownsRow B' t k v n xs:=by
 obtain⟨h1,h2⟩:=h
 refine⟨h1,?_⟩
 rcases h2 with h2|⟨g,cap,cur,rfl,hB,hg,hr⟩
 ·exact .inl h2
 ·exact .inr ⟨g,cap,cur,rfl,by omega,hg,hr⟩
theorem ownH_len {w:World} {B n t k:Nat} {v:Value} {xs:List Value} (h:w.ownsRow B t k v n xs):∃a c,v=.slice a n c:=by
 obtain⟨_,⟨rfl,h2⟩|⟨g,cap,cur,rfl,_⟩⟩:=h
 ·exact⟨none,0,by rw[h2]⟩
 ·exact⟨_,cap,rfl⟩
theorem wpList_append_host {ops:Array Oper} {rest:List Oper} {o:Oper} {a:Act} {w:World} {Q:Exit→Act→World→Prop} (hgd:o.guard=none) (s x:Operand)
  (ho:o.op=.call {callee:=.builtin .append,args:=#[s,x],argTypes:=#[22,22]}) (base:Nat) (v:Value) (n:Nat) (xs:List Value) (hs:a.eval s=v) (hown:w.ownsRow base 25 18 v n xs)
  (g c:Nat) (V:Array Value) (hVz:V.size=18) (hVo:V.all (·.oneCell')=true) (hx:a.eval x=.slice (some ⟨g,0,none⟩) 1 c) (hb:Lies w g V 25) (hn:n≤1000000) (hbase:base≤w.heap.size)
  (h:∀v' w',w'.ownsRow base 25 18 v' (n+1) (xs++V.toList)→w.grownBy w' v.ownBlock→wpList Tryz.prog ops Q rest (a.put o.dst v') w'):wpList Tryz.prog ops Q (o::rest) a w:=by
 have h5:=infoHo3
 cases hq:Tryz.prog.info? 25 with
 |none=>rw[hq]at h5;cases h5
 |some i=>
  rw[hq]at h5
  have h6:(i.zero,i.size,i.bytes)=(some (.agg #[.int .i64 0,.string ⟨#[]⟩,.int .u8 0,.int .u8 0,.int .u8 0,.int .u8 0,.int .u8 0,.int .u8 0,.int .u8 0,.int .u8 0,.int .u8 0,.int .u8 0,.int .u8 0,.int .u8 0,.int .u8 0,.int .u8 0,.int .u8 0,.int .u8 0]),18,40):=by simpa using h5
  injection h6 with z0 h7
  injection h7 with z1 z2
  refine wpList_append_own _ hgd s x 22 ho base 25 i (.agg #[.int .i64 0,.string ⟨#[]⟩,.int .u8 0,.int .u8 0,.int .u8 0,.int .u8 0,.int .u8 0,.int .u8 0,.int .u8 0,.int .u8 0,.int .u8 0,.int .u8 0,.int .u8 0,.int .u8 0,.int .u8 0,.int .u8 0,.int .u8 0,.int .u8 0]) 18 40 Tryz.underlying22 hq z0 z1 z2 rfl (by decide) v n _ hs hown ⟨g,0,none⟩ 1 c V.toList hx (by rw[Array.length_toList,hVz]) (fun j u hu=>?_) (fun u hu=>?_) (by unfold maxLen;omega) (by omega) hbase ?_
  ·rw[Addr.add_lit,Nat.zero_add,hb.cell j]
   rw[Array.getElem?_toList]at hu
   exact hu
  ·rw[Array.all_eq_true_iff_forall_mem]at hVo
   exact hVo u (Array.mem_toList_iff.1 hu)
  ·intro v' w' hown' hgrow _
   exact h v' w' hown' hgrow
def preR (acc:List Ho) (k:Nat):Except (Nat×Nat) (List Ho×Nat)→Except (Nat×Nat) (List Ho×Nat)
 | .error (e,p)=>.error (e,k+p)
 | .ok (l,n)=>.ok (acc++l,k+n)
theorem preR_more (acc:List Ho) (k:Nat) (h:Ho) (m:Nat) (x:Except (Nat×Nat) (List Ho×Nat)):preR acc k (moreR h m x)=preR (acc++[h]) (k+m) x:=by
 match x with
 | .ok (l,n)=>simp[preR,moreR,Nat.add_assoc]
 | .error (e,p)=>simp[preR,moreR,Nat.add_assoc]
theorem preR_nil (x:Except (Nat×Nat) (List Ho×Nat)):x=preR [] 0 x:=by
 match x with
 | .ok (l,n)=>simp[preR]
 | .error (e,p)=>simp[preR]
set_option maxHeartbeats 8000000 in
set_option maxRecDepth 100000 in
theorem build_one (V:Array Value) (hV:V.size=18):Array.foldl (fun (cs:Array Value) (x:Value×Nat)=>cs.setIfInBounds x.snd x.fst) #[.int .i64 0,.string ⟨#[]⟩,.int .u8 0,.int .u8 0,.int .u8 0,.int .u8 0,.int .u8 0,.int .u8 0,.int .u8 0,.int .u8 0,.int .u8 0,.int .u8 0,.int .u8 0,.int .u8 0,.int .u8 0,.int .u8 0,.int .u8 0,.int .u8 0] V.zipIdx 0 18=V:=by
 obtain⟨l⟩:=V
 match l,hV with
 |[a0,a1,a2,a3,a4,a5,a6,a7,a8,a9,a10,a11,a12,a13,a14,a15,a16,a17],_=>first|kernel_rfl|(simp)
theorem rte_at {wide:Bool} {s:ByteArray} {i m:Nat} (hh:(s.data.toList.drop i).head?=some 64):rte wide (m+1) (s.data.toList.drop i)=match hst wide (s.data.toList.drop (i+1)) with
  | .error (e,p)=>.error (e,1+p)
  | .ok (h,n)=>if h.k=1 then (if (s.data.toList.drop (i+1+n)).head?=some 58 then .ok ([h],1+n+1)
   else if (s.data.toList.drop (i+1+n)).head?=some 44 then moreR h (1+n+1) (rte wide m (s.data.toList.drop (i+1+n+1)))
   else .error (92,1+n)) else .error (92,1):=by
 rw[rte,if_pos hh,List.drop_drop]
 cases hst wide (s.data.toList.drop (i+1)) with
 |error x=>rfl
 |ok x=>
  obtain⟨h,n⟩:=x
  dsimp only
  rw[List.drop_drop,List.drop_drop,show i+(1+n)=i+1+n from by omega,show i+(1+n+1)=i+1+n+1 from by omega]
theorem rte_no {wide:Bool} {t:List UInt8} (k:Nat) (h:t.head?≠some 64):rte wide k t=.error (93,0):=by
 cases k with
 |zero=>rw[rte,if_neg h]
 |succ k=>rw[rte,if_neg h]
end Go.Proofs.YtfjpkfhbmldmfaaGreatDoor
