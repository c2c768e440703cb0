/-
  The contract of domain.V4.
-/
import Derived.Test.YtfjpkfhbmldmfaaGreatDoorLate5
namespace Go.Proofs.YtfjpkfhbmldmfaaGreatDoor
open Go.RowKit
def bytesV (l:List Nat):Array Value:=(l.map fun n=>Value.int .u8 (n:Nat)).toArray
def v4V (r:Except Nat (List Nat)):Value:=match r with
 | .ok l=>.tuple #[.agg (bytesV l),.agg #[.int .i64 0,.int .i64 0]]
 | .error p=>.tuple #[.agg #[.int .u8 0,.int .u8 0,.int .u8 0,.int .u8 0],.agg #[.int .i64 82,.int .i64 (p:Nat)]]
theorem info4:(Tryz.prog.info? 108).map (·.size)=some 4:=by kernel_rfl
theorem infoSp:(Tryz.prog.info? 32).map (·.size)=some 2:=by kernel_rfl
theorem results_two {P:Program} {fn:Func} {p q:Tmp} {ty tz:TypeId} (h:fn.results=#[.cell p ty,.cell q tz]) (tmps:Array Value) (w:World) (g1 g2:Nat) (t1 t2:TypeId) (cs ds:Array Value) (f1 f2:Nat×Nat) (d1 d2:TypeDesc)
  (hp:tmps.getD p undef=.pointer (some ⟨g1,0,none⟩)) (hq:tmps.getD q undef=.pointer (some ⟨g2,0,none⟩)) (hg1:w.heap[g1]?=some (.cells cs t1 f1)) (hg2:w.heap[g2]?=some (.cells ds t2 f2))
  (hu1:P.underlying ty=some d1) (hd1:(match d1 with| .struct _| .array _ _=>true|_=>false)=true) (hi1:(P.info? ty).map (·.size)=some cs.size)
  (hu2:P.underlying tz=some d2) (hd2:(match d2 with| .struct _| .array _ _=>true|_=>false)=true) (hi2:(P.info? tz).map (·.size)=some ds.size):
  (results fn tmps).run P w=.ok (.tuple #[.agg cs,.agg ds]) w:=by
 have hp':tmps[p]?.getD undef=.pointer (some ⟨g1,0,none⟩):=by simpa using hp
 have hq':tmps[q]?.getD undef=.pointer (some ⟨g2,0,none⟩):=by simpa using hq
 simp[results,h,hp',hq',asAddr,run_loadVar_row w g1 t1 ty cs f1 d1 hg1 hu1 hd1 hi1,run_loadVar_row w g2 t2 tz ds f2 d2 hg2 hu2 hd2 hi2]
theorem Table.below {w w':World} (h:Table w) (hg:0<w.heap.size) (hb:Below w.heap.size w w'):Table w':=fun c hc=>by
 rw[hb.cell (p:=⟨0,c,none⟩) hg]
 exact h c hc
set_option maxHeartbeats 1000000 in
set_option maxRecDepth 100000 in
theorem v4wrong_any (b:Nat) (p:Int) (w:World) (hc:w.cell? ⟨b,0,none⟩=some (.int .i64 p)) (hb:b<w.heap.size):
  Calls Tryz.prog 204 #[.pointer (some ⟨b,0,none⟩)] w fun e w'=>e=.returned (.tuple #[.agg #[.int .u8 0,.int .u8 0,.int .u8 0,.int .u8 0],.agg #[.int .i64 82,.int .i64 p]])∧Below w.heap.size w w':=by
 have HB:Hid (Below w.heap.size w ((w.alloc (.cells #[.int .u8 0,.int .u8 0,.int .u8 0,.int .u8 0] 108)).alloc (.cells #[.int .i64 82,.int .i64 p] 32)).drew):=(((Below.refl _ _).alloc (Nat.le_refl _) _).alloc (by simp) _).drew
 go_enter Tryz.func204,Tryz.ntmps204
 go_wp2_with fail
 go_region
 all_goals go_wp2
 all_goals refine bodyPost_ret (results_two (p:=1) (q:=2) (by kernel_rfl) _ _ w.heap.size (w.heap.size+1) 108 32 _ _ (0,0) (0,0) _ _ rfl rfl ((Lies.new w _ _).alloc _) (new_one w _ _ _) Tryz.underlying108 rfl info4 Tryz.underlying32 rfl infoSp) rfl ⟨rfl,HB.out⟩
structure V4S (w:World) (l:List Nat) (k:Nat) (wr:World):Prop where
 r1:Lies wr w.heap.size #[.int .u8 0,.int .u8 0,.int .u8 0,.int .u8 0] 108
 r2:Lies wr (w.heap.size+1) #[.int .i64 0,.int .i64 0] 32
 a:Lies wr (w.heap.size+2) (bytesV (l++List.replicate (4 - l.length) 0)) 108
 pl:Lies wr (w.heap.size+3) #[.int .i64 (k:Nat)] 3
 below:Below w.heap.size w wr
theorem V4S.later {w wr wx:World} {l:List Nat} {k:Nat} (h:V4S w l k wr) (hb:Below wr.heap.size wr wx):V4S w l k wx:=
 ⟨h.r1.below hb h.r1.lt,h.r2.below hb h.r2.lt,h.a.below hb h.a.lt,h.pl.below hb h.pl.lt,h.below.trans (hb.mono (Nat.le_of_lt h.r1.lt))⟩
theorem V4S.move {w wr:World} {l:List Nat} {k:Nat} (h:V4S w l k wr) (m:Nat):V4S w l m (wr.setCell ⟨w.heap.size+3,0,none⟩ (.int .i64 (m:Nat))):=
 ⟨h.r1.set_other (a:=⟨w.heap.size+3,0,none⟩) (by show w.heap.size≠w.heap.size+3;omega) _,h.r2.set_other (a:=⟨w.heap.size+3,0,none⟩) (by show w.heap.size+1≠w.heap.size+3;omega) _,h.a.set_other (a:=⟨w.heap.size+3,0,none⟩) (by show w.heap.size+2≠w.heap.size+3;omega) _,h.pl.set 0 _,h.below.setCell (p:=⟨w.heap.size+3,0,none⟩) (by show w.heap.size≤w.heap.size+3;omega) _⟩
theorem bytesV_put (l:List Nat) (n:Nat) (h:l.length<4):(bytesV (l++List.replicate (4 - l.length) 0)).setIfInBounds l.length (.int .u8 (n:Nat))=bytesV ((l++[n])++List.replicate (4 - (l++[n]).length) 0):=by
 unfold bytesV
 rw[List.setIfInBounds_toArray]
 congr 1
 match l,h with
 |[],_=>rfl
 |[_],_=>rfl
 |[_,_],_=>rfl
 |[_,_,_],_=>rfl
theorem V4S.put {w wr:World} {l:List Nat} {k:Nat} (h:V4S w l k wr) (n:Nat) (hl:l.length<4):V4S w (l++[n]) k (wr.setCell ⟨w.heap.size+2,l.length,none⟩ (.int .u8 (n:Nat))):=
 ⟨h.r1.set_other (a:=⟨w.heap.size+2,l.length,none⟩) (by show w.heap.size≠w.heap.size+2;omega) _,h.r2.set_other (a:=⟨w.heap.size+2,l.length,none⟩) (by show w.heap.size+1≠w.heap.size+2;omega) _,by have:=h.a.set l.length (.int .u8 (n:Nat));rw[bytesV_put l n hl]at this;exact this,h.pl.set_other (a:=⟨w.heap.size+2,l.length,none⟩) (by show w.heap.size+3≠w.heap.size+2;omega) _,h.below.setCell (p:=⟨w.heap.size+2,l.length,none⟩) (by show w.heap.size≤w.heap.size+2;omega) _⟩
theorem V4S.acell {w wr:World} {l:List Nat} {k:Nat} (h:V4S w l k wr) (hl:l.length<4):wr.cell? ⟨w.heap.size+2,l.length,none⟩=some (.int .u8 0):=by
 rw[h.a.cell]
 unfold bytesV
 match l,hl with
 |[],_=>rfl
 |[_],_=>rfl
 |[_,_],_=>rfl
 |[_,_,_],_=>rfl
theorem V4S.ret {w wr:World} {l:List Nat} {k:Nat} (h:V4S w l k wr) (cs ds:Array Value) (R:Ending→World→Prop) (tmps:Array Value) (hp:tmps.getD 2 undef=.pointer (some ⟨w.heap.size,0,none⟩)) (hq:tmps.getD 3 undef=.pointer (some ⟨w.heap.size+1,0,none⟩)) (hc:cs.size=4) (hd:ds.size=2)
  (hR:R (.returned (.tuple #[.agg cs,.agg ds])) ((wr.setRow w.heap.size cs).setRow (w.heap.size+1) ds)):bodyPost Tryz.prog Tryz.f172 R .ret {tmps:=tmps,defers:=[]} ((wr.setRow w.heap.size cs).setRow (w.heap.size+1) ds):=
 bodyPost_ret (results_two (p:=2) (q:=3) (by kernel_rfl) tmps _ w.heap.size (w.heap.size+1) 108 32 cs ds (0,0) (0,0) _ _ hp hq ((h.r1.row cs).row_other (by omega) ds) ((h.r2.row_other (by omega) cs).row ds) Tryz.underlying108 rfl (by rw[hc];exact info4) Tryz.underlying32 rfl (by rw[hd];exact infoSp)) rfl hR
theorem below_two {w wr:World} {cs ds:Array Value} {g:Nat} (h:Below w.heap.size w wr) (hg:w.heap.size≤g):Below w.heap.size w ((wr.setRow w.heap.size cs).setRow g ds):=below_row (below_row h (Nat.le_refl _) cs) hg ds
theorem v4Go_end {l:List Nat} {a:Nat} {s:List UInt8}:v4Go 0 l a s=if s=[] then .ok l else .error a:=by rw[v4Go]
theorem v4Go_first {k:Nat} {l:List Nat} {a:Nat} {s:List UInt8} {n len:Nat} (hl:l=[]) (h:numGo 0 0 s=(n,len)):v4Go (k+1) l a s=if len=0 then .error a else v4Go k (l++[n]) (a+len) (s.drop len):=by
 rw[v4Go,if_pos hl,h]
theorem v4Go_no {k:Nat} {l:List Nat} {a:Nat} {s:List UInt8} (hl:l≠[]) (h:¬s.head?=some 46):v4Go (k+1) l a s=.error a:=by
 rw[v4Go,if_neg hl,if_neg h]
theorem v4Go_dot {k:Nat} {l:List Nat} {a:Nat} {s:List UInt8} {n len:Nat} (hl:l≠[]) (hd:s.head?=some 46) (h:numGo 0 0 (s.drop 1)=(n,len)):v4Go (k+1) l a s=if len=0 then .error (a+1) else v4Go k (l++[n]) (a+1+len) ((s.drop 1).drop len):=by
 rw[v4Go,if_neg hl,if_pos hd,h]
set_option maxHeartbeats 4000000 in
set_option maxRecDepth 100000 in
theorem v4_any (s:ByteArray) (w:World) (ht:Table w) (hg:0<w.heap.size) (hs:s.size≤140737488355328):
  Calls Tryz.prog 172 #[.string s] w fun e w'=>e=.returned (v4V (v4 s.data.toList))∧Below w.heap.size w w':=by
 have HT:Hid (∀wx,Below w.heap.size w wx→Table wx):=fun wx hb=>ht.below hg hb
 have HNUM:Hid (∀(k:Nat) (wx:World),Below w.heap.size w wx→Calls Tryz.prog 205 #[.string (s.extract k s.size)] wx fun e w'=>e=.returned (.tuple #[.int .u8 ((numGo 0 0 (s.data.toList.drop k)).1:Nat),.int .i64 ((numGo 0 0 (s.data.toList.drop k)).2:Nat)])∧w'=wx):=fun k wx hb=>by
  have h:=number_any (s.extract k s.size) wx (HT.out wx hb) (by rw[ByteArray.size_extract];unfold maxLen;omega)
  rw[ext_drop]at h
  exact h
 have HPRE:Hid (∀(k:Nat) (wx:World),k≤s.size→Calls Tryz.prog 129 #[.string (s.extract k s.size),.string ⟨#[46]⟩] wx fun e w'=>e=.returned (.bool (decide ((s.data.toList.drop k).head?=some 46)))∧w'=wx):=fun k wx hk=>by
  have h:=hasp_any (s.extract k s.size) ⟨#[46]⟩ wx
  rw[ext_drop]at h
  have e:((s.data.toList.drop k).take (⟨#[46]⟩:ByteArray).size==(⟨#[46]⟩:ByteArray).data.toList)=decide ((s.data.toList.drop k).head?=some 46):=by
   rw[show(⟨#[46]⟩:ByteArray).size=1 from rfl,show(⟨#[46]⟩:ByteArray).data.toList=[46] from rfl]
   cases s.data.toList.drop k with
   |nil=>rfl
   |cons c r=>rw[Bool.eq_iff_iff];simp
  rw[e]at h
  exact h
 have H0:Hid (V4S w [] 0 ((((w.alloc (.cells #[.int .u8 0,.int .u8 0,.int .u8 0,.int .u8 0] 108)).alloc (.cells #[.int .i64 0,.int .i64 0] 32)).alloc (.cells #[.int .u8 0,.int .u8 0,.int .u8 0,.int .u8 0] 108)).alloc (.cells #[.int .i64 0] 3))):=
  ⟨(((Lies.new w _ _).alloc _).alloc _).alloc _,((new_one w _ _ _).alloc _).alloc _,(new_two w _ _ _ _).alloc _,by simpa using Lies.new (((w.alloc (.cells #[.int .u8 0,.int .u8 0,.int .u8 0,.int .u8 0] 108)).alloc (.cells #[.int .i64 0,.int .i64 0] 32)).alloc (.cells #[.int .u8 0,.int .u8 0,.int .u8 0,.int .u8 0] 108)) #[.int .i64 0] 3,((((Below.refl _ _).alloc (Nat.le_refl _) _).alloc (by simp) _).alloc (by simp;omega) _).alloc (by simp;omega) _⟩
 clear ht
 go_enter Tryz.func172,Tryz.ntmps172
 go_wp2_with fail
 go_loopw [11] (fun c wr=>∃(i a:Nat) (l:List Nat),i≤4∧a≤s.size∧c=.int .i64 i∧l.length=i∧Hid (V4S w l a wr)∧Hid (v4 s.data.toList=v4Go (4 - i) l a (s.data.toList.drop a))) (fun c _=>4 - (intOf c).toNat)
 case atStart=>exact⟨0,0,[],by omega,by omega,rfl,rfl,H0,rfl⟩
 case round=>
  obtain⟨i,a,l,hi,ha,rfl,hl,HS,HV⟩:=hrel
  clear H0
  have hz:=HS.out.pl.lt
  have hp3:wr.cell? ⟨w.heap.size+3,0,none⟩=some (.int .i64 (a:Int)):=HS.out.pl.cell 0
  have hf3:wr.frozen? ⟨w.heap.size+3,0,none⟩=false:=HS.out.pl.frozen 0
  by_cases h4:i<4
  ·by_cases h0:i=0
   ·subst h0
    obtain rfl:l=[]:=List.eq_nil_of_length_eq_zero hl
    have HSx:Hid (V4S w [] a wr):=HS
    clear HS
    go_wp2_with fail
    refine(HNUM.out (a) _ HSx.out.below).mono ?_
    rintro e w4 ⟨rfl,rfl⟩
    obtain⟨n,len,hnum⟩:∃n len,numGo 0 0 (s.data.toList.drop (a))=(n,len):=⟨_,_,rfl⟩
    have hb:=numGo_le (s.data.toList.drop (a)) 0 0 (by omega)
    rw[hnum]at hb ⊢
    rw[List.length_drop,len_list]at hb
    dsimp only at hb ⊢
    have HV2:Hid (v4 s.data.toList=if len=0 then .error (a) else v4Go (3 - 0) ([]++[n]) (a+len) (s.data.toList.drop (a+len))):=by
     show _=_
     rw[HV.out,show 4 - 0=3 - 0+1 from by omega,v4Go_first rfl hnum,List.drop_drop]
    clear hnum HV
    have hq3:w4.cell? ⟨w.heap.size+3,0,none⟩=some (.int .i64 ((a:Nat):Int)):=HSx.out.pl.cell 0
    have hg3:w4.frozen? ⟨w.heap.size+3,0,none⟩=false:=HSx.out.pl.frozen 0
    have hz3:=HSx.out.pl.lt
    by_cases hlen:len=0
    ·have HV:Hid (v4 s.data.toList=.error (a)):=by
      show _=_
      rw[HV2.out,if_pos hlen]
     subst hlen
     clear HV2
     go_wp2_with fail
     refine(v4wrong_any (w.heap.size+3) ((a:Nat):Int) _ (HSx.out.pl.cell 0) HSx.out.pl.lt).mono ?_
     rintro e w5 ⟨rfl,hb5⟩
     have HS5:Hid (V4S w [] (a) w5):=HSx.out.later hb5
     clear hb5
     go_wp2_with (first|(refine wpList_store_row rfl 108 _ _ rfl w.heap.size rfl _ #[.int .u8 0,.int .u8 0,.int .u8 0,.int .u8 0] rfl 108 HS5.out.r1 info4 rfl (by simp[Value.oneCell']) rfl ?_)|(refine wpList_store_row rfl 32 _ _ rfl (w.heap.size+1) rfl _ #[.int .i64 82,.int .i64 ((a:Nat):Int)] rfl 32 (HS5.out.r2.row_other (by omega) _) infoSp rfl (by simp[Value.oneCell']) rfl ?_))
     exact HS5.out.ret #[.int .u8 0,.int .u8 0,.int .u8 0,.int .u8 0] #[.int .i64 82,.int .i64 ((a:Nat):Int)] _ _ rfl rfl rfl rfl ⟨by rw[HV.out];rfl,below_two HS5.out.below (by omega)⟩
    ·have HV:Hid (v4 s.data.toList=v4Go (3 - 0) ([]++[n]) (a+len) (s.data.toList.drop (a+len))):=by
      show _=_
      rw[HV2.out,if_neg hlen]
     have hle:((len:Int)==0)=false:=by rw[beq_eq_false_iff_ne];omega
     clear HV2
     have hac:w4.cell? ⟨w.heap.size+2,0,none⟩=some (.int .u8 0):=HSx.out.acell (by first|omega|(simp only[List.length_nil];omega))
     have hai:=HSx.out.a.frozen 0
     have HSn:Hid (V4S w ([]++[n]) (a+len) ((w4.setCell ⟨w.heap.size+2,0,none⟩ (.int .u8 (n:Int))).setCell ⟨w.heap.size+3,0,none⟩ (.int .i64 (((a:Nat):Int)+(len:Int))))):=by
      have:=(HSx.out.put n (by first|omega|(simp only[List.length_nil];omega))).move (a+len)
      rw[Int.natCast_add (a) len]at this
      exact this
     clear HSx hlen
     go_wp2_with fail
     go_roundw
     case rel=>exact⟨0+1,a+len,[]++[n],by omega,by omega,by first|rfl|go_num,by simp,HSn,by show _=_;rw[HV.out,show 4 - (0+1)=3 - 0 from by omega]⟩
     case measure=>first|(simp[intOf];done)|(simp[intOf];omega)
   ·have hi1:(0:Int)<(i:Int):=by omega
    go_wp2_with fail
    refine(HPRE.out a _ ha).mono ?_
    rintro e w3 ⟨rfl,rfl⟩
    by_cases hdot:(s.data.toList.drop a).head?=some 46
    ·rw[decide_eq_true hdot]
     have ha1:a<s.size:=by
      rcases Nat.lt_or_ge a s.size with h|h
      ·exact h
      ·rw[drop_end s a h]at hdot;cases hdot
     have HSx:Hid (V4S w l (a+1) (w3.setCell ⟨w.heap.size+3,0,none⟩ (.int .i64 ((a:Int)+1)))):=HS.out.move (a+1)
     have HD:Hid ((s.data.toList.drop a).head?=some 46):=hdot
     clear hdot HS
     go_wp2_with fail
     have hdot:=HD.out
     clear HD hp3 hf3
     generalize w3.setCell ⟨w.heap.size+3,0,none⟩ (.int .i64 ((a:Int)+1))=wy at HSx ⊢
     refine(HNUM.out (a+1) _ HSx.out.below).mono ?_
     rintro e w4 ⟨rfl,rfl⟩
     obtain⟨n,len,hnum⟩:∃n len,numGo 0 0 (s.data.toList.drop (a+1))=(n,len):=⟨_,_,rfl⟩
     have hb:=numGo_le (s.data.toList.drop (a+1)) 0 0 (by omega)
     rw[hnum]at hb ⊢
     rw[List.length_drop,len_list]at hb
     dsimp only at hb ⊢
     have HV2:Hid (v4 s.data.toList=if len=0 then .error (a+1) else v4Go (3 - i) (l++[n]) (a+1+len) (s.data.toList.drop (a+1+len))):=by
      show _=_
      rw[HV.out,show 4 - i=3 - i+1 from by omega,v4Go_dot (n:=n) (len:=len) (fun h=>by rw[h]at hl;simp at hl;omega) hdot (by rw[List.drop_drop];exact hnum),List.drop_drop,List.drop_drop,←Nat.add_assoc]
     clear hnum HV h0
     have hq3:w4.cell? ⟨w.heap.size+3,0,none⟩=some (.int .i64 ((a+1:Nat):Int)):=HSx.out.pl.cell 0
     have hg3:w4.frozen? ⟨w.heap.size+3,0,none⟩=false:=HSx.out.pl.frozen 0
     have hz3:=HSx.out.pl.lt
     by_cases hlen:len=0
     ·have HV:Hid (v4 s.data.toList=.error (a+1)):=by
       show _=_
       rw[HV2.out,if_pos hlen]
      subst hlen
      clear HV2
      go_wp2_with fail
      refine(v4wrong_any (w.heap.size+3) ((a+1:Nat):Int) _ (HSx.out.pl.cell 0) HSx.out.pl.lt).mono ?_
      rintro e w5 ⟨rfl,hb5⟩
      have HS5:Hid (V4S w l (a+1) w5):=HSx.out.later hb5
      clear hb5
      go_wp2_with (first|(refine wpList_store_row rfl 108 _ _ rfl w.heap.size rfl _ #[.int .u8 0,.int .u8 0,.int .u8 0,.int .u8 0] rfl 108 HS5.out.r1 info4 rfl (by simp[Value.oneCell']) rfl ?_)|(refine wpList_store_row rfl 32 _ _ rfl (w.heap.size+1) rfl _ #[.int .i64 82,.int .i64 ((a+1:Nat):Int)] rfl 32 (HS5.out.r2.row_other (by omega) _) infoSp rfl (by simp[Value.oneCell']) rfl ?_))
      exact HS5.out.ret #[.int .u8 0,.int .u8 0,.int .u8 0,.int .u8 0] #[.int .i64 82,.int .i64 ((a+1:Nat):Int)] _ _ rfl rfl rfl rfl ⟨by rw[HV.out];rfl,below_two HS5.out.below (by omega)⟩
     ·have HV:Hid (v4 s.data.toList=v4Go (3 - i) (l++[n]) (a+1+len) (s.data.toList.drop (a+1+len))):=by
       show _=_
       rw[HV2.out,if_neg hlen]
      have hle:((len:Int)==0)=false:=by rw[beq_eq_false_iff_ne];omega
      clear HV2
      subst hl
      have hac:w4.cell? ⟨w.heap.size+2,l.length,none⟩=some (.int .u8 0):=HSx.out.acell (by first|omega|(simp only[List.length_nil];omega))
      have hai:=HSx.out.a.frozen l.length
      have hi0:(0:Int)≤(l.length:Int):=by omega
      have hi4:(l.length:Int)<4:=by omega
      have HSn:Hid (V4S w (l++[n]) (a+1+len) ((w4.setCell ⟨w.heap.size+2,l.length,none⟩ (.int .u8 (n:Int))).setCell ⟨w.heap.size+3,0,none⟩ (.int .i64 (((a+1:Nat):Int)+(len:Int))))):=by
       have:=(HSx.out.put n (by first|omega|(simp only[List.length_nil];omega))).move (a+1+len)
       rw[Int.natCast_add (a+1) len]at this
       exact this
      clear HSx hlen
      go_wp2_with fail
      go_roundw
      case rel=>exact⟨l.length+1,a+1+len,l++[n],by omega,by omega,by first|rfl|go_num,by simp,HSn,by show _=_;rw[HV.out,show 4 - (l.length+1)=3 - l.length from by omega]⟩
      case measure=>first|(simp[intOf];done)|(simp[intOf];omega)
    ·rw[decide_eq_false hdot]
     have HSx:Hid (V4S w l a w3):=HS
     have HV0:Hid (v4 s.data.toList=.error a):=by
      show _=_
      rw[HV.out,show 4 - i=3 - i+1 from by omega,v4Go_no (fun h=>by rw[h]at hl;simp at hl;omega) hdot]
     clear HS HV hdot
     have HV:=HV0
     clear HV0
     go_wp2_with fail
     refine(v4wrong_any (w.heap.size+3) ((a:Nat):Int) _ (HSx.out.pl.cell 0) HSx.out.pl.lt).mono ?_
     rintro e w5 ⟨rfl,hb5⟩
     have HS5:Hid (V4S w l a w5):=HSx.out.later hb5
     clear hb5
     go_wp2_with (first|(refine wpList_store_row rfl 108 _ _ rfl w.heap.size rfl _ #[.int .u8 0,.int .u8 0,.int .u8 0,.int .u8 0] rfl 108 HS5.out.r1 info4 rfl (by simp[Value.oneCell']) rfl ?_)|(refine wpList_store_row rfl 32 _ _ rfl (w.heap.size+1) rfl _ #[.int .i64 82,.int .i64 ((a:Nat):Int)] rfl 32 (HS5.out.r2.row_other (by omega) _) infoSp rfl (by simp[Value.oneCell']) rfl ?_))
     exact HS5.out.ret #[.int .u8 0,.int .u8 0,.int .u8 0,.int .u8 0] #[.int .i64 82,.int .i64 ((a:Nat):Int)] _ _ rfl rfl rfl rfl ⟨by rw[HV.out];rfl,below_two HS5.out.below (by omega)⟩
  ·obtain rfl:i=4:=by omega
   have HV1:Hid (v4 s.data.toList=if s.data.toList.drop a=[] then .ok l else .error a):=by
    show _=_
    rw[HV.out,v4Go_end]
   clear HV
   by_cases hend:a<s.size
   ·have HV:Hid (v4 s.data.toList=.error a):=by
     show _=_
     rw[HV1.out,if_neg (by rw[drop_head s a hend];simp)]
    have hend':(a:Int)<(s.size:Int):=by omega
    have HSx:=HS
    clear HV1 HS
    go_wp2_with fail
    refine(v4wrong_any (w.heap.size+3) ((a:Nat):Int) _ (HSx.out.pl.cell 0) HSx.out.pl.lt).mono ?_
    rintro e w5 ⟨rfl,hb5⟩
    have HS5:Hid (V4S w l a w5):=HSx.out.later hb5
    clear hb5
    go_wp2_with (first|(refine wpList_store_row rfl 108 _ _ rfl w.heap.size rfl _ #[.int .u8 0,.int .u8 0,.int .u8 0,.int .u8 0] rfl 108 HS5.out.r1 info4 rfl (by simp[Value.oneCell']) rfl ?_)|(refine wpList_store_row rfl 32 _ _ rfl (w.heap.size+1) rfl _ #[.int .i64 82,.int .i64 ((a:Nat):Int)] rfl 32 (HS5.out.r2.row_other (by omega) _) infoSp rfl (by simp[Value.oneCell']) rfl ?_))
    exact HS5.out.ret #[.int .u8 0,.int .u8 0,.int .u8 0,.int .u8 0] #[.int .i64 82,.int .i64 ((a:Nat):Int)] _ _ rfl rfl rfl rfl ⟨by rw[HV.out];rfl,below_two HS5.out.below (by omega)⟩
   ·have HV:Hid (v4 s.data.toList=.ok l):=by
     show _=_
     rw[HV1.out,if_pos (drop_end s a (by omega))]
    have hend':¬(a:Int)<(s.size:Int):=by omega
    have HA:Hid (Lies wr (w.heap.size+2) (bytesV l) 108):=by
     have:=HS.out.a
     rw[hl,List.replicate_zero,List.append_nil]at this
     exact this
    have hsz:(bytesV l).size=4:=by simp[bytesV,hl]
    clear HV1
    go_wp2_with (first|(refine wpList_load_row rfl 108 _ rfl (w.heap.size+2) rfl (bytesV l) 108 _ HA.out Tryz.underlying108 rfl (by rw[hsz];exact info4) ?_)|(refine wpList_store_row rfl 108 _ _ rfl w.heap.size rfl _ (bytesV l) rfl 108 HS.out.r1 (by rw[hsz];exact info4) hsz.symm (by simp[bytesV,Value.oneCell']) rfl ?_)|(refine wpList_store_row rfl 32 _ _ rfl (w.heap.size+1) rfl _ #[.int .i64 0,.int .i64 0] rfl 32 (HS.out.r2.row_other (by omega) _) infoSp rfl (by simp[Value.oneCell']) rfl ?_))
    exact HS.out.ret (bytesV l) #[.int .i64 0,.int .i64 0] _ _ rfl rfl hsz rfl ⟨by rw[HV.out];rfl,below_two HS.out.below (by omega)⟩
end Go.Proofs.YtfjpkfhbmldmfaaGreatDoor
