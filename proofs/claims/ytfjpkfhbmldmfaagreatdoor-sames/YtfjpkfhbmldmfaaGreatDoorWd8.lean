/-
  The contracts of domain's groups: room, whole, take, open.
-/
import Derived.Test.YtfjpkfhbmldmfaaGreatDoorV4a
import Derived.Test.YtfjpkfhbmldmfaaGreatDoorLate5
import Derived.Test.YtfjpkfhbmldmfaaGreatDoorChk
namespace Go.Proofs.YtfjpkfhbmldmfaaGreatDoor
open Go.RowKit
def l8 (l:List Nat):List Nat:=l++List.replicate (8 - l.length) 0
def grC (g:Gs):Array Value:=((l8 g.l).map (fun n=>Value.int .u16 (n:Nat))++[Value.int .i64 (g.l.length:Nat),Value.bool g.gap.isSome,Value.int .i64 (g.gap.getD 0:Nat)]).toArray
structure Gs.Ok (g:Gs):Prop where
 le:g.l.length≤8
 gap:∀k,g.gap=some k→k≤g.l.length∧g.l.length≤6
 lt:∀n∈g.l,n<65536
theorem l8_length (l:List Nat) (h:l.length≤8):(l8 l).length=8:=by simp[l8];omega
theorem grC_at (g:Gs) (h:g.l.length≤8) (k:Nat) (hk:k<8):(grC g)[k]?=some (.int .u16 ((l8 g.l)[k]'(by rw[l8_length _ h];exact hk):Nat)):=by
 unfold grC
 rw[List.getElem?_toArray,List.getElem?_append_left (by rw[List.length_map,l8_length _ h];exact hk),List.getElem?_map,List.getElem?_eq_getElem (by rw[l8_length _ h];exact hk)]
 rfl
theorem grC_n (g:Gs) (h:g.l.length≤8):(grC g)[8]?=some (.int .i64 (g.l.length:Nat))∧(grC g)[9]?=some (.bool g.gap.isSome)∧(grC g)[10]?=some (.int .i64 (g.gap.getD 0:Nat)):=by
 have e:((l8 g.l).map (fun n=>Value.int .u16 (n:Nat))).length=8:=by rw[List.length_map,l8_length _ h]
 unfold grC
 refine⟨?_,?_,?_⟩<;>rw[List.getElem?_toArray,List.getElem?_append_right (by omega),e]<;>rfl
structure GrAt (w:World) (b:Nat) (g:Gs):Prop where
 lies:Lies w b (grC g) 195
 ok:g.Ok
theorem GrAt.cells {w:World} {b:Nat} {g:Gs} (h:GrAt w b g):w.cell? ⟨b,8,none⟩=some (.int .i64 (g.l.length:Nat))∧w.cell? ⟨b,9,none⟩=some (.bool g.gap.isSome)∧w.cell? ⟨b,10,none⟩=some (.int .i64 (g.gap.getD 0:Nat)):=by
 obtain⟨h1,h2,h3⟩:=grC_n g h.ok.le
 exact⟨(h.lies.cell 8).trans h1,(h.lies.cell 9).trans h2,(h.lies.cell 10).trans h3⟩
theorem GrAt.but {w w':World} {b c:Nat} {g:Gs} (h:GrAt w b g) (hb:But c w w') (hne:b≠c):GrAt w' b g:=⟨hb.lies h.lies hne,h.ok⟩
theorem GrAt.below {w w':World} {b:Nat} {g:Gs} (h:GrAt w b g) (hb:Below w.heap.size w w'):GrAt w' b g:=⟨h.lies.below hb h.lies.lt,h.ok⟩
set_option maxHeartbeats 1000000 in
theorem room_any (b:Nat) (g:Gs) (w:World) (h:GrAt w b g):Calls Tryz.prog 201 #[.pointer (some ⟨b,0,none⟩)] w fun e w'=>e=.returned (.int .i64 (g.room:Nat))∧w'=w:=by
 obtain⟨c8,c9,_⟩:=h.cells
 have hle:=h.ok.le
 have hgp:=h.ok.gap
 have hb:=h.lies.lt
 unfold Gs.room
 obtain⟨n,hn⟩:∃n,n=g.l.length:=⟨_,rfl⟩
 rw[←hn]at c8 hle hgp ⊢
 clear h hn
 cases hg:g.gap with
 |none=>
  rw[hg]at c9
  simp only[Option.isSome_none]at c9 ⊢
  clear hgp hg
  go_enter Tryz.func201,Tryz.ntmps201
  go_wp2
  go_ret
  exact⟨by congr 2;simp;omega,rfl⟩
 |some k=>
  obtain⟨_,h6⟩:=hgp k hg
  rw[hg]at c9
  simp only[Option.isSome_some]at c9 ⊢
  clear hgp hg
  go_enter Tryz.func201,Tryz.ntmps201
  go_wp2
  go_ret
  exact⟨by congr 2;simp;omega,rfl⟩
set_option maxHeartbeats 1000000 in
theorem whole_any (b:Nat) (g:Gs) (k:Nat) (w:World) (h:GrAt w b g):Calls Tryz.prog 202 #[.pointer (some ⟨b,0,none⟩),.int .i64 (k:Nat)] w fun e w'=>e=.returned (.bool (g.whole k))∧w'=w:=by
 obtain⟨_,c9,_⟩:=h.cells
 have hb:=h.lies.lt
 have HR:Hid (Calls Tryz.prog 201 #[.pointer (some ⟨b,0,none⟩)] w fun e w'=>e=.returned (.int .i64 (g.room:Nat))∧w'=w):=room_any b g w h
 have hroom:g.room≤8:=by unfold Gs.room;split<;>omega
 unfold Gs.whole
 generalize g.room=r at HR hroom ⊢
 clear h
 cases hg:g.gap with
 |none=>
  rw[hg]at c9
  simp only[Option.isSome_none]at c9 ⊢
  go_enter Tryz.func202,Tryz.ntmps202
  go_wp2_with (go_at_call 201;refine HR.out.mono ?_;rintro e w' ⟨rfl,rfl⟩)
  go_ret
  exact⟨ret_bl (by show((k:Int)==(r:Int))=_;rw[Bool.eq_iff_iff];simp;omega),rfl⟩
 |some k0=>
  rw[hg]at c9
  simp only[Option.isSome_some]at c9 ⊢
  by_cases hkr:k≤r
  ·have hkr':(k:Int)≤(r:Int):=by omega
   go_enter Tryz.func202,Tryz.ntmps202
   go_wp2_with (go_at_call 201;refine HR.out.mono ?_;rintro e w' ⟨rfl,rfl⟩)
   go_ret
   exact⟨by congr 2;simp[hkr],rfl⟩
  ·have hkr':¬(k:Int)≤(r:Int):=by omega
   go_enter Tryz.func202,Tryz.ntmps202
   go_wp2_with (go_at_call 201;refine HR.out.mono ?_;rintro e w' ⟨rfl,rfl⟩)
   go_ret
   exact⟨ret_bl (by show((k:Int)==(r:Int))=_;rw[Bool.eq_iff_iff];simp;omega),rfl⟩
theorem grC_put (g:Gs) (n:Nat) (h:g.l.length<8):((grC g).setIfInBounds g.l.length (.int .u16 (n:Nat))).setIfInBounds 8 (.int .i64 ((g.l.length+1:Nat):Int))=grC (g.put n):=by
 obtain⟨l,gp⟩:=g
 unfold grC Gs.put l8
 simp only at h
 rw[List.setIfInBounds_toArray,List.setIfInBounds_toArray]
 congr 1
 match l,h with
 |[],_=>rfl
 |[_],_=>rfl
 |[_,_],_=>rfl
 |[_,_,_],_=>rfl
 |[_,_,_,_],_=>rfl
 |[_,_,_,_,_],_=>rfl
 |[_,_,_,_,_,_],_=>rfl
 |[_,_,_,_,_,_,_],_=>rfl
theorem grC_open (g:Gs) (h:g.l.length≤8):((grC g).setIfInBounds 9 (.bool true)).setIfInBounds 10 (.int .i64 (g.l.length:Nat))=grC g.open':=by
 have e:((l8 g.l).map (fun n=>Value.int .u16 (n:Nat))).length=8:=by rw[List.length_map,l8_length _ h]
 unfold grC Gs.open'
 rw[List.setIfInBounds_toArray,List.setIfInBounds_toArray]
 congr 1
 dsimp only
 rw[List.set_append_right _ _ (by omega),List.set_append_right _ _ (by omega),e]
 rfl
theorem Gs.Ok.put {g:Gs} (h:g.Ok) (n:Nat) (hn:n<65536) (hr:0<g.room):(g.put n).Ok:=by
 have hr':=hr
 unfold Gs.room at hr'
 refine⟨?_,fun k hk=>?_,fun m hm=>?_⟩
 ·simp only[Gs.put,List.length_append,List.length_singleton]
  split at hr'<;>omega
 ·have hk':g.gap=some k:=hk
  obtain⟨h1,h2⟩:=h.gap k hk'
  rw[hk',Option.isSome_some,if_pos rfl]at hr'
  simp only[Gs.put,List.length_append,List.length_singleton]
  omega
 ·rcases List.mem_append.1 hm with hm|hm
  ·exact h.lt m hm
  ·rw[List.mem_singleton.1 hm];exact hn
theorem Gs.Ok.open' {g:Gs} (h:g.Ok) (hr:g.l.length≤6):g.open'.Ok:=⟨h.le,fun k hk=>by
 have:g.l.length=k:=by injection hk
 show k≤g.l.length∧g.l.length≤6
 omega,h.lt⟩
set_option maxHeartbeats 2000000 in
set_option maxRecDepth 100000 in
theorem take_any8 (b:Nat) (g:Gs) (n:Nat) (hn:n<65536) (w:World) (h:GrAt w b g) (hr:0<g.room):Calls Tryz.prog 203 #[.pointer (some ⟨b,0,none⟩),.int .u16 (n:Nat)] w fun e w'=>e=.returned (.tuple #[])∧GrAt w' b (g.put n)∧But b w w':=by
 obtain⟨c8,_,_⟩:=h.cells
 have hb:=h.lies.lt
 have hok:=h.ok.put n hn hr
 have hl:g.l.length<8:=by
  have:=hok.le
  simp only[Gs.put,List.length_append,List.length_singleton]at this
  omega
 have f8:=h.lies.frozen 8
 have fl:=h.lies.frozen g.l.length
 have cl:w.cell? ⟨b,g.l.length,none⟩=some (.int .u16 ((l8 g.l)[g.l.length]'(by rw[l8_length _ (by omega)];exact hl):Nat)):=(h.lies.cell _).trans (grC_at g (by omega) _ hl)
 generalize ((l8 g.l)[g.l.length]'(by rw[l8_length _ (by omega)];exact hl):Nat)=old at cl
 have HL:Hid (Lies ((w.setCell ⟨b,g.l.length,none⟩ (.int .u16 (n:Nat))).setCell ⟨b,8,none⟩ (.int .i64 ((g.l.length+1:Nat):Int))) b (grC (g.put n)) 195):=by
  have:=(h.lies.set g.l.length (.int .u16 (n:Nat))).set 8 (.int .i64 ((g.l.length+1:Nat):Int))
  rw[grC_put g n hl]at this
  exact this
 have HB:Hid (But b w ((w.setCell ⟨b,g.l.length,none⟩ (.int .u16 (n:Nat))).setCell ⟨b,8,none⟩ (.int .i64 ((g.l.length+1:Nat):Int)))):=((But.refl b w).set _ _).set _ _
 clear h
 generalize hm:g.l.length=m at c8 hl fl cl HL HB
 have hne:m≠8:=by omega
 have h0:(0:Int)≤(m:Int):=by omega
 have h8:(m:Int)<8:=by omega
 clear hm
 go_enter Tryz.func203,Tryz.ntmps203
 go_wp2_with fail
 go_region
 all_goals go_wp2
 all_goals go_end0
 all_goals exact⟨rfl,⟨HL.out,hok⟩,⟨HB.out.os,HB.out.tape,HB.out.output,HB.out.size,HB.out.block⟩⟩
set_option maxHeartbeats 2000000 in
set_option maxRecDepth 100000 in
theorem open_any8 (b:Nat) (g:Gs) (w:World) (h:GrAt w b g) (hm:g.mayOpen=true):Calls Tryz.prog 198 #[.pointer (some ⟨b,0,none⟩)] w fun e w'=>e=.returned (.bool true)∧GrAt w' b g.open'∧But b w w':=by
 obtain⟨c8,c9,c10⟩:=h.cells
 have hb:=h.lies.lt
 have hle:=h.ok.le
 obtain⟨hgn,h6⟩:g.gap.isSome=false∧g.l.length≤6:=by simpa [Gs.mayOpen] using hm
 have hok:=h.ok.open' h6
 have f9:=h.lies.frozen 9
 have f10:=h.lies.frozen 10
 rw[hgn]at c9
 have h6':¬(6:Int)<(g.l.length:Int):=by omega
 have HL:Hid (Lies ((w.setCell ⟨b,9,none⟩ (.bool true)).setCell ⟨b,10,none⟩ (.int .i64 (g.l.length:Nat))) b (grC g.open') 195):=by
  have:=(h.lies.set 9 (.bool true)).set 10 (.int .i64 (g.l.length:Nat))
  rw[grC_open g hle]at this
  exact this
 have HB:Hid (But b w ((w.setCell ⟨b,9,none⟩ (.bool true)).setCell ⟨b,10,none⟩ (.int .i64 (g.l.length:Nat)))):=((But.refl b w).set _ _).set _ _
 clear h hm hgn
 go_enter Tryz.func198,Tryz.ntmps198
 go_wp2
 go_ret
 exact⟨rfl,⟨HL.out,hok⟩,HB.out⟩
set_option maxHeartbeats 2000000 in
set_option maxRecDepth 100000 in
theorem open_no8 (b:Nat) (g:Gs) (w:World) (h:GrAt w b g) (hm:g.mayOpen=false):Calls Tryz.prog 198 #[.pointer (some ⟨b,0,none⟩)] w fun e w'=>e=.returned (.bool false)∧w'=w:=by
 obtain⟨c8,c9,c10⟩:=h.cells
 have hb:=h.lies.lt
 have hle:=h.ok.le
 unfold Gs.mayOpen at hm
 clear h
 cases hg:g.gap with
 |none=>
  have h6':(6:Int)<(g.l.length:Int):=by
   rw[hg]at hm
   simp at hm
   omega
  rw[hg]at c9
  simp only[Option.isSome_none]at c9
  clear hm hg
  go_enter Tryz.func198,Tryz.ntmps198
  go_wp2
  go_ret
  exact⟨rfl,rfl⟩
 |some k=>
  rw[hg]at c9
  simp only[Option.isSome_some]at c9
  clear hm hg
  go_enter Tryz.func198,Tryz.ntmps198
  go_wp2
  go_ret
  exact⟨rfl,rfl⟩
open Go.RowKit
theorem info16:(Tryz.prog.info? 23).map (·.size)=some 16:=by kernel_rfl
theorem bytesV_size (l:List Nat):(bytesV l).size=l.length:=by simp[bytesV]
theorem bytesV_one (l:List Nat):(bytesV l).all (·.oneCell')=true:=by simp[bytesV,Value.oneCell']
theorem bytesV_at (l:List Nat) (k:Nat) (h:k<l.length):(bytesV l)[k]?=some (.int .u8 (l[k]:Nat)):=by
 unfold bytesV
 rw[List.getElem?_toArray,List.getElem?_map,List.getElem?_eq_getElem h]
 rfl
theorem bytesV_set (l:List Nat) (k n:Nat):(bytesV l).setIfInBounds k (.int .u8 (n:Nat))=bytesV (l.set k n):=by
 unfold bytesV
 rw[List.setIfInBounds_toArray,List.map_set]
def partA (g:Gs):Nat→List Nat
 |0=>List.replicate 16 0
 |i+1=>((partA g i).set (2*(if g.gap.isSome=true∧g.gap.getD 0≤i then i+(8 - g.l.length) else i)) (g.l.getD i 0 / 256)).set (2*(if g.gap.isSome=true∧g.gap.getD 0≤i then i+(8 - g.l.length) else i)+1) (g.l.getD i 0 % 256)
theorem partA_length (g:Gs):∀i,(partA g i).length=16
 |0=>by simp[partA]
 |i+1=>by rw[partA,List.length_set,List.length_set,partA_length g i]
theorem twoB_set:∀(a:List Nat) (k n:Nat),((twoB a).set (2*k) (n / 256)).set (2*k+1) (n % 256)=twoB (a.set k n)
 |[],k,n=>by simp[twoB]
 |x::a,0,n=>by simp[twoB]
 |x::a,k+1,n=>by
  have e:((twoB (x::a)).set (2*(k+1)) (n / 256)).set (2*(k+1)+1) (n % 256)=x / 256::x % 256::((twoB a).set (2*k) (n / 256)).set (2*k+1) (n % 256):=rfl
  rw[e,twoB_set a k n]
  rfl
def partG (g:Gs):Nat→List Nat
 |0=>List.replicate 8 0
 |i+1=>(partG g i).set (if g.gap.isSome=true∧g.gap.getD 0≤i then i+(8 - g.l.length) else i) (g.l.getD i 0)
theorem partA_G (g:Gs):∀i,partA g i=twoB (partG g i)
 |0=>rfl
 |i+1=>by rw[partA,partA_G g i,twoB_set,partG]
theorem partG_some (k:Nat):∀(l:List Nat),k≤l.length→l.length≤6→partG ⟨l,some k⟩ l.length=Gs.all ⟨l,some k⟩
 |[],hok,_=>by
  match k,hok with
  |0,_=>rfl
  |k+1,h=>exact absurd h (by simp only[List.length_nil];omega)
 |[x0],hok,_=>by
  match k,hok with
  |0,_=>rfl
  |1,_=>rfl
  |k+2,h=>exact absurd h (by simp only[List.length_cons,List.length_nil];omega)
 |[x0,x1],hok,_=>by
  match k,hok with
  |0,_=>rfl
  |1,_=>rfl
  |2,_=>rfl
  |k+3,h=>exact absurd h (by simp only[List.length_cons,List.length_nil];omega)
 |[x0,x1,x2],hok,_=>by
  match k,hok with
  |0,_=>rfl
  |1,_=>rfl
  |2,_=>rfl
  |3,_=>rfl
  |k+4,h=>exact absurd h (by simp only[List.length_cons,List.length_nil];omega)
 |[x0,x1,x2,x3],hok,_=>by
  match k,hok with
  |0,_=>rfl
  |1,_=>rfl
  |2,_=>rfl
  |3,_=>rfl
  |4,_=>rfl
  |k+5,h=>exact absurd h (by simp only[List.length_cons,List.length_nil];omega)
 |[x0,x1,x2,x3,x4],hok,_=>by
  match k,hok with
  |0,_=>rfl
  |1,_=>rfl
  |2,_=>rfl
  |3,_=>rfl
  |4,_=>rfl
  |5,_=>rfl
  |k+6,h=>exact absurd h (by simp only[List.length_cons,List.length_nil];omega)
 |[x0,x1,x2,x3,x4,x5],hok,_=>by
  match k,hok with
  |0,_=>rfl
  |1,_=>rfl
  |2,_=>rfl
  |3,_=>rfl
  |4,_=>rfl
  |5,_=>rfl
  |6,_=>rfl
  |k+7,h=>exact absurd h (by simp only[List.length_cons,List.length_nil];omega)
 |_::_::_::_::_::_::_::r,_,h=>absurd h (by simp only[List.length_cons];omega)
theorem partG_all (g:Gs) (h:g.Ok) (hf:g.gap=none→g.l.length=8):partG g g.l.length=g.all:=by
 obtain⟨l,gp⟩:=g
 cases gp with
 |none=>
  have h8:l.length=8:=hf rfl
  match l,h8 with
  |[x0,x1,x2,x3,x4,x5,x6,x7],_=>rfl
 |some k=>
  obtain⟨h1,h2⟩:=h.gap k rfl
  exact partG_some k l h1 h2
theorem partA_all (g:Gs) (h:g.Ok) (hf:g.gap=none→g.l.length=8):partA g g.l.length=g.addr:=by
 rw[partA_G,partG_all g h hf]
 rfl
structure AdS (w:World) (b:Nat) (g:Gs) (i:Nat) (wr:World):Prop where
 r:Lies wr w.heap.size (bytesV (List.replicate 16 0)) 23
 a:Lies wr (w.heap.size+1) (bytesV (partA g i)) 23
 g:Lies wr b (grC g) 195
 below:Below w.heap.size w wr
theorem AdS.put {w wr:World} {b:Nat} {g:Gs} {i:Nat} (h:AdS w b g i wr) (hb:b<w.heap.size) (T x:Nat) (hT:(if g.gap.isSome=true∧g.gap.getD 0≤i then i+(8 - g.l.length) else i)=T) (hx:g.l.getD i 0=x):
  AdS w b g (i+1) ((wr.setCell ⟨w.heap.size+1,2*T,none⟩ (.int .u8 ((x:Int) / 256))).setCell ⟨w.heap.size+1,2*T+1,none⟩ (.int .u8 ((x:Int) % 256))):=by
 have e:bytesV (partA g (i+1))=((bytesV (partA g i)).setIfInBounds (2*T) (.int .u8 ((x:Int) / 256))).setIfInBounds (2*T+1) (.int .u8 ((x:Int) % 256)):=by
  have e1:((x:Int) / 256)=((x / 256:Nat):Int):=by omega
  have e2:((x:Int) % 256)=((x % 256:Nat):Int):=by omega
  rw[e1,e2,bytesV_set,bytesV_set,partA,hT,hx]
 refine⟨(h.r.set_other (a:=⟨w.heap.size+1,2*T,none⟩) (by show w.heap.size≠w.heap.size+1;omega) _).set_other (a:=⟨w.heap.size+1,2*T+1,none⟩) (by show w.heap.size≠w.heap.size+1;omega) _,?_,(h.g.set_other (a:=⟨w.heap.size+1,2*T,none⟩) (by show b≠w.heap.size+1;omega) _).set_other (a:=⟨w.heap.size+1,2*T+1,none⟩) (by show b≠w.heap.size+1;omega) _,(h.below.setCell (p:=⟨w.heap.size+1,2*T,none⟩) (by show w.heap.size≤w.heap.size+1;omega) _).setCell (p:=⟨w.heap.size+1,2*T+1,none⟩) (by show w.heap.size≤w.heap.size+1;omega) _⟩
 rw[e]
 exact(h.a.set _ _).set _ _
theorem results_row {P:Program} {fn:Func} {p:Tmp} {ty:TypeId} (h:fn.results=#[.cell p ty]) (tmps:Array Value) (w:World) (g1:Nat) (t1:TypeId) (cs:Array Value) (f1:Nat×Nat) (d1:TypeDesc)
  (hp:tmps.getD p undef=.pointer (some ⟨g1,0,none⟩)) (hg1:w.heap[g1]?=some (.cells cs t1 f1))
  (hu1:P.underlying ty=some d1) (hd1:(match d1 with| .struct _| .array _ _=>true|_=>false)=true) (hi1:(P.info? ty).map (·.size)=some cs.size):
  (results fn tmps).run P w=.ok (.agg cs) w:=by
 have hp':tmps[p]?.getD undef=.pointer (some ⟨g1,0,none⟩):=by simpa using hp
 simp[results,h,hp',asAddr,run_loadVar_row w g1 t1 ty cs f1 d1 hg1 hu1 hd1 hi1]
set_option maxHeartbeats 4000000 in
set_option maxRecDepth 100000 in
theorem addr_any (b:Nat) (g:Gs) (w:World) (h:GrAt w b g) (hf:g.gap=none→g.l.length=8):Calls Tryz.prog 199 #[.pointer (some ⟨b,0,none⟩)] w fun e w'=>e=.returned (.agg (bytesV g.addr))∧Below w.heap.size w w':=by
 have hb:=h.lies.lt
 have hok:=h.ok
 have hle:=h.ok.le
 have hle':(g.l.length:Int)≤8:=by omega
 obtain⟨c8,c9,c10⟩:=h.cells
 have H0:Hid (AdS w b g 0 ((w.alloc (.cells (bytesV (List.replicate 16 0)) 23)).alloc (.cells (bytesV (List.replicate 16 0)) 23))):=
  ⟨(Lies.new w _ _).alloc _,new_one w _ _ _,(h.lies.alloc _).alloc _,((Below.refl _ _).alloc (Nat.le_refl _) _).alloc (by simp) _⟩
 clear h
 go_enter Tryz.func199,Tryz.ntmps199
 go_wp2_with fail
 go_region
 go_wp2_with fail
 go_loopw [16] (fun c wr=>∃i:Nat,i≤g.l.length∧c=.int .i64 i∧Hid (AdS w b g i wr)) (fun c _=>8 - (intOf c).toNat)
 case atStart=>exact⟨0,by omega,rfl,⟨H0.out.r,H0.out.a,H0.out.g,H0.out.below.drew⟩⟩
 case round=>
  obtain⟨i,hi,rfl,HS⟩:=hrel
  clear H0 c8 c9 c10
  have HG:Hid (GrAt wr b g):=⟨HS.out.g,hok⟩
  obtain⟨c8,c9,c10⟩:=HG.out.cells
  have hz:=HS.out.a.lt
  by_cases hlt:i<g.l.length
  ·have hx:wr.cell? ⟨b,i,none⟩=some (.int .u16 (g.l[i]:Nat)):=by
    rw[HS.out.g.cell,grC_at g hle i (by omega)]
    congr 3
    simp only[l8]
    rw[List.getElem_append_left hlt]
   have hxl:g.l[i]<65536:=hok.lt _ (List.getElem_mem hlt)
   have hxd:g.l.getD i 0=g.l[i]:=by rw[List.getD,List.getElem?_eq_getElem hlt];rfl
   have hlt':(i:Int)<(g.l.length:Int):=by omega
   generalize g.l[i]=x at hx hxl hxd
   have hA:∀k,k<16→∃v,wr.cell? ⟨w.heap.size+1,k,none⟩=some v:=fun k hk=>⟨_,(HS.out.a.cell k).trans (bytesV_at _ k (by rw[partA_length];exact hk))⟩
   by_cases hgap:g.gap.isSome=true∧g.gap.getD 0≤i
   ·obtain⟨hgs,hgi⟩:=hgap
    have hgi':(g.gap.getD 0:Int)≤(i:Int):=by omega
    obtain⟨d,hd⟩:∃d,d=8 - g.l.length:=⟨_,rfl⟩
    have hd':(8:Int) - (g.l.length:Int)=(d:Int):=by omega
    obtain⟨v1,hv1⟩:=hA (2*(i+d)) (by omega)
    obtain⟨v2,hv2⟩:=hA (2*(i+d)+1) (by omega)
    have f1:=HS.out.a.frozen (2*(i+d))
    have f2:=HS.out.a.frozen (2*(i+d)+1)
    have HN:Hid (AdS w b g (i+1) ((wr.setCell ⟨w.heap.size+1,2*(i+d),none⟩ (.int .u8 ((x:Int) / 256))).setCell ⟨w.heap.size+1,2*(i+d)+1,none⟩ (.int .u8 ((x:Int) % 256)))):=HS.out.put hb (i+d) x (by rw[if_pos ⟨hgs,hgi⟩,hd]) hxd
    have hid:i+d<8:=by omega
    have hid':(i:Int)+(d:Int)<8:=by omega
    rw[hgs]at c9
    clear hA hxd hd HS HG hgi
    go_wp2_with fail
    go_roundw
    case rel=>exact⟨i+1,by omega,by go_num,HN⟩
    case measure=>simp[intOf];omega
   ·obtain⟨v1,hv1⟩:=hA (2*i) (by omega)
    obtain⟨v2,hv2⟩:=hA (2*i+1) (by omega)
    have f1:=HS.out.a.frozen (2*i)
    have f2:=HS.out.a.frozen (2*i+1)
    have HN:Hid (AdS w b g (i+1) ((wr.setCell ⟨w.heap.size+1,2*i,none⟩ (.int .u8 ((x:Int) / 256))).setCell ⟨w.heap.size+1,2*i+1,none⟩ (.int .u8 ((x:Int) % 256)))):=HS.out.put hb i x (by rw[if_neg hgap]) hxd
    clear hA hxd HS HG
    cases hgs:g.gap.isSome with
    |false=>
     rw[hgs]at c9
     clear hgap hgs
     go_wp2_with fail
     go_roundw
     case rel=>exact⟨i+1,by omega,by go_num,HN⟩
     case measure=>simp[intOf];omega
    |true=>
     have hgi':¬(g.gap.getD 0:Int)≤(i:Int):=by
      intro h
      exact hgap ⟨hgs,by omega⟩
     rw[hgs]at c9
     clear hgap hgs
     go_wp2_with fail
     go_roundw
     case rel=>exact⟨i+1,by omega,by go_num,HN⟩
     case measure=>simp[intOf];omega
  ·obtain rfl:i=g.l.length:=by omega
   have HA:Hid (Lies wr (w.heap.size+1) (bytesV g.addr) 23):=by
    have:=HS.out.a
    rw[partA_all g hok hf]at this
    exact this
   have hsz:(bytesV g.addr).size=16:=by rw[bytesV_size,←partA_all g hok hf,partA_length]
   have HR:Hid (Lies (wr.setRow w.heap.size (bytesV g.addr)) w.heap.size (bytesV g.addr) 23):=HS.out.r.row _
   have HB:Hid (Below w.heap.size w (wr.setRow w.heap.size (bytesV g.addr))):=below_row HS.out.below (Nat.le_refl _) _
   go_wp2_with (first|(refine wpList_load_row rfl 23 _ rfl (w.heap.size+1) rfl (bytesV g.addr) 23 _ HA.out Tryz.underlying23 rfl (by rw[hsz];exact info16) ?_)|(refine wpList_store_row rfl 23 _ _ rfl w.heap.size rfl _ (bytesV g.addr) rfl 23 HS.out.r (by rw[hsz];exact info16) (by rw[hsz];rfl) (bytesV_one _) rfl ?_))
   exact bodyPost_ret (results_row (p:=2) (by kernel_rfl) _ _ w.heap.size 23 _ (0,0) _ rfl HR.out Tryz.underlying23 rfl (by rw[hsz];exact info16)) rfl ⟨rfl,HB.out⟩
def ldB (c:UInt8):Bool:=dgB c||(decide (65≤c.toNat)&&decide (c.toNat≤90))||(decide (97≤c.toNat)&&decide (c.toNat≤122))
def lbB (c:UInt8):Bool:=ldB c||decide (c=45)
def plB (c:UInt8):Bool:=decide (33≤c.toNat)&&decide (c.toNat≤126)&&!decide (c=91)&&!decide (c=92)&&!decide (c=93)
def smB (c:UInt8):UInt8:=if 65≤c.toNat∧c.toNat≤90 then UInt8.ofNat (c.toNat+32) else c
def sml (s:List UInt8):List UInt8:=s.map smB
def spB (f:UInt8→Bool):List UInt8→Nat
 |[]=>0
 |c::r=>if f c=true then spB f r+1 else 0
theorem spB_le (f:UInt8→Bool):∀l:List UInt8,spB f l≤l.length
 |[]=>Nat.le_refl _
 |c::r=>by
  rw[spB,List.length_cons]
  have:=spB_le f r
  split<;>omega
def stB (formed a n:Nat) (c:UInt8):Bool:=ldB c||(decide (c=45)&&decide (0<n))||(decide (128≤c.toNat)&&decide (a<formed))
def wdGo (formed:Nat):Nat→Nat→Bool→List UInt8→Option Nat
 |a,n,h,[]=>if 0<n∧h=false then none else some a
 |a,n,h,c::r=>
  if c=46 then (if 0<n∧h=false then wdGo formed (a+1) 0 false r else some a)
  else if n=63∨stB formed a n c=false then some a
  else wdGo formed (a+1) (n+1) (decide (c=45)) r
def wd (wide:Bool) (s:List UInt8):Nat×Nat:=
 if 255<s.length then (81,255)
 else match wdGo (if wide then badU s else 0) 0 0 false s with
  |none=>(0,0)
  |some a=>(80,a)
def tagged (t:List UInt8) (k:Nat):Nat×Nat:=
 if spB lbB (t.take k)<k∨k=0∨t[k - 1]?=some 45 then (83,spB lbB (t.take k))
 else if k+1+spB plB (t.drop (k+1))<t.length∨spB plB (t.drop (k+1))=0 then (83,k+1+spB plB (t.drop (k+1)))
 else (0,0)
def colonAt:List UInt8→Option Nat
 |[]=>none
 |c::r=>if c=58 then some 0 else (colonAt r).map (· +1)
def sixB (t:List UInt8):Bool:=decide (5≤t.length)&&decide (sml (t.take 5)=[105,112,118,54,58])
structure Ho where
 k:Int
 n:List UInt8
 a:List Nat
deriving DecidableEq
def z16:List Nat:=List.replicate 16 0
def ho0:Ho:=⟨0,[],z16⟩
def told (p:Nat) (h:Ho) (e:Nat×Nat):Ho×(Nat×Nat):=if e.1=0 then (h,(0,0)) else (ho0,(e.1,p+e.2))
def spotOf {α:Type} (r:Except Nat α):Nat×Nat:=match r with
 | .ok _=>(0,0)
 | .error p=>(82,p)
def addrOf (k:Nat) (r:Except Nat (List Nat)):List Nat:=match r with
 | .ok l=>l
 | .error _=>List.replicate k 0
def fourH (l:List Nat):Ho:=⟨2,[],l++List.replicate 12 0⟩
def lit (s:List UInt8):Ho×(Nat×Nat):=
 if 255<s.length then (ho0,(82,255))
 else if s.getLast?≠some 93 then (ho0,(82,s.length))
 else if sixB ((s.drop 1).take (s.length - 2))=true then told 6 ⟨3,[],addrOf 16 (v6 (((s.drop 1).take (s.length - 2)).drop 5))⟩ (spotOf (v6 (((s.drop 1).take (s.length - 2)).drop 5)))
 else match colonAt ((s.drop 1).take (s.length - 2)) with
  |some k=>told 1 ⟨4,(s.drop 1).take (s.length - 2),z16⟩ (tagged ((s.drop 1).take (s.length - 2)) k)
  |none=>told 1 (fourH (addrOf 4 (v4 ((s.drop 1).take (s.length - 2))))) (spotOf (v4 ((s.drop 1).take (s.length - 2))))
def parse (s:List UInt8) (wide:Bool):Ho×(Nat×Nat):=
 if s.head?=some 91 then lit s
 else if (wd wide s).1=0 then (⟨1,s,z16⟩,(0,0)) else (ho0,wd wide s)
def chTag (t:List UInt8):Nat:=
 if 253<t.length then 82
 else match colonAt t with
  |none=>83
  |some k=>if sixB t=true then 83 else (tagged t k).1
def check (h:Ho) (wide:Bool):Nat:=
 if h.k=1 then (if h.a=z16 then (wd wide h.n).1 else 2)
 else if h.k=2 then (if h=fourH (h.a.take 4) then 0 else 2)
 else if h.k=3 then (if h.n=[] then 0 else 2)
 else if h.k=4 then (if h.a=z16 then chTag h.n else 2)
 else 2
def print (h:Ho):List UInt8×Nat:=
 if check h true=0 then
  (if h.k=2 then [91]++print4 (h.a.take 4)++[93]
  else if h.k=3 then [91,73,80,118,54,58]++print6 h.a++[93]
  else if h.k=4 then [91]++h.n++[93]
  else h.n,0)
 else ([],check h true)
def widthN (k:Int):Int:=if k=2 then 32 else if k=3 then 128 else -1
def cutB (i:Nat) (bits:Int) (x:Nat):Nat:=if bits - 8*i<8 then x - x % 2 ^ (8 - (max (bits - 8*i) 0).toNat) else x
def cutGo:Nat→Int→List Nat→List Nat
 |_,_,[]=>[]
 |i,bits,x::r=>cutB i bits x::cutGo (i+1) bits r
def within (a b:Ho) (bits:Int):Bool:=
 decide (a.k=b.k)&&decide (check a false=0)&&decide (check b false=0)&&decide (0≤bits)&&decide (bits≤widthN a.k)&&decide (cutGo 0 bits a.a=cutGo 0 bits b.a)
open Go.RowKit
theorem ld_fin:∀b:Fin 256,isB 3 (b.val:Int)=ldB (UInt8.ofNat b.val)∧isB 14 (b.val:Int)=decide (128≤b.val)∧isB 10 (b.val:Int)=lbB (UInt8.ofNat b.val)∧isB 7 (b.val:Int)=plB (UInt8.ofNat b.val)∧isB 13 (b.val:Int)=decide (b.val<128):=by decide+kernel
theorem ld_is (c:UInt8):isB 3 (c.toNat:Int)=ldB c∧isB 14 (c.toNat:Int)=decide (128≤c.toNat)∧isB 10 (c.toNat:Int)=lbB c∧isB 7 (c.toNat:Int)=plB c∧isB 13 (c.toNat:Int)=decide (c.toNat<128):=by
 have:=ld_fin ⟨c.toNat,c.toNat_lt⟩
 simpa using this
def mE (s:ByteArray) (a b:Nat):Bool:=decide (b<a)&&!decide (s.data.toList[a - 1]?=some 45)
theorem list_at (s:ByteArray) (k:Nat) (h:k<s.size):s.data.toList[k]?=some s[k]:=by
 rw[List.getElem?_eq_getElem (by rw[len_list];exact h)]
 rfl
def spotV (e:Nat×Nat):Array Value:=#[.int .i64 (e.1:Nat),.int .i64 (e.2:Nat)]
set_option maxHeartbeats 1000000 in
set_option maxRecDepth 100000 in
theorem wdw_any (b:Nat) (p:Nat) (w:World) (hc:w.cell? ⟨b,0,none⟩=some (.int .i64 (p:Nat))):
  Calls Tryz.prog 136 #[.pointer (some ⟨b,0,none⟩)] w fun e w'=>e=.returned (.agg #[.int .i64 80,.int .i64 (p:Nat)])∧Below w.heap.size w w':=by
 have hb:b<w.heap.size:=World.block_lt_of_cell? w _ hc
 have HL:Hid (Lies ((w.alloc (.cells #[.int .i64 0,.int .i64 0] 32)).setRow w.heap.size #[.int .i64 80,.int .i64 (p:Int)]) w.heap.size #[.int .i64 80,.int .i64 (p:Int)] 32):=(Lies.new w _ _).row _
 have HL0:Hid (Lies (w.alloc (.cells #[.int .i64 0,.int .i64 0] 32)) w.heap.size #[.int .i64 0,.int .i64 0] 32):=Lies.new w _ _
 have HB:Hid (Below w.heap.size w ((w.alloc (.cells #[.int .i64 0,.int .i64 0] 32)).setRow w.heap.size #[.int .i64 80,.int .i64 (p:Int)])):=below_row ((Below.refl _ _).alloc (Nat.le_refl _) _) (Nat.le_refl _) _
 go_enter Tryz.func136,Tryz.ntmps136
 go_wp2_with (refine wpList_store_row rfl 32 _ _ rfl w.heap.size rfl _ #[.int .i64 80,.int .i64 (p:Int)] rfl 32 HL0.out infoSp rfl (by simp[Value.oneCell']) rfl ?_)
 exact bodyPost_ret (results_row (p:=1) (by kernel_rfl) _ _ w.heap.size 32 _ (0,0) _ rfl HL.out Tryz.underlying32 rfl infoSp) rfl ⟨rfl,HB.out⟩
set_option maxHeartbeats 1000000 in
set_option maxRecDepth 100000 in
theorem wdm_any (pa pb ps:Nat) (s:ByteArray) (a b:Nat) (w:World) (h1:w.cell? ⟨pa,0,none⟩=some (.int .i64 (a:Nat))) (h2:w.cell? ⟨pb,0,none⟩=some (.int .i64 (b:Nat))) (h3:w.cell? ⟨ps,0,none⟩=some (.string s)) (ha:a≤s.size) (hs:s.size≤255):
  Calls Tryz.prog 137 #[.pointer (some ⟨pa,0,none⟩),.pointer (some ⟨pb,0,none⟩),.pointer (some ⟨ps,0,none⟩)] w fun e w'=>e=.returned (.bool (mE s a b))∧w'=w:=by
 have z1:=World.block_lt_of_cell? w _ h1
 have z2:=World.block_lt_of_cell? w _ h2
 have z3:=World.block_lt_of_cell? w _ h3
 dsimp only at z1 z2 z3
 by_cases hlt:b<a
 ·obtain⟨k,rfl⟩:∃k,a=k+1:=⟨a - 1,by omega⟩
  have hk:k<s.size:=by omega
  have hlt':(b:Int)<(k:Int)+1:=by omega
  have hE:mE s (k+1) b=!(s[k]==45):=by
   unfold mE
   rw[decide_eq_true hlt,Bool.true_and,Nat.add_sub_cancel,list_at s k hk,Bool.eq_iff_iff]
   simp
  have h1':w.cell? ⟨pa,0,none⟩=some (.int .i64 ((k:Int)+1)):=h1
  rw[hE]
  clear hE hlt h1
  have he:((s[k].toNat:Int) != 45)=!(s[k]==45):=by
   rw[bne,Bool.eq_iff_iff]
   simp only[Bool.not_eq_true',beq_eq_false_iff_ne,ne_eq]
   constructor
   ·intro h e
    exact h (by rw[e];rfl)
   ·intro h e
    exact h (UInt8.toNat_inj.1 (by rw[show(45:UInt8).toNat=45 from rfl];omega))
  have HE:Hid (((s[k].toNat:Int) != 45)=!(s[k]==45)):=he
  clear he
  go_enter Tryz.func137,Tryz.ntmps137
  go_wp2_with fail
  go_ret
  refine⟨?_,rfl⟩
  show Ending.returned (.bool ((s[k].toNat:Int) != 45))=_
  rw[HE.out]
 ·have hE:mE s a b=false:=by
   unfold mE
   rw[decide_eq_false hlt,Bool.false_and]
  rw[hE]
  have hlt':¬(b:Int)<(a:Int):=by omega
  clear hlt hE
  go_enter Tryz.func137,Tryz.ntmps137
  go_wp2_with fail
  go_ret
  exact⟨rfl,rfl⟩
set_option maxHeartbeats 2000000 in
set_option maxRecDepth 100000 in
theorem wds_any (pa pb ps pf:Nat) (s:ByteArray) (a b f:Nat) (w:World) (ht:Table w) (h1:w.cell? ⟨pa,0,none⟩=some (.int .i64 (a:Nat))) (h2:w.cell? ⟨pb,0,none⟩=some (.int .i64 (b:Nat))) (h3:w.cell? ⟨ps,0,none⟩=some (.string s)) (h4:w.cell? ⟨pf,0,none⟩=some (.int .i64 (f:Nat))) (ha:a<s.size):
  Calls Tryz.prog 138 #[.pointer (some ⟨ps,0,none⟩),.pointer (some ⟨pa,0,none⟩),.pointer (some ⟨pb,0,none⟩),.pointer (some ⟨pf,0,none⟩)] w fun e w'=>e=.returned (.bool (stB f a (a - b) s[a]))∧w'=w:=by
 have z1:=World.block_lt_of_cell? w _ h1
 have z2:=World.block_lt_of_cell? w _ h2
 have z3:=World.block_lt_of_cell? w _ h3
 have z4:=World.block_lt_of_cell? w _ h4
 dsimp only at z1 z2 z3 z4
 have HI:Hid (∀c:Int,Calls Tryz.prog 105 #[.int .i64 c,.int .u8 (s[a].toNat:Int)] w fun e w'=>e=.returned (.bool (isB c (s[a].toNat:Int)))∧w'=w):=fun c=>is_any c _ w ht
 obtain⟨i3,i14,_⟩:=ld_is s[a]
 have HI3:Hid (Calls Tryz.prog 105 #[.int .i64 3,.int .u8 (s[a].toNat:Int)] w fun e w'=>e=.returned (.bool (ldB s[a]))∧w'=w):=by
  have:=HI.out 3
  rw[i3]at this
  exact this
 have HI14:Hid (Calls Tryz.prog 105 #[.int .i64 14,.int .u8 (s[a].toNat:Int)] w fun e w'=>e=.returned (.bool (decide (128≤s[a].toNat)))∧w'=w):=by
  have:=HI.out 14
  rw[i14]at this
  exact this
 clear HI i3 i14 ht
 have e45:decide (s[a]=45)=((s[a].toNat:Int)==45):=by
  rw[Bool.eq_iff_iff,decide_eq_true_eq,beq_iff_eq]
  constructor
  ·intro h;rw[h];rfl
  ·intro h;exact UInt8.toNat_inj.1 (by rw[show(45:UInt8).toNat=45 from rfl];omega)
 have HST:Hid (stB f a (a - b) s[a]=(ldB s[a]||(((s[a].toNat:Int)==45)&&decide (b<a))||(decide (128≤s[a].toNat)&&decide (a<f)))):=by
  show _=_
  unfold stB
  rw[e45,show decide (0<a - b)=decide (b<a) from by rw[Bool.eq_iff_iff];simp;omega]
 clear e45
 generalize hst:stB f a (a - b) s[a]=r at HST ⊢
 clear hst
 obtain⟨l,hl⟩:∃l,l=ldB s[a]:=⟨_,rfl⟩
 obtain⟨h,hh⟩:∃h,h=decide (128≤s[a].toNat):=⟨_,rfl⟩
 rw[←hl]at HI3 HST
 rw[←hh]at HI14 HST
 clear hl hh
 obtain⟨y,hy⟩:∃y,((s[a].toNat:Int)==45)=y:=⟨_,rfl⟩
 rw[hy]at HST
 have hab:decide (b<a)=decide ((b:Int)<(a:Int)):=by rw[Bool.eq_iff_iff];simp
 have haf:decide (a<f)=decide ((a:Int)<(f:Int)):=by rw[Bool.eq_iff_iff];simp
 rw[hab,haf]at HST
 clear hab haf
 cases l
 ·cases y
  ·cases h
   ·go_enter Tryz.func138,Tryz.ntmps138
    go_wp2_with fail
    refine HI3.out.mono ?_
    rintro e w1 ⟨rfl,rfl⟩
    go_wp2_with fail
    refine HI14.out.mono ?_
    rintro e w1 ⟨rfl,rfl⟩
    go_wp2_with fail
    go_ret
    exact⟨by rw[HST.out];first|rfl|(simp;omega),rfl⟩
   ·by_cases haf:(a:Int)<(f:Int)
    ·rw[decide_eq_true haf]at HST
     go_enter Tryz.func138,Tryz.ntmps138
     go_wp2_with fail
     refine HI3.out.mono ?_
     rintro e w1 ⟨rfl,rfl⟩
     go_wp2_with fail
     refine HI14.out.mono ?_
     rintro e w1 ⟨rfl,rfl⟩
     go_wp2_with fail
     go_ret
     exact⟨by rw[HST.out];first|rfl|(simp;omega),rfl⟩
    ·rw[decide_eq_false haf]at HST
     go_enter Tryz.func138,Tryz.ntmps138
     go_wp2_with fail
     refine HI3.out.mono ?_
     rintro e w1 ⟨rfl,rfl⟩
     go_wp2_with fail
     refine HI14.out.mono ?_
     rintro e w1 ⟨rfl,rfl⟩
     go_wp2_with fail
     go_ret
     exact⟨by rw[HST.out];first|rfl|(simp;omega),rfl⟩
  ·by_cases hba:(b:Int)<(a:Int)
   ·rw[decide_eq_true hba]at HST
    go_enter Tryz.func138,Tryz.ntmps138
    go_wp2_with fail
    refine HI3.out.mono ?_
    rintro e w1 ⟨rfl,rfl⟩
    go_wp2_with fail
    go_ret
    exact⟨by rw[HST.out];first|rfl|(simp;omega),rfl⟩
   ·rw[decide_eq_false hba]at HST
    cases h
    ·go_enter Tryz.func138,Tryz.ntmps138
     go_wp2_with fail
     refine HI3.out.mono ?_
     rintro e w1 ⟨rfl,rfl⟩
     go_wp2_with fail
     refine HI14.out.mono ?_
     rintro e w1 ⟨rfl,rfl⟩
     go_wp2_with fail
     go_ret
     exact⟨by rw[HST.out];first|rfl|(simp;omega),rfl⟩
    ·by_cases haf:(a:Int)<(f:Int)
     ·rw[decide_eq_true haf]at HST
      go_enter Tryz.func138,Tryz.ntmps138
      go_wp2_with fail
      refine HI3.out.mono ?_
      rintro e w1 ⟨rfl,rfl⟩
      go_wp2_with fail
      refine HI14.out.mono ?_
      rintro e w1 ⟨rfl,rfl⟩
      go_wp2_with fail
      go_ret
      exact⟨by rw[HST.out];first|rfl|(simp;omega),rfl⟩
     ·rw[decide_eq_false haf]at HST
      go_enter Tryz.func138,Tryz.ntmps138
      go_wp2_with fail
      refine HI3.out.mono ?_
      rintro e w1 ⟨rfl,rfl⟩
      go_wp2_with fail
      refine HI14.out.mono ?_
      rintro e w1 ⟨rfl,rfl⟩
      go_wp2_with fail
      go_ret
      exact⟨by rw[HST.out];first|rfl|(simp;omega),rfl⟩
 ·go_enter Tryz.func138,Tryz.ntmps138
  go_wp2_with fail
  refine HI3.out.mono ?_
  rintro e w1 ⟨rfl,rfl⟩
  go_wp2_with fail
  go_ret
  exact⟨by rw[HST.out];first|rfl|(simp;omega),rfl⟩
end Go.Proofs.YtfjpkfhbmldmfaaGreatDoor
