/-
  The document's Parse of any text.
-/
import Derived.Test.YtfjpkfhbmldmfaaGreatDoorRpb8
import Derived.Test.YtfjpkfhbmldmfaaGreatDoorRpc8
import Derived.Test.YtfjpkfhbmldmfaaGreatDoorRa8
import Derived.Test.YtfjpkfhbmldmfaaGreatDoorRt8
import Derived.Test.YtfjpkfhbmldmfaaGreatDoorUtfE
import Derived.Test.YtfjpkfhbmldmfaaGreatDoorDmR
import Derived.Test.YtfjpkfhbmldmfaaGreatDoorNum
namespace Go.Proofs.YtfjpkfhbmldmfaaGreatDoor
open Go.RowKit
theorem wd_zero (wide:Bool) (s:List UInt8) (h:(wd wide s).1=0):wd wide s=(0,0):=by
 unfold wd at h ⊢
 split
 ·next hl=>rw[if_pos hl]at h;cases h
 ·next hl=>
  rw[if_neg hl]at h
  revert h
  split
  ·intro _;rfl
  ·intro h;cases h
theorem wd_nil (wide:Bool):wd wide []=(80,0):=by
 unfold wd
 rw[if_neg (by decide),wdGo,if_neg (by simp)]
theorem told_no (p k:Nat) (h:Ho) (e:Nat) (he:e≠0):told k h (e,p)=(ho0,(e,p+k)):=by
 unfold told
 rw[if_neg he,Nat.add_comm]
theorem last_at (s:ByteArray) (h:s.size - 1<s.size):s.data.toList.getLast?=some s[s.size - 1]:=by
 rw[List.getLast?_eq_getElem?,len_list,list_at s _ h]
theorem emp_not (s:ByteArray) (h:0<s.size):s.toList.isEmpty=false:=by
 rw[ByteArray.toList_eq]
 cases hq:s.data.toList with
 |nil=>
  have:=len_list s
  rw[hq]at this
  simp at this
  omega
 |cons c r=>rfl
theorem rhead_at (s:ByteArray) (h:0<s.size):s.data.toList.head?=some s[0]:=by
 rw[List.head?_eq_getElem?,list_at s 0 h]
set_option maxHeartbeats 2000000 in
theorem rparse_any (s:ByteArray) (wide:Bool) (w:World) (hT:∃m,w.cell? ⟨2,0,none⟩=some (.int .i64 m)):
  Calls Tryz.prog 92 #[.string s,.bool wide] w fun e w'=>e=.returned (.tuple #[hostV (parse s.data.toList wide).1,.agg (spotV (parse s.data.toList wide).2)])∧Below w.heap.size w w':=by
 have HT:∀wx,Below w.heap.size w wx→∃m,wx.cell? ⟨2,0,none⟩=some (.int .i64 m):=fun wx hx=>by
  obtain⟨m,hm⟩:=hT
  exact⟨m,(hx.cell (p:=⟨2,0,none⟩) (World.block_lt_of_cell? w _ hm)).trans hm⟩
 by_cases h91:s.data.toList.head?=some 91
 case neg=>
  have hV:parse s.data.toList wide=if (wd wide s.data.toList).1=0 then (⟨1,s.data.toList,z16⟩,(0,0)) else (ho0,wd wide s.data.toList):=by
   unfold parse
   rw[if_neg h91]
  have HN:∀er p:Nat,wd wide s.data.toList=(er,p)→Hid (∀wx,Below w.heap.size w wx→Calls Tryz.prog 96 #[.string s,.bool wide] wx fun e w'=>e=.returned (.agg #[.int .i64 (er:Nat),.int .i64 (p:Nat)])∧Below wx.heap.size wx w'):=fun er p he wx _=>by
   have:=rname_any s wide wx
   rw[he]at this
   exact this
  rcases Nat.eq_zero_or_pos s.size with h0|h0
  ·have he:s.data.toList=[]:=List.eq_nil_of_length_eq_zero (by rw[len_list];exact h0)
   have hem:s.toList.isEmpty=true:=by rw[ByteArray.toList_eq,he];rfl
   have hwd:wd wide s.data.toList=(80,0):=by rw[he];exact wd_nil wide
   rw[hV,hwd]
   exact rpa_nil_no s wide 80 0 w hem rfl (HN 80 0 hwd)
  ·have hne:s[0]≠91:=fun h=>h91 (by rw[rhead_at s h0,h])
   obtain⟨_,n91⟩:=b_eq s[0] 91 91 rfl
   rw[decide_eq_false hne]at n91
   obtain⟨er,p,hwd⟩:∃er p,wd wide s.data.toList=(er,p):=⟨_,_,rfl⟩
   by_cases hz:er=0
   ·have h2:wd wide s.data.toList=(0,0):=wd_zero wide _ (by rw[hwd];exact hz)
    rw[hV,h2]
    exact rpa_name_ok s wide 0 0 w (emp_not s h0) h0 n91 rfl ⟨rfl,rfl⟩ (HN 0 0 h2)
   ·rw[hV,hwd,if_neg (by exact hz)]
    exact rpa_name_no s wide er p w (emp_not s h0) h0 n91 (by rw[bne_iff_ne];omega) (HN er p hwd)
 case pos=>
 have hV:parse s.data.toList wide=lit s.data.toList:=by
  unfold parse
  rw[if_pos h91]
 have HLEN:=len_list s
 have h0:0<s.size:=by
  rcases Nat.eq_zero_or_pos s.size with h|h
  ·rw[←HLEN]at h
   rw[List.eq_nil_of_length_eq_zero h]at h91
   cases h91
  ·exact h
 have he:s[0]=91:=by
  rw[rhead_at s h0]at h91
  injection h91
 obtain⟨_,n91⟩:=b_eq s[0] 91 91 rfl
 rw[decide_eq_true he]at n91
 have hem:=emp_not s h0
 rw[hV]
 by_cases h255:255<s.size
 ·have hL:lit s.data.toList=(ho0,(82,255)):=by
   unfold lit
   rw[if_pos (by rw[HLEN];exact h255)]
  rw[hL]
  exact rpa_long s wide w hem h0 n91 (by omega)
 have hln:s.size - 1<s.size:=by omega
 obtain⟨_,n93⟩:=b_eq s[s.size - 1] 93 93 rfl
 by_cases h93:s.data.toList.getLast?=some 93
 case neg=>
  have hne:s[s.size - 1]≠93:=fun h=>h93 (by rw[last_at s hln,h])
  rw[decide_eq_false hne]at n93
  have hL:lit s.data.toList=(ho0,(82,s.size)):=by
   unfold lit
   rw[if_neg (by rw[HLEN];exact h255),if_pos h93,HLEN]
  rw[hL]
  exact rpa_open s wide w hem h0 n91 (by omega) hln (by omega) n93
 have hl93:s[s.size - 1]=93:=by
  have h:=h93
  rw[last_at s hln]at h
  injection h
 rw[decide_eq_true hl93]at n93
 have hs2:2≤s.size:=by
  rcases Nat.lt_or_ge s.size 2 with h|h
  ·have h1:s.data.toList.length=1:=by omega
   match hl:s.data.toList,h1 with
   |[c],_=>
    rw[hl]at h93 h91
    simp at h93 h91
    rw[h93]at h91
    exact absurd h91 (by decide)
  ·exact h
 obtain⟨t,htd⟩:∃t:ByteArray,t=s.extract 1 (s.size - 1):=⟨_,rfl⟩
 have htl:t.data.toList=(s.data.toList.drop 1).take (s.size - 2):=by rw[htd];exact inner_ext s
 have hts:t.size≤253:=by
  rw[←len_list t,htl,List.length_take,List.length_drop,HLEN]
  omega
 have hL:lit s.data.toList=if sixB t.data.toList=true then told 6 ⟨3,[],addrOf 16 (v6 (t.data.toList.drop 5))⟩ (spotOf (v6 (t.data.toList.drop 5)))
   else match colonAt t.data.toList with
    |some k=>told 1 ⟨4,t.data.toList,z16⟩ (tagged t.data.toList k)
    |none=>told 1 (fourH (addrOf 4 (v4 t.data.toList))) (spotOf (v4 t.data.toList)):=by
  unfold lit
  rw[HLEN,if_neg h255,if_neg (by simpa using h93),←htl]
  rfl
 have HS:∀b,sixB t.data.toList=b→Hid (∀wx,Below w.heap.size w wx→Calls Tryz.prog 98 #[.string t] wx fun e w'=>e=.returned (.bool b)∧Below wx.heap.size wx w'):=fun b hb wx _=>by
  have:=sixth_any t wx
  rw[hb]at this
  exact this
 have htx:s.extract 1 (s.size - 1)=t:=htd.symm
 have a2:¬(255:Int)<(s.size:Int):=by omega
 have a4:(s.size:Int) - 1<(s.size:Int):=by omega
 have a5:(1:Int)≤(s.size:Int) - 1:=by omega
 have n82:(((82:Nat):Int) != 0)=true:=by decide
 rw[hL]
 by_cases h6:sixB t.data.toList=true
 ·have h5:5≤t.size:=by
   have:=h6
   unfold sixB at this
   rw[len_list]at this
   simp at this
   exact this.1
  have HV:Hid (∀wx,Below w.heap.size w wx→Calls Tryz.prog 124 #[.string (t.extract 5 t.size)] wx fun e w'=>e=.returned (v6V (v6 (t.data.toList.drop 5)))∧Below wx.heap.size wx w'):=fun wx hx=>by
   have:=rv6_any (t.extract 5 t.size) wx (HT wx hx) (by rw[ByteArray.size_extract];omega)
   rw[ext_drop]at this
   exact this
  rw[if_pos h6]
  cases hv:v6 (t.data.toList.drop 5) with
  |ok l=>
   rw[hv]at HV
   exact rpa_six_ok s t wide w hem h0 n91 a2 hln a4 n93 a5 htx l (v6_ok _ l hv).1 (by omega) (HS true h6) HV
  |error p=>
   rw[hv]at HV
   have hp:=v6_le _ p hv
   rw[List.length_drop,len_list]at hp
   have e1:(told 6 ⟨3,[],addrOf 16 (Except.error p)⟩ (spotOf (Except.error p:Except Nat (List Nat))))=(ho0,(82,p+6)):=told_no p 6 _ 82 (by decide)
   rw[e1]
   exact rpa_six_no s t wide w hem h0 n91 a2 hln a4 n93 a5 htx (bytesV (addrOf 16 (Except.error p))) 82 p (by rw[bytesV_size];rfl) (bytesV_one _) n82 (by omega) (by omega) (HS true h6) HV
 rw[if_neg h6]
 have h6f:sixB t.data.toList=false:=by simpa using h6
 cases hcol:colonAt t.data.toList with
 |some k=>
  dsimp only
  have HC:Hid (∀wx,Below w.heap.size w wx→Calls Tryz.prog 125 #[.string t,.string ⟨#[58]⟩] wx fun e w'=>e=.returned (.bool true)∧Below wx.heap.size wx w'):=fun wx _=>(Tryz.strings_Contains_one t 58 wx).mono fun e w' h=>by
   obtain⟨rfl,rfl⟩:=h
   refine⟨?_,Below.refl _ _⟩
   rw[index_colon,hcol]
   dsimp only
   rw[decide_eq_true (Int.natCast_nonneg k)]
  have hk:k<t.data.toList.length:=(colon_some hcol).1
  have htg:=tagged_le t.data.toList k hk
  rw[tgD_some hcol]at htg ⊢
  have HG:Hid (∀wx,Below w.heap.size w wx→Calls Tryz.prog 97 #[.string t] wx fun e w'=>e=.returned (.int .i64 (optI (tgD t.data.toList)))∧Below wx.heap.size wx w'):=fun wx _=>tagged_any t wx (by unfold maxLen;omega)
  cases hg:tgD t.data.toList with
  |none=>
   rw[hg]at HG
   exact rpa_tag_ok s t wide w hem h0 n91 a2 hln a4 n93 a5 htx (HS false h6f) HC HG
  |some p=>
   rw[hg]at HG htg
   dsimp only at htg
   rw[len_list]at htg
   have e1:told 1 ⟨4,t.data.toList,z16⟩ (83,p)=(ho0,(83,p+1)):=told_no p 1 _ 83 (by decide)
   dsimp only
   rw[e1]
   exact rpa_tag_no s t wide w hem h0 n91 a2 hln a4 n93 a5 htx p (by omega) (by omega) (HS false h6f) HC HG
 |none=>
  dsimp only
  have HC:Hid (∀wx,Below w.heap.size w wx→Calls Tryz.prog 125 #[.string t,.string ⟨#[58]⟩] wx fun e w'=>e=.returned (.bool false)∧Below wx.heap.size wx w'):=fun wx _=>(Tryz.strings_Contains_one t 58 wx).mono fun e w' h=>by
   obtain⟨rfl,rfl⟩:=h
   refine⟨?_,Below.refl _ _⟩
   rw[index_colon,hcol]
   rfl
  have HV:Hid (∀wx,Below w.heap.size w wx→Calls Tryz.prog 126 #[.string t] wx fun e w'=>e=.returned (v4V (v4 t.data.toList))∧Below wx.heap.size wx w'):=fun wx hx=>rv4_any t wx (HT wx hx) (by omega)
  cases hv:v4 t.data.toList with
  |ok l=>
   rw[hv]at HV
   obtain⟨q0,q1,q2,q3,rfl,_⟩:=v4_four' _ l hv
   exact rpa_four_ok s t wide w hem h0 n91 a2 hln a4 n93 a5 htx #[.int .u8 (q0:Nat),.int .u8 (q1:Nat),.int .u8 (q2:Nat),.int .u8 (q3:Nat)] q0 q1 q2 q3 rfl (HS false h6f) HC HV
  |error p=>
   rw[hv]at HV
   have hp:=v4_le' _ p hv
   rw[len_list]at hp
   have e1:told 1 (fourH (addrOf 4 (Except.error p))) (spotOf (Except.error p:Except Nat (List Nat)))=(ho0,(82,p+1)):=told_no p 1 _ 82 (by decide)
   rw[e1]
   exact rpa_four_no s t wide w hem h0 n91 a2 hln a4 n93 a5 htx (bytesV (addrOf 4 (Except.error p))) 82 p (by rw[bytesV_size];rfl) (bytesV_one _) n82 (by omega) (HS false h6f) HC HV
def atB (c:UInt8):Bool:=ldB c||[33,35,36,37,38,39,42,43,45,47,61,63,94,95,96,123,124,125,126].contains c||decide (128≤c.toNat)
def qtB (c:UInt8):Bool:=(decide (32≤c.toNat)&&decide (c.toNat≤126)&&!decide (c=34)&&!decide (c=92))||decide (128≤c.toNat)
def shB (c:UInt8):Bool:=decide (32≤c.toNat)&&decide (c.toNat≤126)
def loB (c:UInt8):Bool:=decide (c.toNat<128)
def rowG:Nat→Nat→Bool→List UInt8→Nat
 |e,_,_,[]=>e
 |e,i,b,c::r=>if atB c=true then rowG (i+1) (i+1) true r else if c=46∧b=true then rowG e (i+1) false r else e
def rowL (s:List UInt8):Nat:=rowG 0 0 false s
def plainL (l:List UInt8):Bool:=decide (l≠[])&&decide (rowL l=l.length)
def preQ (c:UInt8):Except (Option Nat) (List UInt8×Nat)→Except (Option Nat) (List UInt8×Nat)
 | .ok (m,n)=>.ok (c::m,n)
 | .error e=>.error e
def qtM:Nat→Bool→List UInt8→Except (Option Nat) (List UInt8×Nat)
 |_,_,[]=>.error none
 |i,true,c::r=>if shB c=true then preQ c (qtM (i+1) false r) else .error (some (i - 1))
 |i,false,c::r=>if c=34 then .ok ([],i+1) else if c=92 then qtM (i+1) true r else if qtB c=true then preQ c (qtM (i+1) false r) else .error (some i)
def finL (wide:Bool) (b:List UInt8) (f:Nat) (m:List UInt8) (n:Nat):Except (Nat×Nat) (List UInt8×Nat):=
 if 64<n then .error (90,0)
 else if wide=false∧spB loB b<b.length then .error (94,f+spB loB b)
 else if badU b<b.length then .error (94,f+badU b)
 else .ok (m,n)
def lcl (wide:Bool) (s:List UInt8):Except (Nat×Nat) (List UInt8×Nat):=
 if s.head?=some 34 then
  match qtM 1 false (s.drop 1) with
  | .error none=>.error (91,0)
  | .error (some p)=>.error (90,p)
  | .ok (m,n)=>finL wide ((s.drop 1).take (n - 2)) 1 m n
 else if rowL s=0 then .error (90,0)
 else finL wide (s.take (rowL s)) 0 (s.take (rowL s)) (rowL s)
def stopB (c:UInt8):Bool:=[60,62,44,58,64,32].contains c
def notB (f:UInt8→Bool) (c:UInt8):Bool:=!f c
def hstN (s:List UInt8):Nat:=
 if s.head?=some 91 then (if spB (notB (· ==93)) s<s.length then spB (notB (· ==93)) s+1 else spB (notB (· ==93)) s)
 else spB (notB stopB) s
def hst (wide:Bool) (s:List UInt8):Except (Nat×Nat) (Ho×Nat):=
 if (parse (s.take (hstN s)) wide).2.1=0 then .ok ((parse (s.take (hstN s)) wide).1,hstN s) else .error (parse (s.take (hstN s)) wide).2
def bx (wide:Bool) (s:List UInt8):Except (Nat×Nat) ((List UInt8×Ho)×Nat):=
 match lcl wide s with
 | .error e=>.error e
 | .ok (l,n)=>
  if (s.drop n).head?=some 64 then
   match hst wide (s.drop (n+1)) with
   | .error (e,p)=>.error (e,n+1+p)
   | .ok (h,k)=>.ok ((l,h),n+1+k)
  else .error (93,n)
def moreR (h:Ho) (k:Nat):Except (Nat×Nat) (List Ho×Nat)→Except (Nat×Nat) (List Ho×Nat)
 | .error (e,p)=>.error (e,k+p)
 | .ok (l,n)=>.ok (h::l,k+n)
def rte (wide:Bool):Nat→List UInt8→Except (Nat×Nat) (List Ho×Nat)
 |0,s=>if s.head?=some 64 then .error (92,0) else .error (93,0)
 |k+1,s=>
  if s.head?=some 64 then
   match hst wide (s.drop 1) with
   | .error (e,p)=>.error (e,1+p)
   | .ok (h,n)=>
    if h.k=1 then
     (if (s.drop (1+n)).head?=some 58 then .ok ([h],1+n+1)
     else if (s.drop (1+n)).head?=some 44 then moreR h (1+n+1) (rte wide k (s.drop (1+n+1)))
     else .error (92,1+n))
    else .error (92,1)
  else .error (93,0)
structure Pt where
 k:Int
 r:List Ho
 l:List UInt8
 h:Ho
deriving DecidableEq
def escL:List UInt8→List UInt8
 |[]=>[]
 |c::r=>if c=34∨c=92 then 92::c::escL r else c::escL r
def wrL (l:List UInt8):List UInt8:=if plainL l=true then l else 34::(escL l++[34])
def wrH (h:Ho):List UInt8:=(print h).1
def wrR:List Ho→List UInt8
 |[]=>[]
 |[h]=>64::(wrH h++[58])
 |h::g::r=>64::(wrH h++44::wrR (g::r))
def wrB (l:List UInt8) (h:Ho):List UInt8:=wrL l++64::wrH h
def pmL:List UInt8:=[80,111,115,116,109,97,115,116,101,114]
def wrP (p:Pt):List UInt8:=
 if p.k=1 then [60,62] else if p.k=2 then 60::(pmL++[62]) else 60::(wrR p.r++wrB p.l p.h++[62])
def pth (wide back:Bool) (s:List UInt8):Except (Nat×Nat) (Pt×Nat):=
 if s.head?=some 60 then
  if back=true∧s[1]?=some 62 then .ok (⟨1,[],[],ho0⟩,2)
  else if back=false∧sml ((s.drop 1).take 10)=sml pmL∧s[11]?=some 62 then .ok (⟨2,[],[],ho0⟩,12)
  else match (if s[1]?=some 64 then rte wide 16 (s.drop 1) else .ok ([],0)) with
   | .error (e,p)=>.error (e,1+p)
   | .ok (r,a)=>match bx wide (s.drop (1+a)) with
    | .error (e,p)=>.error (e,1+a+p)
    | .ok ((l,h),n)=>
     if s[1+a+n]?=some 62 then
      if 256<1+a+n+1∨256<(wrP ⟨3,r,l,h⟩).length then .error (93,0) else .ok (⟨3,r,l,h⟩,1+a+n+1)
     else .error (93,1+a+n)
 else .error (93,0)
def box (wide:Bool) (s:List UInt8):Except (Nat×Nat) (List UInt8×Ho):=
 match bx wide s with
 | .error e=>.error e
 | .ok (m,n)=>if n<s.length then .error (93,n) else .ok m
def ckL (l:List UInt8) (wide:Bool):Nat:=
 if l.all (fun c=>decide (32≤c.toNat)&&!decide (c.toNat=127))=false∨64<(wrL l).length then 90
 else if (spB loB l<l.length∧wide=false)∨badU l<l.length then 94
 else 0
theorem rowG_le:∀(s:List UInt8) (e i:Nat) (b:Bool),e≤i→rowG e i b s≤i+s.length
 |[],e,i,b,h=>by rw[rowG];exact h
 |c::r,e,i,b,h=>by
  rw[rowG,List.length_cons]
  split
  ·have:=rowG_le r (i+1) (i+1) true (Nat.le_refl _);omega
  ·split
   ·have:=rowG_le r e (i+1) false (by omega);omega
   ·omega
theorem rowL_le (s:List UInt8):rowL s≤s.length:=by
 have:=rowG_le s 0 0 false (Nat.le_refl _)
 unfold rowL
 omega
theorem plain_is {l:List UInt8} (h:plainL l=true):l≠[]∧rowL l=l.length:=by
 unfold plainL at h
 rw[Bool.and_eq_true,decide_eq_true_eq,decide_eq_true_eq]at h
 exact h
def lpB (c:UInt8):Bool:=decide (32≤c.toNat)&&!decide (c.toNat=127)
theorem qs8_92:∀q∈qs8,(stepQ q 92).isSome=true→q=q0:=by decide
theorem q0_mem:q0∈qs8:=by decide
theorem spB_full {f:UInt8→Bool}:∀{l:List UInt8},(∀c∈l,f c=true)→spB f l=l.length
 |[],_=>rfl
 |c::r,h=>by
  rw[spB,if_pos (h c (List.mem_cons_self ..)),spB_full (fun x hx=>h x (List.mem_cons_of_mem _ hx)),List.length_cons]
theorem spB_mem {f:UInt8→Bool}:∀{l:List UInt8},spB f l=l.length→∀c∈l,f c=true
 |[],_,c,hc=>by cases hc
 |d::r,h,c,hc=>by
  rw[spB]at h
  cases hd:f d with
  |false=>rw[hd,if_neg (by decide),List.length_cons]at h;omega
  |true=>
   rw[hd,if_pos rfl,List.length_cons]at h
   rcases List.mem_cons.1 hc with e|hc
   ·rw[e];exact hd
   ·exact spB_mem (by omega) c hc
theorem loB_iff (c:UInt8):loB c=true↔c.toNat<128:=by unfold loB;rw[decide_eq_true_eq]
def Stop (r:List UInt8):Prop:=r=[]∨∃c t,r=c::t∧stopB c=true
theorem of_fin {P:UInt8→Prop} (h:∀b:Fin 256,P (UInt8.ofNat b.val)) (c:UInt8):P c:=by
 have:=h ⟨c.toNat,c.toNat_lt⟩
 rw[UInt8.ofNat_toNat]at this
 exact this
theorem spB_take {f:UInt8→Bool}:∀(l:List UInt8),∀c∈l.take (spB f l),f c=true
 |[],c,hc=>by cases hc
 |d::r,c,hc=>by
  rw[spB]at hc
  cases hd:f d with
  |false=>rw[hd,if_neg (by decide),List.take_zero]at hc;cases hc
  |true=>
   rw[hd,if_pos rfl,List.take_succ_cons]at hc
   rcases List.mem_cons.1 hc with e|hc
   ·rw[e];exact hd
   ·exact spB_take r c hc
structure RtOk (r:List Ho) (wide:Bool):Prop where
 ok:∀h∈r,h.Ok∧h.k=1∧check h wide=0
end Go.Proofs.YtfjpkfhbmldmfaaGreatDoor
