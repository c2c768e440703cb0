/-
  The plain mathematics of Punycode's digits and of the bias: no Go in sight.
-/
import Derived.Test.YtfjpkfhbmldmfabGreatDoorMk
import Derived.Test.YtfjpkfhbmldmfabGreatDoorChk
import Derived.Shelf.SlSortCmp.NoneTotal
import Derived.Ground.SlsfProg
import Derived.Test.YtfjpkfhbmldmfabGreatDoorProg
import Derived.Test.YtfjpkfhbmldmfabGreatDoorNum
namespace Go.Proofs.YtfjpkfhbmldmfabGreatDoor
def bnd (i bias:Nat):Nat:=min (max (36*(i+1) - bias) 1) 26
theorem bnd_pos (i bias:Nat):1≤bnd i bias:=by unfold bnd;omega
theorem bnd_le (i bias:Nat):bnd i bias≤26:=by unfold bnd;omega
def dgt (v:Nat):UInt8:=if v<26 then UInt8.ofNat (97+v) else UInt8.ofNat (22+v)
theorem digs_less {q i bias:Nat} (h:¬q<bnd i bias):(q - bnd i bias) / (36 - bnd i bias)<q:=by
 have h1:=bnd_pos i bias
 have:=Nat.div_le_self (q - bnd i bias) (36 - bnd i bias)
 omega
def digs (q i bias:Nat):List UInt8:=
 if _h:q<bnd i bias then [dgt q]
 else dgt (bnd i bias+(q - bnd i bias) % (36 - bnd i bias))::digs ((q - bnd i bias) / (36 - bnd i bias)) (i+1) bias
termination_by q
decreasing_by exact digs_less _h
theorem digs_last {q i bias:Nat} (h:q<bnd i bias):digs q i bias=[dgt q]:=by rw[digs,dif_pos h]
theorem digs_more {q i bias:Nat} (h:¬q<bnd i bias):digs q i bias=dgt (bnd i bias+(q - bnd i bias) % (36 - bnd i bias))::digs ((q - bnd i bias) / (36 - bnd i bias)) (i+1) bias:=by rw[digs,dif_neg h]
theorem digs_short (q i bias:Nat):∀k,q<10 ^ k→(digs q i bias).length≤k+1:=by
 induction q using Nat.strongRecOn generalizing i with
 |_ q ih=>
  intro k hk
  by_cases h:q<bnd i bias
  ·rw[digs_last h];simp
  ·rw[digs_more h]
   have h1:=digs_less h
   have h2:=bnd_pos i bias
   have h3:=bnd_le i bias
   cases k with
   |zero=>simp at hk;omega
   |succ k=>
    have h4:(q - bnd i bias) / (36 - bnd i bias)<10 ^ k:=by
     rw[Nat.div_lt_iff_lt_mul (by omega)]
     rw[Nat.pow_succ]at hk
     have:10 ^ k*10≤10 ^ k*(36 - bnd i bias):=Nat.mul_le_mul_left _ (by omega)
     omega
    have:=ih _ h1 (i+1) k h4
    simp only[List.length_cons]
    omega
def biasL (d k:Nat):Nat:=if _h:455<d then biasL (d / 35) (k+36) else k+36*d / (d+38)
termination_by d
decreasing_by omega
theorem biasL_go {d k:Nat} (h:455<d):biasL d k=biasL (d / 35) (k+36):=by rw[biasL,dif_pos h]
theorem biasL_end {d k:Nat} (h:¬455<d):biasL d k=k+36*d / (d+38):=by rw[biasL,dif_neg h]
theorem biasL_le (d:Nat):∀k,biasL d k≤k+d+36:=by
 induction d using Nat.strongRecOn with
 |_ d ih=>
  intro k
  by_cases h:455<d
  ·rw[biasL_go h]
   have:=ih (d / 35) (by omega) (k+36)
   omega
  ·rw[biasL_end h]
   have:36*d / (d+38)≤36:=by
    rw[←Nat.lt_succ_iff,Nat.div_lt_iff_lt_mul (by omega)]
    omega
   omega
def biasB (s h:Nat) (first:Bool):Nat:=biasL ((if first then s / 700 else s / 2)+(if first then s / 700 else s / 2) / h) 0
theorem biasB_le (s h:Nat) (first:Bool):biasB s h first≤2*s+36:=by
 unfold biasB
 have h1:(if first then s / 700 else s / 2)≤s / 2:=by split<;>omega
 generalize (if first then s / 700 else s / 2)=d at h1
 have:=Nat.div_le_self d h
 have:=biasL_le (d+d / h) 0
 omega
def rn (l:List Int) (k:Nat):Int:=l.getD k 0
theorem rn_get (l:List Int) (k:Nat) (h:k<l.length):rn l k=l[k]:=by simp[rn,List.getD_eq_getElem?_getD,List.getElem?_eq_getElem h]
def ltW (l:List Int) (a b:Nat):Bool:=decide (rn l a<rn l b∨(rn l a=rn l b∧a<b))
def leW (l:List Int) (a b:Nat):Bool:=!ltW l b a
theorem leW_iff (l:List Int) (a b:Nat):leW l a b=true↔(rn l a<rn l b∨(rn l a=rn l b∧a≤b)):=by
 unfold leW ltW
 simp only[Bool.not_eq_true',decide_eq_false_iff_not]
 omega
theorem leW_trans (l:List Int) (a b c:Nat) (h1:leW l a b=true) (h2:leW l b c=true):leW l a c=true:=by
 rw[leW_iff]at*
 omega
theorem leW_total (l:List Int) (a b:Nat):(leW l a b||leW l b a)=true:=by
 rw[Bool.or_eq_true,leW_iff,leW_iff]
 omega
def wideK (l:List Int) (k:Nat):List Nat:=(List.range k).filter fun j=>decide (128≤rn l j)
theorem wideK_succ (l:List Int) (k:Nat):wideK l (k+1)=wideK l k++(if 128≤rn l k then [k] else []):=by
 unfold wideK
 rw[List.range_succ,List.filter_append]
 congr 1
 by_cases h:128≤rn l k
 ·simp[h]
 ·simp[h]
theorem wideK_lt {l:List Int} {k j:Nat} (h:j∈wideK l k):j<k∧128≤rn l j:=by
 unfold wideK at h
 rw[List.mem_filter]at h
 exact⟨List.mem_range.1 h.1,by simpa using h.2⟩
theorem wideK_length (l:List Int) (k:Nat):(wideK l k).length≤k:=by
 have:=List.length_filter_le (fun j=>decide (128≤rn l j)) (List.range k)
 rw[List.length_range]at this
 exact this
def ordW (l:List Int):List Nat:=(wideK l l.length).mergeSort (leW l)
theorem ordW_mem {l:List Int} {j:Nat} (h:j∈ordW l):j<l.length∧128≤rn l j:=by
 unfold ordW at h
 rw[List.mem_mergeSort]at h
 exact wideK_lt h
theorem ordW_length (l:List Int):(ordW l).length≤l.length:=by
 unfold ordW
 rw[List.length_mergeSort]
 exact wideK_length l l.length
def stp (l:List Int) (f:Nat→Int) (n:Int) (i h at':Nat):Int:=(rn l at' - n)*((h:Int)+1)+pre f at' - i
def punL (l:List Int):List Nat→(Nat→Int)→Int→Nat→Nat→Nat→Bool→Option (List UInt8)
 |[],_,_,_,_,_,_=>some []
 |at'::rest,f,n,i,h,bias,first=>
  if 2147483647<stp l f n i h at' then none
  else (punL l rest (put1 f at' 1) (rn l at') ((pre f at').toNat+1) (h+1) (biasB (stp l f n i h at').toNat (h+1) first) false).map fun d=>digs (stp l f n i h at').toNat 0 bias++d
def lowF (l:List Int) (k:Nat):Nat→Int:=fun j=>if j<k∧rn l j<128 then 1 else 0
def lowB (l:List Int) (k:Nat):List UInt8:=((l.take k).filter fun r=>decide (r<128)).map fun r=>UInt8.ofNat r.toNat
def punH (l:List Int):List UInt8:=lowB l l.length++(if lowB l l.length=[] then [] else [45])
def punD (l:List Int):Option (List UInt8):=punL l (ordW l) (lowF l l.length) 128 0 (lowB l l.length).length 72 true
structure PunOk (l:List Int) (rest:List Nat) (f:Nat→Int) (n:Int) (i h:Nat):Prop where
 f01:F01 f
 tot:pre f l.length=h
 ile:i≤h
 n01:0≤n∧n≤1114111
 nxt:∀j∈rest,j<l.length∧f j=0∧128≤rn l j∧rn l j≤1114111∧(n<rn l j∨(n=rn l j∧(i:Int)≤pre f j))
 srt:rest.Pairwise fun a b=>rn l a<rn l b∨(rn l a=rn l b∧a<b)
theorem PunOk.pre0 {l:List Int} {rest:List Nat} {f:Nat→Int} {n:Int} {i h:Nat} (H:PunOk l rest f n i h) (j:Nat):0≤pre f j:=by
 have:=pre_mono f H.f01.1 (a:=0) (b:=j) (Nat.zero_le _)
 simpa [pre] using this
theorem PunOk.preh {l:List Int} {rest:List Nat} {f:Nat→Int} {n:Int} {i h:Nat} (H:PunOk l rest f n i h) {j:Nat} (hj:j≤l.length):pre f j≤h:=by
 have:=pre_mono f H.f01.1 hj
 rw[H.tot]at this
 exact this
theorem PunOk.hle {l:List Int} {rest:List Nat} {f:Nat→Int} {n:Int} {i h:Nat} (H:PunOk l rest f n i h):h≤l.length:=by
 have:=pre_le f H.f01.2 l.length
 rw[H.tot]at this
 omega
theorem PunOk.step0 {l:List Int} {rest:List Nat} {f:Nat→Int} {n:Int} {i h at':Nat} (H:PunOk l (at'::rest) f n i h):0≤stp l f n i h at':=by
 obtain⟨h1,h2,h3,h4,h5⟩:=H.nxt at' List.mem_cons_self
 have hp:=H.pre0 at'
 have hi:=H.ile
 unfold stp
 rcases h5 with h5|⟨h5,h6⟩
 ·have:1*((h:Int)+1)≤(rn l at' - n)*((h:Int)+1):=Int.mul_le_mul_of_nonneg_right (by omega) (by omega)
  omega
 ·rw[h5,Int.sub_self,Int.zero_mul]
  omega
theorem PunOk.step {l:List Int} {rest:List Nat} {f:Nat→Int} {n:Int} {i h at':Nat} (H:PunOk l (at'::rest) f n i h):PunOk l rest (put1 f at' 1) (rn l at') ((pre f at').toNat+1) (h+1):=by
 obtain⟨h1,h2,h3,h4,h5⟩:=H.nxt at' List.mem_cons_self
 have hp:=H.pre0 at'
 have hph:=H.preh (Nat.le_of_lt h1)
 have hs:=List.pairwise_cons.1 H.srt
 refine⟨H.f01.put at' 1 (by omega) (by omega),?_,by omega,⟨by omega,h4⟩,fun j hj=>?_,hs.2⟩
 ·rw[pre_put,if_pos h1,H.tot]
  push_cast
  rfl
 ·obtain⟨g1,g2,g3,g4,_⟩:=H.nxt j (List.mem_cons_of_mem _ hj)
  have ho:=hs.1 j hj
  have hne:j≠at':=by
   intro e
   subst e
   omega
  refine⟨g1,?_,g3,g4,?_⟩
  ·unfold put1
   rw[if_neg hne]
   exact g2
  ·rcases ho with ho|⟨ho,hlt⟩
   ·exact .inl ho
   ·refine .inr ⟨ho,?_⟩
    rw[pre_put,if_pos hlt]
    have:=pre_mono f H.f01.1 (Nat.le_of_lt hlt)
    omega
theorem lowF_01 (l:List Int) (k:Nat):F01 (lowF l k):=⟨fun j=>by unfold lowF;split<;>omega,fun j=>by unfold lowF;split<;>omega⟩
theorem lowF_zero (l:List Int) (j:Nat):lowF l 0 j=0:=by unfold lowF;rw[if_neg (by omega)]
theorem lowF_yes (l:List Int) (k:Nat) (h:rn l k<128):∀j,lowF l (k+1) j=put1 (lowF l k) k 1 j:=by
 intro j
 unfold lowF put1
 simp only
 by_cases e:j=k
 ·subst e
  rw[if_pos ⟨by omega,h⟩,if_pos rfl,if_neg (by omega)]
  omega
 ·rw[if_neg e]
  by_cases hj:j<k∧rn l j<128
  ·rw[if_pos ⟨by omega,hj.2⟩,if_pos hj]
  ·rw[if_neg (by omega),if_neg hj]
theorem lowF_no (l:List Int) (k:Nat) (h:¬rn l k<128):lowF l (k+1)=lowF l k:=by
 funext j
 unfold lowF
 by_cases e:j=k
 ·subst e
  rw[if_neg (fun x=>h x.2),if_neg (fun x=>h x.2)]
 ·by_cases hj:j<k∧rn l j<128
  ·rw[if_pos ⟨by omega,hj.2⟩,if_pos hj]
  ·rw[if_neg (by omega),if_neg hj]
theorem lowB_yes (l:List Int) (k:Nat) (hk:k<l.length) (h:l[k]<128):lowB l (k+1)=lowB l k++[UInt8.ofNat l[k].toNat]:=by
 unfold lowB
 rw[List.take_succ_eq_append_getElem hk,List.filter_append,List.map_append]
 simp[h]
theorem lowB_no (l:List Int) (k:Nat) (hk:k<l.length) (h:¬l[k]<128):lowB l (k+1)=lowB l k:=by
 unfold lowB
 rw[List.take_succ_eq_append_getElem hk,List.filter_append,List.map_append]
 simp[h]
theorem lowB_length (l:List Int) (k:Nat):(lowB l k).length≤k:=by
 unfold lowB
 rw[List.length_map]
 have:=List.length_filter_le (fun r=>decide (r<128)) (l.take k)
 rw[List.length_take]at this
 omega
theorem lowF_tot (l:List Int) (k:Nat) (hk:k≤l.length):∀m,k≤m→pre (lowF l k) m=(lowB l k).length:=by
 induction k with
 |zero=>
  intro m _
  rw[pre_ext (lowF l 0) (fun _=>0) m (fun j _=>lowF_zero l j),pre_zero]
  rfl
 |succ k ih=>
  intro m hm
  have hr:=rn_get l k (by omega)
  by_cases h:l[k]<128
  ·rw[lowB_yes l k (by omega) h,pre_ext _ _ m (fun j _=>lowF_yes l k (by rw[hr];exact h) j),pre_put,if_pos (by omega),ih (by omega) m (by omega),List.length_append]
   push_cast
   rfl
  ·rw[lowB_no l k (by omega) h,lowF_no l k (by rw[hr];exact h),ih (by omega) m (by omega)]
theorem pairwise_ord (l:List Int):(ordW l).Pairwise fun a b=>rn l a<rn l b∨(rn l a=rn l b∧a<b):=by
 have h1:(ordW l).Pairwise fun a b=>leW l a b=true:=List.pairwise_mergeSort (fun a b c=>leW_trans l a b c) (fun a b=>leW_total l a b) _
 have h2:(ordW l).Nodup:=by
  unfold ordW
  rw[(List.mergeSort_perm _ _).nodup_iff]
  unfold wideK
  exact List.Pairwise.filter _ List.nodup_range
 refine(List.Pairwise.and h1 h2).imp ?_
 intro a b ⟨h,hne⟩
 rw[leW_iff]at h
 omega
theorem punOk_start (l:List Int) (h:∀r∈l,isR r):PunOk l (ordW l) (lowF l l.length) 128 0 (lowB l l.length).length:=by
 refine⟨lowF_01 l _,lowF_tot l _ (Nat.le_refl _) _ (Nat.le_refl _),Nat.zero_le _,by omega,fun j hj=>?_,pairwise_ord l⟩
 obtain⟨h1,h2⟩:=ordW_mem hj
 have h3:=h l[j] (List.getElem_mem h1)
 have h4:=rn_get l j h1
 refine⟨h1,?_,h2,by rw[h4];exact h3.2.1,?_⟩
 ·unfold lowF
  rw[if_neg (by omega)]
 ·have:=pre_mono (lowF l l.length) (lowF_01 l _).1 (a:=0) (b:=j) (Nat.zero_le _)
  simp only[pre]at this
  omega
end Go.Proofs.YtfjpkfhbmldmfabGreatDoor
namespace Go.Proofs
def Tryz.laysSlF6_f155_ren:Go.Shelf.Ren:=⟨fun|6=>155|15=>169|14=>168|28=>186|29=>149|20=>178|21=>179|22=>180|23=>181|24=>182|25=>183|26=>184|27=>185|46=>190|47=>191|48=>192|49=>193|50=>194|57=>196|n=>n,fun|22=>181|24=>3|25=>202|3=>3|39=>54|0=>0|53=>192|55=>53|4=>4|46=>220|45=>219|50=>224|5=>5|9=>9|66=>229|70=>233|76=>238|77=>120|n=>n,fun|n=>n⟩
theorem Tryz.laysSlF6_f155:Go.Proofs.SlLaysF.n6 Tryz.prog Tryz.laysSlF6_f155_ren:={
 mixed:=by kernel_rfl
 f6:=⟨Tryz.f155.name,by decide,Tryz.func155.trans (congrArg some (by kernel_rfl))⟩
 f14:=⟨Tryz.f168.name,by decide,Tryz.func168.trans (congrArg some (by kernel_rfl))⟩
 f15:=Tryz.func169.trans (congrArg some (by kernel_rfl))
 f20:=⟨Tryz.f178.name,by decide,Tryz.func178.trans (congrArg some (by kernel_rfl))⟩
 f21:=⟨Tryz.f179.name,by decide,Tryz.func179.trans (congrArg some (by kernel_rfl))⟩
 f22:=⟨Tryz.f180.name,by decide,Tryz.func180.trans (congrArg some (by kernel_rfl))⟩
 f23:=⟨Tryz.f181.name,by decide,Tryz.func181.trans (congrArg some (by kernel_rfl))⟩
 f24:=⟨Tryz.f182.name,by decide,Tryz.func182.trans (congrArg some (by kernel_rfl))⟩
 f25:=⟨Tryz.f183.name,by decide,Tryz.func183.trans (congrArg some (by kernel_rfl))⟩
 f26:=⟨Tryz.f184.name,by decide,Tryz.func184.trans (congrArg some (by kernel_rfl))⟩
 f27:=⟨Tryz.f185.name,by decide,Tryz.func185.trans (congrArg some (by kernel_rfl))⟩
 f28:=Tryz.func186.trans (congrArg some (by kernel_rfl))
 f29:=Tryz.func149.trans (congrArg some (by kernel_rfl))
 f46:=⟨Tryz.f190.name,by decide,Tryz.func190.trans (congrArg some (by kernel_rfl))⟩
 f47:=Tryz.func191.trans (congrArg some (by kernel_rfl))
 f48:=Tryz.func192.trans (congrArg some (by kernel_rfl))
 f49:=⟨Tryz.f193.name,by decide,Tryz.func193.trans (congrArg some (by kernel_rfl))⟩
 f50:=⟨Tryz.f194.name,by decide,Tryz.func194.trans (congrArg some (by kernel_rfl))⟩
 f57:=⟨Tryz.f196.name,by decide,Tryz.func196.trans (congrArg some (by kernel_rfl))⟩
 t0:=Tryz.underlying0
 a0:=Tryz.isAgg0
 z0:=Tryz.sizeOf0
 v0:=Tryz.zeroValue0
 t3:=Tryz.underlying3
 a3:=Tryz.isAgg3
 z3:=Tryz.sizeOf3
 v3:=Tryz.zeroValue3
 t4:=Tryz.underlying4
 a4:=Tryz.isAgg4
 z4:=Tryz.sizeOf4
 v4:=Tryz.zeroValue4
 t5:=Tryz.underlying5
 a5:=Tryz.isAgg5
 z5:=Tryz.sizeOf5
 v5:=Tryz.zeroValue5
 t9:=Tryz.underlying9
 a9:=Tryz.isAgg9
 z9:=Tryz.sizeOf9
 v9:=Tryz.zeroValue9
 t22:=Tryz.underlying181
 a22:=Tryz.isAgg181
 z22:=Tryz.sizeOf181
 v22:=Tryz.zeroValue181
 a24:=Tryz.isAgg3
 z24:=Tryz.sizeOf3
 t25:=Tryz.underlying202
 a25:=Tryz.isAgg202
 z25:=Tryz.sizeOf202
 v25:=Tryz.zeroValue202
 t39:=Tryz.underlying54
 a39:=Tryz.isAgg54
 z39:=Tryz.sizeOf54
 v39:=Tryz.zeroValue54
 t45:=Tryz.underlying219
 a45:=Tryz.isAgg219
 z45:=Tryz.sizeOf219
 v45:=Tryz.zeroValue219
 t46:=Tryz.underlying220
 a46:=Tryz.isAgg220
 z46:=Tryz.sizeOf220
 v46:=Tryz.zeroValue220
 t50:=Tryz.underlying224
 a50:=Tryz.isAgg224
 z50:=Tryz.sizeOf224
 v50:=Tryz.zeroValue224
 t53:=Tryz.underlying192
 a53:=Tryz.isAgg192
 z53:=Tryz.sizeOf192
 v53:=Tryz.zeroValue192
 t55:=Tryz.underlying53
 a55:=Tryz.isAgg53
 z55:=Tryz.sizeOf53
 v55:=Tryz.zeroValue53
 t66:=Tryz.underlying229
 a66:=Tryz.isAgg229
 z66:=Tryz.sizeOf229
 v66:=Tryz.zeroValue229
 t70:=Tryz.underlying233
 a70:=Tryz.isAgg233
 z70:=Tryz.sizeOf233
 v70:=Tryz.zeroValue233
 t76:=Tryz.underlying238
 a76:=Tryz.isAgg238
 z76:=Tryz.sizeOf238
 v76:=Tryz.zeroValue238
 t77:=Tryz.underlying120
 a77:=Tryz.isAgg120
 z77:=Tryz.sizeOf120
 v77:=Tryz.zeroValue120}
def Tryz.laysSlF06_f155_ren:Go.Shelf.Ren:=⟨fun|6=>155|15=>169|14=>168|28=>186|29=>149|20=>178|21=>179|22=>180|23=>181|24=>182|25=>183|26=>184|27=>185|46=>190|47=>191|48=>192|49=>193|50=>194|57=>196|n=>n,fun|22=>181|24=>3|25=>202|3=>3|39=>54|0=>0|53=>192|55=>53|4=>4|46=>220|45=>219|50=>224|5=>5|9=>9|66=>229|70=>233|76=>238|77=>120|n=>n,fun|n=>n⟩
theorem Tryz.laysSlF06_f155:Go.Proofs.SlLaysF0.n6 Tryz.prog Tryz.laysSlF06_f155_ren:={
 mixed:=by kernel_rfl
 f6:=⟨Tryz.f155.name,by decide,Tryz.func155.trans (congrArg some (by kernel_rfl))⟩
 f14:=⟨Tryz.f168.name,by decide,Tryz.func168.trans (congrArg some (by kernel_rfl))⟩
 f15:=Tryz.func169.trans (congrArg some (by kernel_rfl))
 f20:=⟨Tryz.f178.name,by decide,Tryz.func178.trans (congrArg some (by kernel_rfl))⟩
 f21:=⟨Tryz.f179.name,by decide,Tryz.func179.trans (congrArg some (by kernel_rfl))⟩
 f22:=⟨Tryz.f180.name,by decide,Tryz.func180.trans (congrArg some (by kernel_rfl))⟩
 f23:=⟨Tryz.f181.name,by decide,Tryz.func181.trans (congrArg some (by kernel_rfl))⟩
 f24:=⟨Tryz.f182.name,by decide,Tryz.func182.trans (congrArg some (by kernel_rfl))⟩
 f25:=⟨Tryz.f183.name,by decide,Tryz.func183.trans (congrArg some (by kernel_rfl))⟩
 f26:=⟨Tryz.f184.name,by decide,Tryz.func184.trans (congrArg some (by kernel_rfl))⟩
 f27:=⟨Tryz.f185.name,by decide,Tryz.func185.trans (congrArg some (by kernel_rfl))⟩
 f28:=Tryz.func186.trans (congrArg some (by kernel_rfl))
 f29:=Tryz.func149.trans (congrArg some (by kernel_rfl))
 f46:=⟨Tryz.f190.name,by decide,Tryz.func190.trans (congrArg some (by kernel_rfl))⟩
 f47:=Tryz.func191.trans (congrArg some (by kernel_rfl))
 f48:=Tryz.func192.trans (congrArg some (by kernel_rfl))
 f49:=⟨Tryz.f193.name,by decide,Tryz.func193.trans (congrArg some (by kernel_rfl))⟩
 f50:=⟨Tryz.f194.name,by decide,Tryz.func194.trans (congrArg some (by kernel_rfl))⟩
 f57:=⟨Tryz.f196.name,by decide,Tryz.func196.trans (congrArg some (by kernel_rfl))⟩
 t0:=Tryz.underlying0
 a0:=Tryz.isAgg0
 z0:=Tryz.sizeOf0
 v0:=Tryz.zeroValue0
 t3:=Tryz.underlying3
 a3:=Tryz.isAgg3
 z3:=Tryz.sizeOf3
 v3:=Tryz.zeroValue3
 t4:=Tryz.underlying4
 a4:=Tryz.isAgg4
 z4:=Tryz.sizeOf4
 v4:=Tryz.zeroValue4
 t5:=Tryz.underlying5
 a5:=Tryz.isAgg5
 z5:=Tryz.sizeOf5
 v5:=Tryz.zeroValue5
 t9:=Tryz.underlying9
 a9:=Tryz.isAgg9
 z9:=Tryz.sizeOf9
 v9:=Tryz.zeroValue9
 t22:=Tryz.underlying181
 a22:=Tryz.isAgg181
 z22:=Tryz.sizeOf181
 v22:=Tryz.zeroValue181
 t25:=Tryz.underlying202
 a25:=Tryz.isAgg202
 z25:=Tryz.sizeOf202
 v25:=Tryz.zeroValue202
 t39:=Tryz.underlying54
 a39:=Tryz.isAgg54
 z39:=Tryz.sizeOf54
 v39:=Tryz.zeroValue54
 t45:=Tryz.underlying219
 a45:=Tryz.isAgg219
 z45:=Tryz.sizeOf219
 v45:=Tryz.zeroValue219
 t46:=Tryz.underlying220
 a46:=Tryz.isAgg220
 z46:=Tryz.sizeOf220
 v46:=Tryz.zeroValue220
 t50:=Tryz.underlying224
 a50:=Tryz.isAgg224
 z50:=Tryz.sizeOf224
 v50:=Tryz.zeroValue224
 t53:=Tryz.underlying192
 a53:=Tryz.isAgg192
 z53:=Tryz.sizeOf192
 v53:=Tryz.zeroValue192
 t55:=Tryz.underlying53
 a55:=Tryz.isAgg53
 z55:=Tryz.sizeOf53
 v55:=Tryz.zeroValue53
 t66:=Tryz.underlying229
 a66:=Tryz.isAgg229
 z66:=Tryz.sizeOf229
 v66:=Tryz.zeroValue229
 t70:=Tryz.underlying233
 a70:=Tryz.isAgg233
 z70:=Tryz.sizeOf233
 v70:=Tryz.zeroValue233
 t76:=Tryz.underlying238
 a76:=Tryz.isAgg238
 z76:=Tryz.sizeOf238
 v76:=Tryz.zeroValue238
 t77:=Tryz.underlying120
 a77:=Tryz.isAgg120
 z77:=Tryz.sizeOf120
 v77:=Tryz.zeroValue120}
open Go.RowKit Go.Lib Go.Sort in
theorem Tryz.slices_SortFunc_none {α:Type} [Inhabited α] (p:Option Addr) (cap:Nat) (fv:Value) (w:World):
 Calls Tryz.prog 155 #[.slice p 0 cap,fv] w fun e w'=>e=.returned (.tuple #[])∧w'=w:=AnyF.slices_SortFunc_none Tryz.laysSlF06_f155 p cap fv w
open Go.RowKit Go.Lib Go.Sort in
theorem Tryz.slices_SortFunc_total {α:Type} [Inhabited α] (enc:α→Value) (h1:OneCell enc) (cf:α→α→Int) (hO:SWO (ltOf cf)) (g:Nat) (cb:Array Value) (blk off cap:Nat) (d:Array α) (w:World) (eg:∀args w,(callFunc g args).run Tryz.prog w=.ok (.enter g args) w) (hcmp:CmpLays1 Tryz.prog g cb enc cf blk off d.size w) (hH:Holds enc w blk off d) (hblk:blk<w.heap.size) (hsz:d.size<4611686018427387904) (hT:∀x y,(ltOf cf) x y=false→(ltOf cf) y x=false→x=y):
 Calls Tryz.prog 155 #[.slice (some ⟨blk,off,none⟩) d.size cap,.func (.func g) #[] cb] w fun e w'=>
  e=.returned (.tuple #[])∧∃n os,w'=sortWorld enc w blk off n (d.toList.mergeSort fun x y=>!(ltOf cf) y x).toArray os:=Any.slices_SortFunc_total Tryz.laysSlF6_f155 enc h1 cf hO g cb blk off cap d w eg hcmp hH hblk hsz hT
end Go.Proofs
namespace Go.Proofs.YtfjpkfhbmldmfabGreatDoor
open Go.RowKit
def cmpI (x y:Int):Int:=if x<y then -1 else if y<x then 1 else 0
set_option maxHeartbeats 1000000 in
set_option maxRecDepth 100000 in
theorem nanr_any (x:Int) (w:World):Calls Tryz.prog 170 #[.int .i32 x] w fun e w'=>e=.returned (.bool false)∧w'=w:=by
 have hb:(x != x)=false:=by simp
 go_enter Tryz.func170,Tryz.ntmps170
 go_wp2
 go_ret
 exact⟨rfl,rfl⟩
set_option maxHeartbeats 1000000 in
set_option maxRecDepth 100000 in
theorem nani_any (x:Int) (w:World):Calls Tryz.prog 171 #[.int .i64 x] w fun e w'=>e=.returned (.bool false)∧w'=w:=by
 have hb:(x != x)=false:=by simp
 go_enter Tryz.func171,Tryz.ntmps171
 go_wp2
 go_ret
 exact⟨rfl,rfl⟩
set_option maxHeartbeats 1000000 in
set_option maxRecDepth 100000 in
theorem cmpr_any (x y:Int) (w:World):Calls Tryz.prog 158 #[.int .i32 x,.int .i32 y] w fun e w'=>e=.returned (.int .i64 (cmpI x y))∧w'=w:=by
 have h1:=nanr_any x w
 have h2:=nanr_any y w
 by_cases c1:x<y
 ·have HC:Hid (cmpI x y= -1):=if_pos c1
  go_enter Tryz.func158,Tryz.ntmps158
  go_wp2_with fail
  refine h1.mono ?_
  rintro e w' ⟨rfl,rfl⟩
  go_wp2_with fail
  refine h2.mono ?_
  rintro e w' ⟨rfl,rfl⟩
  go_wp2
  go_ret
  exact⟨ret_i64 HC.out.symm,rfl⟩
 by_cases c2:y<x
 ·have HC:Hid (cmpI x y=1):=by show _=_;unfold cmpI;rw[if_neg c1,if_pos c2]
  go_enter Tryz.func158,Tryz.ntmps158
  go_wp2_with fail
  refine h1.mono ?_
  rintro e w' ⟨rfl,rfl⟩
  go_wp2_with fail
  refine h2.mono ?_
  rintro e w' ⟨rfl,rfl⟩
  go_wp2
  go_ret
  exact⟨ret_i64 HC.out.symm,rfl⟩
 ·have HC:Hid (cmpI x y=0):=by show _=_;unfold cmpI;rw[if_neg c1,if_neg c2]
  go_enter Tryz.func158,Tryz.ntmps158
  go_wp2_with fail
  refine h1.mono ?_
  rintro e w' ⟨rfl,rfl⟩
  go_wp2_with fail
  refine h2.mono ?_
  rintro e w' ⟨rfl,rfl⟩
  go_wp2
  go_ret
  exact⟨ret_i64 HC.out.symm,rfl⟩
set_option maxHeartbeats 1000000 in
set_option maxRecDepth 100000 in
theorem cmpi_any (x y:Int) (w:World):Calls Tryz.prog 159 #[.int .i64 x,.int .i64 y] w fun e w'=>e=.returned (.int .i64 (cmpI x y))∧w'=w:=by
 have h1:=nani_any x w
 have h2:=nani_any y w
 by_cases c1:x<y
 ·have HC:Hid (cmpI x y= -1):=if_pos c1
  go_enter Tryz.func159,Tryz.ntmps159
  go_wp2_with fail
  refine h1.mono ?_
  rintro e w' ⟨rfl,rfl⟩
  go_wp2_with fail
  refine h2.mono ?_
  rintro e w' ⟨rfl,rfl⟩
  go_wp2
  go_ret
  exact⟨ret_i64 HC.out.symm,rfl⟩
 by_cases c2:y<x
 ·have HC:Hid (cmpI x y=1):=by show _=_;unfold cmpI;rw[if_neg c1,if_pos c2]
  go_enter Tryz.func159,Tryz.ntmps159
  go_wp2_with fail
  refine h1.mono ?_
  rintro e w' ⟨rfl,rfl⟩
  go_wp2_with fail
  refine h2.mono ?_
  rintro e w' ⟨rfl,rfl⟩
  go_wp2
  go_ret
  exact⟨ret_i64 HC.out.symm,rfl⟩
 ·have HC:Hid (cmpI x y=0):=by show _=_;unfold cmpI;rw[if_neg c1,if_neg c2]
  go_enter Tryz.func159,Tryz.ntmps159
  go_wp2_with fail
  refine h1.mono ?_
  rintro e w' ⟨rfl,rfl⟩
  go_wp2_with fail
  refine h2.mono ?_
  rintro e w' ⟨rfl,rfl⟩
  go_wp2
  go_ret
  exact⟨ret_i64 HC.out.symm,rfl⟩
def orI (x y:Int):Int:=if x=0 then y else x
set_option maxHeartbeats 1000000 in
set_option maxRecDepth 100000 in
theorem cmpor_any (g:Nat) (x y:Int) (w:World) (h0:w.cell? ⟨g,0,none⟩=some (.int .i64 x)) (h1:w.cell? ⟨g,1,none⟩=some (.int .i64 y)):Calls Tryz.prog 157 #[.slice (some ⟨g,0,none⟩) 2 2] w fun e w'=>e=.returned (.int .i64 (orI x y))∧w'=w:=by
 by_cases c1:x=0
 ·have HC:Hid (orI x y=y):=if_pos c1
  have q1:(x != 0)=false:=by simp[c1]
  by_cases c2:y=0
  ·have q2:(y != 0)=false:=by simp[c2]
   have HZ:Hid (y=0):=c2
   clear c1 c2
   go_enter Tryz.func157,Tryz.ntmps157
   go_wp2_with fail
   refine wp_loop_rounds 3 ?_
   rw[rounds_succ]
   go_wp2_with fail
   rw[rounds_succ]
   go_wp2_with fail
   rw[rounds_succ]
   go_wp2
   go_ret
   exact⟨ret_i64 (by rw[HC.out,HZ.out]),rfl⟩
  ·have q2:(y != 0)=true:=by simp[c2]
   clear c1 c2
   go_enter Tryz.func157,Tryz.ntmps157
   go_wp2_with fail
   refine wp_loop_rounds 3 ?_
   rw[rounds_succ]
   go_wp2_with fail
   rw[rounds_succ]
   go_wp2
   go_ret
   exact⟨ret_i64 (by rw[HC.out]),rfl⟩
 ·have HC:Hid (orI x y=x):=if_neg c1
  have q1:(x != 0)=true:=by simp[c1]
  clear c1
  go_enter Tryz.func157,Tryz.ntmps157
  go_wp2_with fail
  refine wp_loop_rounds 3 ?_
  rw[rounds_succ]
  go_wp2
  go_ret
  exact⟨ret_i64 (by rw[HC.out]),rfl⟩
open Go.RowKit
set_option maxHeartbeats 2000000 in
set_option maxRecDepth 100000 in
theorem clo_any (lb:Nat) (a:Option Addr) (l:List Int) (cap:Nat) (x y:Nat) (hx:x<l.length) (hy:y<l.length) (w:World) (hl:w.cell? ⟨lb,0,none⟩=some (.slice a l.length cap)) (hn:Nts .i32 a l w):
  Calls Tryz.prog 156 #[.int .i64 x,.int .i64 y,.pointer (some ⟨lb,0,none⟩)] w fun e w'=>e=.returned (.int .i64 (orI (cmpI l[x] l[y]) (cmpI x y)))∧∃q os,w'=Sort.grow (w.drewN q) os:=by
 obtain⟨g,o,rfl,hg,cx⟩:=hn.cell x hx
 obtain⟨g',o',e',_,cy⟩:=hn.cell y hy
 injection e' with e'
 injection e' with e1 e2
 subst e1 e2
 have hlb:lb<w.heap.size:=World.block_lt_of_cell? w _ hl
 have hx':(x:Int)<l.length:=by omega
 have hy':(y:Int)<l.length:=by omega
 have HR:Hid (∀wx,Calls Tryz.prog 158 #[.int .i32 l[x],.int .i32 l[y]] wx fun e w'=>e=.returned (.int .i64 (cmpI l[x] l[y]))∧w'=wx):=fun wx=>cmpr_any _ _ wx
 have HI:Hid (∀wx,Calls Tryz.prog 159 #[.int .i64 x,.int .i64 y] wx fun e w'=>e=.returned (.int .i64 (cmpI x y))∧w'=wx):=fun wx=>cmpi_any _ _ wx
 generalize cmpI l[x] l[y]=A at HR ⊢
 generalize cmpI x y=B at HI ⊢
 clear hn
 go_enter Tryz.func156,Tryz.ntmps156
 go_wp2_with fail
 go_region_with (first|(go_at_call 158;refine(HR.out _).mono ?_;rintro e w' ⟨rfl,rfl⟩)|(go_at_call 159;refine(HI.out _).mono ?_;rintro e w' ⟨rfl,rfl⟩)|(go_at_call 157;refine(cmpor_any _ A B _ (by simp) (by simp)).mono ?_;rintro e w' ⟨rfl,rfl⟩))
 all_goals (try simp only[Act.put,List.setIfInBounds_toArray,List.set_cons_zero,List.set_cons_succ,List.getElem_toArray,List.getElem_cons_succ,List.getElem_cons_zero])
 all_goals go_wp2
 all_goals go_ret
 all_goals exact⟨rfl,1,#[.cells #[.int .i64 A,.int .i64 B] 3],by rw[Sort.alloc_eq_grow];rfl⟩
end Go.Proofs.YtfjpkfhbmldmfabGreatDoor
