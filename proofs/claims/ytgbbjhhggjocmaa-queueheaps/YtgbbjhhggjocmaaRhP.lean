/-
  The document's heap: a row of things; the least is sought from the first on.
-/
import Derived.Test.YtgbbjhhggjocmaaHn
import Derived.Test.YtgbbjhhggjocmaaRwG
import Derived.BigQuiet
namespace Go.Proofs.Ytgbbjhhggjocmaa
open Go.RowKit

def kA (L : List (Int × Int)) (k : Nat) : Int × Int := L.getD k (0, 0)
theorem kA_get {L : List (Int × Int)} {k : Nat} (h : k < L.length) : kA L k = L[k] := by unfold kA; rw [List.getD_eq_getElem?_getD, List.getElem?_eq_getElem h]; rfl
/-- The first of the first k than which none has a lesser key. -/
def lsN (L : List (Int × Int)) : Nat → Nat
  | 0 => 0
  | k + 1 => if (kA L k).1 < (kA L (lsN L k)).1 then k else lsN L k
theorem lsN_lt (L : List (Int × Int)) : ∀ k, 0 < k → lsN L k < k
  | 0, h => absurd h (by omega)
  | k + 1, _ => by
    unfold lsN
    split
    · omega
    · cases k with
      | zero => show lsN L 0 < 1; exact Nat.zero_lt_one
      | succ j => have := lsN_lt L (j + 1) (by omega); omega
theorem lsN_min (L : List (Int × Int)) : ∀ k j, j < k → ¬ (kA L j).1 < (kA L (lsN L k)).1
  | 0, j, h => absurd h (by omega)
  | k + 1, j, h => by
    unfold lsN
    split
    · rename_i h1
      by_cases e : j = k
      · subst e; omega
      · have := lsN_min L k j (by omega); omega
    · rename_i h1
      by_cases e : j = k
      · subst e; exact h1
      · exact lsN_min L k j (by omega)
theorem lsN_fst (L : List (Int × Int)) : ∀ k j, j < lsN L k → (kA L (lsN L k)).1 < (kA L j).1
  | 0, j, h => absurd h (by unfold lsN; omega)
  | k + 1, j, h => by
    unfold lsN at h ⊢
    split at h
    · rename_i h1
      rw [if_pos h1]
      have := lsN_min L k j h
      omega
    · rename_i h1
      rw [if_neg h1]
      exact lsN_fst L k j h
/-- The first least, by its place. -/
theorem least_at (A : List En) (hi : Inc A) (x : En) (hx : x ∈ A) (hm : ∀ y ∈ A, ¬ bf true y x) (n : Nat) (hn : n = lsN (A.map (·.1)) A.length) (h : n < A.length) : x = A[n] := by
  have k1 : ∀ j (hj : j < A.length), kA (A.map (·.1)) j = (A[j]).1 := fun j hj => by rw [kA_get (by rw [List.length_map]; exact hj), List.getElem_map]
  have m1 := lsN_min (A.map (·.1)) A.length
  have m2 := lsN_fst (A.map (·.1)) A.length
  rw [← hn] at m1 m2
  have h3 := hm _ (List.getElem_mem h)
  obtain ⟨j, hj, rfl⟩ := List.mem_iff_getElem.1 hx
  have a1 := m1 j hj
  rw [k1 j hj, k1 n h] at a1
  have hp := List.pairwise_iff_getElem.1 hi
  unfold bf kap at h3
  simp only [if_true] at h3
  rcases Nat.lt_trichotomy j n with q | q | q
  · have a2 := m2 j q
    rw [k1 j hj, k1 n h] at a2
    omega
  · subst q; rfl
  · have a3 := hp n j h hj q
    omega
theorem lst_place {e : En} {M : List En} (hi : Inc (e :: M)) (n : Nat) (hn : n = lsN ((e :: M).map (·.1)) (e :: M).length) (h : n < (e :: M).length) : lst true e M = (e :: M)[n] := least_at (e :: M) hi _ (lst_mem true M e) (lst_least true M e) n hn h
/-- What the document tells of the least, and what it leaves. -/
def rTop (L : List (Int × Int)) : Int × Int := if L = [] then (0, 0) else kA L (lsN L L.length)
def rRes (L : List (Int × Int)) : List (Int × Int) := if L = [] then [] else L.eraseIdx (lsN L L.length)
theorem rTop_eq {M : List En} (hi : Inc M) : rTop (M.map (·.1)) = topM true M := by
  cases M with
  | nil => rfl
  | cons e M =>
    have h : lsN ((e :: M).map (·.1)) (e :: M).length < (e :: M).length := lsN_lt _ _ (by simp)
    unfold rTop
    show _ = (lst true e M).1
    rw [if_neg (by simp), List.length_map, kA_get (by rw [List.length_map]; exact h), List.getElem_map, lst_place hi _ rfl h]
theorem erase_place : ∀ (A : List En) (n : Nat) (h : n < A.length), A.Nodup → A.erase A[n] = A.eraseIdx n
  | x :: A, 0, _, _ => by simp
  | x :: A, n + 1, h, hd => by
    have hd' := List.nodup_cons.1 hd
    have h' : n < A.length := by simpa using h
    have hne : ¬ (x == A[n]) = true := fun e => hd'.1 (by rw [eq_of_beq e]; exact List.getElem_mem h')
    rw [List.getElem_cons_succ, List.erase_cons, if_neg hne, erase_place A n h' hd'.2, List.eraseIdx_cons_succ]
theorem rRes_eq {M : List En} (hi : Inc M) : rRes (M.map (·.1)) = (resM true M).map (·.1) := by
  cases M with
  | nil => rfl
  | cons e M =>
    have h : lsN ((e :: M).map (·.1)) (e :: M).length < (e :: M).length := lsN_lt _ _ (by simp)
    have hnd : (e :: M).Nodup := hi.imp (fun h e => by rw [e] at h; omega)
    unfold rRes
    show _ = ((e :: M).erase (lst true e M)).map (·.1)
    rw [if_neg (by simp), List.length_map, lst_place hi _ rfl h]
    generalize lsN ((e :: M).map (·.1)) (e :: M).length = n at *
    generalize e :: M = A at *
    rw [erase_place A n h hnd, List.eraseIdx_eq_take_drop_succ, List.eraseIdx_eq_take_drop_succ, List.map_append, List.map_take, List.map_drop]
end Go.Proofs.Ytgbbjhhggjocmaa
