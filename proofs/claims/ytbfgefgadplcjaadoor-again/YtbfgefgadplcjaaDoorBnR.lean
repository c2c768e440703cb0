/-
  How long a reply is that is written; no Go in sight.
-/
import Derived.Test.YtbfgefgadplcjaaDoorBmR
namespace Go.Proofs.YtbfgefgadplcjaaDoor

theorem rwM_len (cd : List UInt8) (hc : cd.length = 3) : ∀ (ts : List (List UInt8)), (∀ t ∈ ts, t.length ≤ 506) → (ts.flatMap (rwM cd)).length ≤ 512 * ts.length
  | [], _ => by simp
  | t :: ts, h => by
    have h1 := rwM_len cd hc ts (fun x hx => h x (by simp [hx]))
    have h2 := h t (by simp)
    rw [List.flatMap_cons, List.length_append, List.length_cons]
    simp only [rwM, List.length_append, List.length_cons, List.length_nil]
    omega
theorem prL_short {r : Ry} (h : MayR r) : (prL r).length ≤ 32768 := by
  obtain ⟨ts, u, he, -, hl, ht, -, hul⟩ := pr_rp h
  have hc : (dcI r.code).length = 3 := by obtain ⟨x, y, z, e, _⟩ := h.cd; rw [e]; rfl
  have h1 := rwM_len _ hc ts (fun t h' => (ht t h').2)
  rw [he]
  simp only [rpL, rwE, if_true, List.length_append, List.length_cons, List.length_nil]
  omega
theorem flat_short : ∀ (o : List Ry), (∀ r ∈ o, MayR r) → (o.flatMap prL).length ≤ 32768 * o.length
  | [], _ => by simp
  | r :: o, h => by
    have h1 := flat_short o (fun x hx => h x (by simp [hx]))
    have h2 := prL_short (h r (by simp))
    rw [List.flatMap_cons, List.length_append, List.length_cons]
    omega
theorem flatR_take (o : List Ry) (i : Nat) (h : i < o.length) : (o.take (i + 1)).flatMap prL = (o.take i).flatMap prL ++ prL o[i] := by
  rw [List.take_succ_eq_append_getElem h, List.flatMap_append]
  simp
end Go.Proofs.YtbfgefgadplcjaaDoor
