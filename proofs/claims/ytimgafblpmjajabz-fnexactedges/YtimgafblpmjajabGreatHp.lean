import Derived.Test.YtimgafblpmjajabGreatGf
namespace Go.Proofs.YtimgafblpmjajabGreat
open Go.RowKit

/-- A place, as a number. -/
def numV (n : Nat) : Value := .int .i64 (n : Int)
/-- Where the imports of a module lead. -/
def leadsOf (E : List Eg) (k : Nat) : List Nat := E.flatMap fun e => if e.src = (k : Int) ∧ 0 ≤ e.to then [e.to.toNat] else []
theorem leadsOf_snoc (E : List Eg) (e : Eg) (k : Nat) : leadsOf (E ++ [e]) k = leadsOf E k ++ (if e.src = (k : Int) ∧ 0 ≤ e.to then [e.to.toNat] else []) := by
  unfold leadsOf; rw [List.flatMap_append]; simp
theorem leadsOf_cons (E : List Eg) (e : Eg) (k : Nat) : leadsOf (e :: E) k = (if e.src = (k : Int) ∧ 0 ≤ e.to then [e.to.toNat] else []) ++ leadsOf E k := by
  unfold leadsOf; rw [List.flatMap_cons]
theorem leadsOf_lt {E : List Eg} {N : Nat} (hE : ∀ e ∈ E, e.to < (N : Int)) (k : Nat) : ∀ t ∈ leadsOf E k, t < N := by
  intro t ht
  unfold leadsOf at ht
  obtain ⟨e, he, h⟩ := List.mem_flatMap.1 ht
  split at h
  · have := hE e he; simp at h; omega
  · simp at h
theorem leadsOf_len (E : List Eg) (k : Nat) : (leadsOf E k).length ≤ E.length := by
  induction E with
  | nil => simp [leadsOf]
  | cons e r ih => rw [leadsOf_cons]; split <;> simp <;> omega
end Go.Proofs.YtimgafblpmjajabGreat
