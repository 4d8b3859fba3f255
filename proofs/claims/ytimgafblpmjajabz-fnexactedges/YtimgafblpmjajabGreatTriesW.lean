
import Derived.Test.YtimgafblpmjajabGreatTriesS

namespace Go.Proofs.YtimgafblpmjajabGreat

open Go.RowKit

theorem tries_len (L : List (List UInt8)) (f s : List UInt8) : (Pl.tries L f s).length ≤ 1048576 := by
  unfold Pl.tries
  split
  · simp
  · rename_i h8
    split
    · split <;> simp
    · split
      · have h := under_len L (Pl.nm [] s).2 L.length (Nat.le_refl _)
        rw [List.take_of_length_le (Nat.le_refl _)] at h; omega
      · simp

theorem apart_of_lt {w w' : World} {b1 b2 : Nat} {e1 e2 : TypeId} {s1 s2 n1 n2 : Nat} {v1 v2 : Value} {x1 x2 : List Value} (h1 : w.ownsRow b1 e1 s1 v1 n1 x1) (h2 : w'.ownsRow b2 e2 s2 v2 n2 x2) (hle : w.heap.size ≤ b2) : Apart v2 v1 ∧ Apart v1 v2 := by
  have key : ∀ g, v1.ownBlock = some g → v2.ownBlock = some g → False := fun g e1 e2 => by
    have a1 := (h1.lt g e1).2
    have a2 := (h2.lt g e2).1
    omega
  constructor
  · cases hv : v1.ownBlock with
    | none => exact .inl hv
    | some g => exact .inr (fun e => key g hv (by rw [← e]; exact hv))
  · cases hv : v2.ownBlock with
    | none => exact .inl hv
    | some g => exact .inr (fun e => key g (by rw [← e]; exact hv) hv)

theorem own_drewN {w : World} {base : Nat} {e : TypeId} {size : Nat} {v : Value} {n : Nat} {xs : List Value} (h : w.ownsRow base e size v n xs) (m : Nat) : (w.drewN m).ownsRow base e size v n xs := h

end Go.Proofs.YtimgafblpmjajabGreat
