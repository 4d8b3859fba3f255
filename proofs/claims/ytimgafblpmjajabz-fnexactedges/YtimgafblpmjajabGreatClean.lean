
import Derived.Test.YtimgafblpmjajabGreatImpl

namespace Go.Proofs.YtimgafblpmjajabGreat

open Go.RowKit

theorem below_set2' {B : Nat} {w w1 : World} (hb : Below B w w1) (hB : B ≤ w.heap.size) (u0 u1 : Value) : Below B w ((w1.setCell ⟨w.heap.size, 0, none⟩ u0).setCell ⟨w.heap.size, 1, none⟩ u1) :=
  (hb.setCell (p := ⟨w.heap.size, 0, none⟩) hB _).setCell (p := ⟨w.heap.size, 1, none⟩) hB _

/-- A struct of two cells that was laid first, behind what was laid since. -/
theorem old_two {w1 w2 : World} {u0 u1 : Value} {t : TypeId} (hb : Below (w1.alloc (.cells #[u0, u1] t)).heap.size (w1.alloc (.cells #[u0, u1] t)) w2) (o' : Obj) :
    (w2.alloc o').cell? ⟨w1.heap.size, 0, none⟩ = some u0 ∧ (w2.alloc o').cell? ⟨w1.heap.size, 1, none⟩ = some u1 := by
  have hz : w1.heap.size < w2.heap.size := by have := hb.size; simp at this; omega
  have hb' : Below (w1.alloc (.cells #[u0, u1] t)).heap.size (w1.alloc (.cells #[u0, u1] t)) (w2.alloc o') := hb.trans ((Below.refl _ _).alloc (by simp; omega) o')
  obtain ⟨hc, hf⟩ := bcell hb'
  exact ⟨by rw [hc _ _ (by simp)]; simp, by rw [hc _ _ (by simp)]; simp⟩

end Go.Proofs.YtimgafblpmjajabGreat
