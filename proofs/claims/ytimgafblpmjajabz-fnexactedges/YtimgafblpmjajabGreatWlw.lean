
import Derived.Test.YtimgafblpmjajabGreatWiw

namespace Go.Proofs.YtimgafblpmjajabGreat

open Go.RowKit

theorem Wds.agg {w : World} {v : Value} {D : Wd} (h : Wds w v D) : ∃ a1 a2 a3 k1 k2 k3, v = .agg #[.slice a1 D.roots.length k1, .slice a2 D.mods.length k2, .slice a3 D.faults.length k3] := by
  obtain ⟨r, m, f, rfl, h1, h2, h3⟩ := h
  obtain ⟨a1, k1, rfl⟩ := h1.slice
  obtain ⟨a2, k2, rfl⟩ := h2.slice
  obtain ⟨a3, k3, rfl⟩ := h3.slice
  exact ⟨a1, a2, a3, k1, k2, k3, rfl⟩

/-- Three cells that stay. -/
theorem keep3 {B n : Nat} {W W' : World} {u0 u1 u2 : Value} (hb : Below B W W') (hz : n < B) (m : W.cell? ⟨n, 0, none⟩ = some u0 ∧ W.cell? ⟨n, 1, none⟩ = some u1 ∧ W.cell? ⟨n, 2, none⟩ = some u2) :
    W'.cell? ⟨n, 0, none⟩ = some u0 ∧ W'.cell? ⟨n, 1, none⟩ = some u1 ∧ W'.cell? ⟨n, 2, none⟩ = some u2 :=
  ⟨below_cell0 hb hz m.1, below_cell0 hb hz m.2.1, below_cell0 hb hz m.2.2⟩
theorem new3 (w : World) (u0 u1 u2 : Value) (t : TypeId) : (w.alloc (.cells #[u0, u1, u2] t)).cell? ⟨w.heap.size, 0, none⟩ = some u0 ∧ (w.alloc (.cells #[u0, u1, u2] t)).cell? ⟨w.heap.size, 1, none⟩ = some u1 ∧ (w.alloc (.cells #[u0, u1, u2] t)).cell? ⟨w.heap.size, 2, none⟩ = some u2 := by
  simp [go_sem]

end Go.Proofs.YtimgafblpmjajabGreat
