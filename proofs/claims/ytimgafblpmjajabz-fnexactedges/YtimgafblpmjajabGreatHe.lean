import Derived.Test.YtimgafblpmjajabGreatHk
import Derived.Test.YtimgafblpmjajabGreatGl
namespace Go.Proofs.YtimgafblpmjajabGreat
open Go.RowKit Go.Maps

set_option maxHeartbeats 2000000 in
set_option maxRecDepth 100000 in
theorem edges_ok : EdgesOk := by
  intro v D w h hD
  obtain ⟨a1, a2, a3, k1, k2, k3, rfl⟩ := h.agg'
  obtain ⟨W, hW⟩ : ∃ W, W = w.alloc (.cells #[.slice a1 D.roots.length k1, .slice a2 D.mods.length k2, .slice a3 D.faults.length k3] 32) := ⟨_, rfl⟩
  have hWB : Below w.heap.size w W := by rw [hW]; exact (Below.refl _ _).alloc (Nat.le_refl _) _
  have hWd := h.below hWB (Nat.le_refl _)
  have HW : Hid (W = w.alloc (.cells #[.slice a1 D.roots.length k1, .slice a2 D.mods.length k2, .slice a3 D.faults.length k3] 32)) := hW
  clear hW h
  by_cases hg : (wok D).1 = 0
  · have hcall := graphOf_good _ D W hWd hD hg
    clear hWd hg
    go_enter Tryz.func9, Tryz.ntmps9
    go_wp2_with fail
    rw [← HW.out]
    refine hcall.mono ?_
    rintro e w1 ⟨B, mb, g, r, m, f, ve, S, DM, _, rfl, hG, _, _, hB⟩
    have c4 : w1.cell? ⟨B, 4, none⟩ = some ve := hG.cells.2.2.2.2.1
    obtain ⟨av, cv, rfl, _, _⟩ := row_form hG.edg
    have HE : Hid (w1.ownsRow w.heap.size 54 3 (.slice av (edgesOf D).length cv) (edgesOf D).length ((edgesOf D).flatMap egR)) := own_mono hG.edg hWB.size
    clear hG hcall
    go_wp2
    go_ret
    exact ⟨_, rfl, HE.out, hWB.trans (hB.mono hWB.size)⟩
  · have hcall := graphOf_bad _ D W hWd hD hg
    have hE : edgesOf D = [] := by unfold edgesOf; rw [if_neg hg]
    rw [hE]
    clear hWd hg hE
    go_enter Tryz.func9, Tryz.ntmps9
    go_wp2_with fail
    rw [← HW.out]
    refine hcall.mono ?_
    rintro e w1 ⟨B, rfl, _, hG, hB⟩
    have c4 : w1.cell? ⟨B, 4, none⟩ = some (.slice none 0 0) := by unfold GBad at hG; simp [World.cell?, hG]
    clear hG hcall
    go_wp2
    go_ret
    exact ⟨_, rfl, World.ownsRow_nil _ _ _ _, hWB.trans (hB.mono hWB.size)⟩
end Go.Proofs.YtimgafblpmjajabGreat
