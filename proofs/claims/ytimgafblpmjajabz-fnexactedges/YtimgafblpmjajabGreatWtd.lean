
import Derived.Test.YtimgafblpmjajabGreatWtw

namespace Go.Proofs.YtimgafblpmjajabGreat

open Go.RowKit

theorem Strs.grow {w w' : World} {v : Value} {L : List (List UInt8)} (h : Strs w v L) (hb : Below w.heap.size w w') : Strs w' v L := h.below hb (Nat.le_refl _)

theorem mem_le_sum : ∀ (L : List Nat) (x : Nat), x ∈ L → x ≤ L.sum
  | [], _, h => by cases h
  | y :: r, x, h => by
    rw [List.sum_cons]
    rcases List.mem_cons.1 h with rfl | h
    · omega
    · have := mem_le_sum r x h; omega

/-- A cell of a block that a step has not touched. -/
theorem set_far {w : World} {b o b' o' : Nat} {u v : Value} (h : w.cell? ⟨b', o', none⟩ = some v) (hne : b ≠ b' ∨ o ≠ o') : (w.setCell ⟨b, o, none⟩ u).cell? ⟨b', o', none⟩ = some v := by
  rw [World.cell?_setCell_other w _ _ _ (fun e => by cases e; rcases hne with h | h <;> exact h rfl)]; exact h
theorem set_at {w : World} {b o : Nat} {u v : Value} (h : w.cell? ⟨b, o, none⟩ = some v) : (w.setCell ⟨b, o, none⟩ u).cell? ⟨b, o, none⟩ = some u := World.cell?_setCell_same' _ _ _ (by rw [h]; rfl)

/-- What holds of a value as long as nothing below is touched stays so behind a store at a new block. -/
theorem below_set {w w' : World} {b o : Nat} (u : Value) (hb : Below w.heap.size w w') (h : w.heap.size ≤ b) : Below w.heap.size w (w'.setCell ⟨b, o, none⟩ u) := hb.setCell (p := ⟨b, o, none⟩) h u

theorem Lns.set {w : World} {v : Value} {L : List Ln} {B o : Nat} {u : Value} (W : World) (h : Lns W v L) (hb : Below W.heap.size W w) (hB : W.heap.size ≤ B) : Lns (w.setCell ⟨B, o, none⟩ u) v L := h.below (hb.setCell (p := ⟨B, o, none⟩) hB u) (Nat.le_refl _)

set_option maxHeartbeats 2000000 in
set_option maxRecDepth 100000 in
theorem toWorld_any (v : Value) (D : Wd) (w : World) (h : Wds w v D) (hD : D.t ≤ 1048576) :
    Calls Tryz.prog 8 #[v] w fun e w' => ∃ v', e = .returned v' ∧ Wds w' v' D ∧ Below w.heap.size w w' := by
  obtain ⟨vr, vm, vf, rfl, h1, h2, h3⟩ := h
  have hr1 : D.roots.length ≤ 1048576 := by have : D.roots.length ≤ Pl.total D.roots := by unfold Pl.total; omega
                                            unfold Wd.t at hD; omega
  have hm1 : D.mods.length ≤ 1048576 := by unfold Wd.t mdsT at hD; omega
  have hm2 : ∀ m ∈ D.mods, m.lines.length ≤ 1048576 := fun m hm => by
    have h1 : m.t ≤ (D.mods.map Md.t).sum := mem_le_sum _ _ (List.mem_map.2 ⟨m, hm, rfl⟩)
    have h2 : m.lines.length ≤ m.t := by unfold Md.t lnsT; omega
    unfold Wd.t mdsT at hD; omega
  have hf1 : D.faults.length ≤ 1048576 := by unfold Wd.t at hD; omega
  obtain ⟨a1, k1, rfl⟩ := h1.slice
  obtain ⟨a2, k2, rfl⟩ := h2.slice
  obtain ⟨a3, k3, rfl⟩ := h3.slice
  obtain ⟨W, hW⟩ : ∃ W, W = ((w.alloc (.cells #[.slice a1 D.roots.length k1, .slice a2 D.mods.length k2, .slice a3 D.faults.length k3] 26)).alloc (.cells #[.slice none 0 0, .slice none 0 0, .slice none 0 0] 32)).alloc (.cells #[.slice none 0 0, .slice none 0 0, .slice none 0 0] 32) := ⟨_, rfl⟩
  have hWB : Below w.heap.size w W := by rw [hW]; exact below_alloc3 _ _ _
  have hWs : W.heap.size = w.heap.size + 1 + 1 + 1 := by rw [hW]; simp
  have p1 : W.cell? ⟨w.heap.size, 1, none⟩ = some (.slice a2 D.mods.length k2) := by rw [hW]; simp [go_sem]
  have p2 : W.cell? ⟨w.heap.size, 2, none⟩ = some (.slice a3 D.faults.length k3) := by rw [hW]; simp [go_sem]
  have d0 : W.cell? ⟨w.heap.size + 1 + 1, 0, none⟩ = some (.slice none 0 0) := by rw [hW]; simp [go_sem]
  have d1 : W.cell? ⟨w.heap.size + 1 + 1, 1, none⟩ = some (.slice none 0 0) := by rw [hW]; simp [go_sem]
  have d2 : W.cell? ⟨w.heap.size + 1 + 1, 2, none⟩ = some (.slice none 0 0) := by rw [hW]; simp [go_sem]
  have f0 : W.frozen? ⟨w.heap.size + 1 + 1, 0, none⟩ = false := by rw [hW]; simp [go_sem]
  have f1 : W.frozen? ⟨w.heap.size + 1 + 1, 1, none⟩ = false := by rw [hW]; simp [go_sem]
  have f2 : W.frozen? ⟨w.heap.size + 1 + 1, 2, none⟩ = false := by rw [hW]; simp [go_sem]
  have e0 : W.cell? ⟨w.heap.size + 1, 0, none⟩ = some (.slice none 0 0) := by rw [hW]; simp [go_sem]
  have e1 : W.cell? ⟨w.heap.size + 1, 1, none⟩ = some (.slice none 0 0) := by rw [hW]; simp [go_sem]
  have e2 : W.cell? ⟨w.heap.size + 1, 2, none⟩ = some (.slice none 0 0) := by rw [hW]; simp [go_sem]
  have g0 : W.frozen? ⟨w.heap.size + 1, 0, none⟩ = false := by rw [hW]; simp [go_sem]
  have g1 : W.frozen? ⟨w.heap.size + 1, 1, none⟩ = false := by rw [hW]; simp [go_sem]
  have g2 : W.frozen? ⟨w.heap.size + 1, 2, none⟩ = false := by rw [hW]; simp [go_sem]
  go_enter Tryz.func8, Tryz.ntmps8
  go_wp2_with fail
  rw [← hW]
  clear hW
  refine (toS_any _ D.roots W (h1.below hWB (Nat.le_refl _)) hr1).mono ?_
  rintro e w1 ⟨v1, rfl, hv1, hb1⟩
  have hvf1 : vfrom (w.heap.size + 1 + 1 + 1) v1 := by rw [← hWs]; exact vfrom_row hv1
  replace hv1 := Strs.of_row hv1
  obtain ⟨x1, y1, rfl⟩ := hv1.slice
  replace p1 := below_cell0 hb1 (by omega) p1
  replace p2 := below_cell0 hb1 (by omega) p2
  replace d0 := below_cell0 hb1 (by omega) d0
  replace d1 := below_cell0 hb1 (by omega) d1
  replace d2 := below_cell0 hb1 (by omega) d2
  replace e0 := below_cell0 hb1 (by omega) e0
  replace e1 := below_cell0 hb1 (by omega) e1
  replace e2 := below_cell0 hb1 (by omega) e2
  replace f0 := below_frz hb1 (by omega) f0
  replace f1 := below_frz hb1 (by omega) f1
  replace f2 := below_frz hb1 (by omega) f2
  replace g0 := below_frz hb1 (by omega) g0
  replace g1 := below_frz hb1 (by omega) g1
  replace g2 := below_frz hb1 (by omega) g2
  go_wp2_with fail
  obtain ⟨W1, hW1⟩ : ∃ W1, W1 = w1.setCell ⟨w.heap.size + 1 + 1, 0, none⟩ (.slice x1 D.roots.length y1) := ⟨_, rfl⟩
  rw [← hW1]
  have hsz1 : w.heap.size + 1 + 1 + 1 ≤ w1.heap.size := by have := hb1.size; omega
  have hW1s : W1.heap.size = w1.heap.size := by rw [hW1]; simp [World.setCell]
  have hBW1 : Below w.heap.size w W1 := by rw [hW1]; exact (hWB.trans (hb1.mono (by omega))).setCell (p := ⟨w.heap.size + 1 + 1, 0, none⟩) (by simp only []; omega) _
  replace hv1 := hv1.setCell (B := w.heap.size + 1 + 1) hvf1 0 (.slice x1 D.roots.length y1)
  rw [← hW1] at hv1
  replace p1 := set_far (b := w.heap.size + 1 + 1) (o := 0) (u := .slice x1 D.roots.length y1) p1 (.inl (by omega))
  rw [← hW1] at p1
  replace p2 := set_far (b := w.heap.size + 1 + 1) (o := 0) (u := .slice x1 D.roots.length y1) p2 (.inl (by omega))
  rw [← hW1] at p2
  replace d0 := set_at (u := .slice x1 D.roots.length y1) d0
  rw [← hW1] at d0
  replace d1 := set_far (b := w.heap.size + 1 + 1) (o := 0) (u := .slice x1 D.roots.length y1) d1 (.inr (by omega))
  rw [← hW1] at d1
  replace d2 := set_far (b := w.heap.size + 1 + 1) (o := 0) (u := .slice x1 D.roots.length y1) d2 (.inr (by omega))
  rw [← hW1] at d2
  replace e0 := set_far (b := w.heap.size + 1 + 1) (o := 0) (u := .slice x1 D.roots.length y1) e0 (.inl (by omega))
  rw [← hW1] at e0
  replace e1 := set_far (b := w.heap.size + 1 + 1) (o := 0) (u := .slice x1 D.roots.length y1) e1 (.inl (by omega))
  rw [← hW1] at e1
  replace e2 := set_far (b := w.heap.size + 1 + 1) (o := 0) (u := .slice x1 D.roots.length y1) e2 (.inl (by omega))
  rw [← hW1] at e2
  replace f1 := (World.frozen?_setCell w1 ⟨w.heap.size + 1 + 1, 0, none⟩ _ (.slice x1 D.roots.length y1)).trans f1
  rw [← hW1] at f1
  replace f2 := (World.frozen?_setCell w1 ⟨w.heap.size + 1 + 1, 0, none⟩ _ (.slice x1 D.roots.length y1)).trans f2
  rw [← hW1] at f2
  replace g0 := (World.frozen?_setCell w1 ⟨w.heap.size + 1 + 1, 0, none⟩ _ (.slice x1 D.roots.length y1)).trans g0
  rw [← hW1] at g0
  replace g1 := (World.frozen?_setCell w1 ⟨w.heap.size + 1 + 1, 0, none⟩ _ (.slice x1 D.roots.length y1)).trans g1
  rw [← hW1] at g1
  replace g2 := (World.frozen?_setCell w1 ⟨w.heap.size + 1 + 1, 0, none⟩ _ (.slice x1 D.roots.length y1)).trans g2
  rw [← hW1] at g2
  clear hW1 f0
  refine (toModuleS_any _ D.mods W1 (h2.below hBW1 (Nat.le_refl _)) hm1 hm2).mono ?_
  rintro e w2 ⟨v2, rfl, hv2, hb2⟩
  obtain ⟨x2, y2, rfl⟩ := hv2.slice
  replace hv1 := hv1.below hb2 (Nat.le_refl _)
  replace p2 := below_cell0 hb2 (by omega) p2
  replace d0 := below_cell0 hb2 (by omega) d0
  replace d1 := below_cell0 hb2 (by omega) d1
  replace d2 := below_cell0 hb2 (by omega) d2
  replace e0 := below_cell0 hb2 (by omega) e0
  replace e1 := below_cell0 hb2 (by omega) e1
  replace e2 := below_cell0 hb2 (by omega) e2
  replace f1 := below_frz hb2 (by omega) f1
  replace f2 := below_frz hb2 (by omega) f2
  replace g0 := below_frz hb2 (by omega) g0
  replace g1 := below_frz hb2 (by omega) g1
  replace g2 := below_frz hb2 (by omega) g2
  clear p1
  go_wp2_with fail
  obtain ⟨W2, hW2⟩ : ∃ W2, W2 = w2.setCell ⟨w.heap.size + 1 + 1, 1, none⟩ (.slice x2 D.mods.length y2) := ⟨_, rfl⟩
  rw [← hW2]
  have hsz2 : W1.heap.size ≤ w2.heap.size := hb2.size
  have hW2s : W2.heap.size = w2.heap.size := by rw [hW2]; simp [World.setCell]
  have hBW2 : Below w.heap.size w W2 := by rw [hW2]; exact (hBW1.trans (hb2.mono (by omega))).setCell (p := ⟨w.heap.size + 1 + 1, 1, none⟩) (by simp only []; omega) _
  replace hv1 := hv1.setCell (B := w.heap.size + 1 + 1) hvf1 1 (.slice x2 D.mods.length y2)
  rw [← hW2] at hv1
  replace hv2 := hv2.setCell (B := w.heap.size + 1 + 1) (by omega) 1 (.slice x2 D.mods.length y2)
  rw [← hW2] at hv2
  replace p2 := set_far (b := w.heap.size + 1 + 1) (o := 1) (u := .slice x2 D.mods.length y2) p2 (.inl (by omega))
  rw [← hW2] at p2
  replace d0 := set_far (b := w.heap.size + 1 + 1) (o := 1) (u := .slice x2 D.mods.length y2) d0 (.inr (by omega))
  rw [← hW2] at d0
  replace d1 := set_at (u := .slice x2 D.mods.length y2) d1
  rw [← hW2] at d1
  replace d2 := set_far (b := w.heap.size + 1 + 1) (o := 1) (u := .slice x2 D.mods.length y2) d2 (.inr (by omega))
  rw [← hW2] at d2
  replace e0 := set_far (b := w.heap.size + 1 + 1) (o := 1) (u := .slice x2 D.mods.length y2) e0 (.inl (by omega))
  rw [← hW2] at e0
  replace e1 := set_far (b := w.heap.size + 1 + 1) (o := 1) (u := .slice x2 D.mods.length y2) e1 (.inl (by omega))
  rw [← hW2] at e1
  replace e2 := set_far (b := w.heap.size + 1 + 1) (o := 1) (u := .slice x2 D.mods.length y2) e2 (.inl (by omega))
  rw [← hW2] at e2
  replace f2 := (World.frozen?_setCell w2 ⟨w.heap.size + 1 + 1, 1, none⟩ _ (.slice x2 D.mods.length y2)).trans f2
  rw [← hW2] at f2
  replace g0 := (World.frozen?_setCell w2 ⟨w.heap.size + 1 + 1, 1, none⟩ _ (.slice x2 D.mods.length y2)).trans g0
  rw [← hW2] at g0
  replace g1 := (World.frozen?_setCell w2 ⟨w.heap.size + 1 + 1, 1, none⟩ _ (.slice x2 D.mods.length y2)).trans g1
  rw [← hW2] at g1
  replace g2 := (World.frozen?_setCell w2 ⟨w.heap.size + 1 + 1, 1, none⟩ _ (.slice x2 D.mods.length y2)).trans g2
  rw [← hW2] at g2
  clear hW2 f1
  refine (toIntS_any _ D.faults W2 (h3.below hBW2 (Nat.le_refl _)) hf1).mono ?_
  rintro e w3 ⟨v3, rfl, hv3, hvf3, hb3⟩
  obtain ⟨x3, y3, rfl⟩ := hv3.slice
  replace hv1 := hv1.below hb3 (Nat.le_refl _)
  replace hv2 := hv2.below hb3 (Nat.le_refl _)
  replace d0 := below_cell0 hb3 (by omega) d0
  replace d1 := below_cell0 hb3 (by omega) d1
  replace d2 := below_cell0 hb3 (by omega) d2
  replace e0 := below_cell0 hb3 (by omega) e0
  replace e1 := below_cell0 hb3 (by omega) e1
  replace e2 := below_cell0 hb3 (by omega) e2
  replace f2 := below_frz hb3 (by omega) f2
  replace g0 := below_frz hb3 (by omega) g0
  replace g1 := below_frz hb3 (by omega) g1
  replace g2 := below_frz hb3 (by omega) g2
  clear p2
  have hsz3 : W2.heap.size ≤ w3.heap.size := hb3.size
  have hvf3' : vfrom (w.heap.size + 1 + 1 + 1) (.slice x3 D.faults.length y3) := hvf3.mono (by omega)
  go_wp2
  refine bodyPost_ret (v := .agg #[.slice x1 D.roots.length y1, .slice x2 D.mods.length y2, .slice x3 D.faults.length y3]) (by simp [results, Tryz.results8, go_sem, e0, e1, e2]) rfl ⟨_, rfl, ⟨_, _, _, rfl, ?_, ?_, ?_⟩, ?_⟩
  · exact (((hv1.setCell hvf1 _ _).setCell (hvf1.mono (by omega)) _ _).setCell (hvf1.mono (by omega)) _ _).setCell (hvf1.mono (by omega)) _ _
  · exact ((((hv2.setCell (by omega) _ _).setCell (by omega) _ _).setCell (by omega) _ _).setCell (by omega) _ _).mds
  · exact (((hv3.setCell hvf3' _ _).setCell (hvf3'.mono (by omega)) _ _).setCell (hvf3'.mono (by omega)) _ _).setCell (hvf3'.mono (by omega)) _ _
  · exact ((((hBW2.trans (hb3.mono (by omega))).setCell (p := ⟨w.heap.size + 1 + 1, 2, none⟩) (by simp only []; omega) _).setCell (p := ⟨w.heap.size + 1, 0, none⟩) (by simp only []; omega) _).setCell (p := ⟨w.heap.size + 1, 1, none⟩) (by simp only []; omega) _).setCell (p := ⟨w.heap.size + 1, 2, none⟩) (by simp only []; omega) _
end Go.Proofs.YtimgafblpmjajabGreat
