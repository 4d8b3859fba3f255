
import Derived.Test.YtimgafblpmjajabGreatWto

namespace Go.Proofs.YtimgafblpmjajabGreat

open Go.RowKit

theorem below_alloc2 {w : World} (o1 o2 : Obj) : Below w.heap.size w ((w.alloc o1).alloc o2) := ((Below.refl _ _).alloc (Nat.le_refl _) _).alloc (by simp) _
theorem below_alloc3 {w : World} (o1 o2 o3 : Obj) : Below w.heap.size w (((w.alloc o1).alloc o2).alloc o3) := (below_alloc2 o1 o2).alloc (by simp; omega) _

theorem vfrom.mono {a b : Nat} {v : Value} (h : vfrom a v) (hb : b ≤ a) : vfrom b v := fun x o s n c e => Nat.le_trans hb (h x o s n c e)

theorem cell_far (w : World) (p a : Addr) (v : Value) (h : p.block ≠ a.block) : (w.setCell p v).cell? a = w.cell? a := World.cell?_setCell_other w p a v (fun e => h (by rw [e]))

theorem Lns.setCell {w : World} {v : Value} {L : List Ln} {B : Nat} (h : Lns w v L) (hv : vfrom (B + 1) v) (o : Nat) (u : Value) : Lns (w.setCell ⟨B, o, none⟩ u) v L := by
  obtain ⟨a, cap, rfl, hcap, hmax, hc⟩ := h
  refine ⟨a, cap, rfl, hcap, hmax, fun k hk => ?_⟩
  obtain ⟨b, o', rfl, hb, h0, h1, h2, h3⟩ := hc k hk
  have hne : B ≠ b := by have := hv b o' none _ _ rfl; omega
  exact ⟨b, o', rfl, by simpa [World.setCell] using hb, by rw [cell_far _ _ _ _ hne]; exact h0, by rw [cell_far _ _ _ _ hne]; exact h1, by rw [cell_far _ _ _ _ hne]; exact h2, by rw [cell_far _ _ _ _ hne]; exact h3⟩

theorem below_cell0 {w w' : World} {B b o : Nat} (h : Below B w w') (hb : b < B) {u : Value} (hc : w.cell? ⟨b, o, none⟩ = some u) : w'.cell? ⟨b, o, none⟩ = some u := (h.cell (p := ⟨b, o, none⟩) hb).trans hc
theorem below_frz {w w' : World} {B b o : Nat} (h : Below B w w') (hb : b < B) {u : Bool} (hc : w.frozen? ⟨b, o, none⟩ = u) : w'.frozen? ⟨b, o, none⟩ = u := (h.frozen (p := ⟨b, o, none⟩) hb).trans hc

set_option maxHeartbeats 2000000 in
set_option maxRecDepth 100000 in
theorem toModule_any (m : Md) (s : Value) (w : World) (h : Lns w s m.lines) (hL : m.lines.length ≤ 1048576) :
    Calls Tryz.prog 49 #[mdV m.name s] w fun e w' => ∃ s', e = .returned (mdV m.name s') ∧ Lns w' s' m.lines ∧ vfrom w.heap.size s' ∧ Below w.heap.size w w' := by
  unfold mdV
  obtain ⟨n, hs⟩ := strV_of m.name
  rw [hs]
  clear hs
  obtain ⟨a, cap, rfl⟩ := h.slice
  obtain ⟨W, hW⟩ : ∃ W, W = ((w.alloc (.cells #[.string n, .slice a m.lines.length cap] 86)).alloc (.cells #[.string ⟨#[]⟩, .slice none 0 0] 49)).alloc (.cells #[.string n, .slice none 0 0] 49) := ⟨_, rfl⟩
  have h1 : Lns W (.slice a m.lines.length cap) m.lines := by rw [hW]; exact h.below (below_alloc3 _ _ _) (Nat.le_refl _)
  have hWB : Below w.heap.size w W := by rw [hW]; exact below_alloc3 _ _ _
  have hWs : W.heap.size = w.heap.size + 1 + 1 + 1 := by rw [hW]; simp
  have hd0 : W.cell? ⟨w.heap.size + 1 + 1, 0, none⟩ = some (.string n) := by rw [hW]; simp [go_sem]
  have hd1 : W.cell? ⟨w.heap.size + 1 + 1, 1, none⟩ = some (.slice none 0 0) := by rw [hW]; simp [go_sem]
  have hd2 : W.frozen? ⟨w.heap.size + 1 + 1, 1, none⟩ = false := by rw [hW]; simp [go_sem]
  have he0 : W.cell? ⟨w.heap.size + 1, 0, none⟩ = some (.string ⟨#[]⟩) := by rw [hW]; simp [go_sem]
  have he1 : W.cell? ⟨w.heap.size + 1, 1, none⟩ = some (.slice none 0 0) := by rw [hW]; simp [go_sem]
  have he2 : W.frozen? ⟨w.heap.size + 1, 0, none⟩ = false := by rw [hW]; simp [go_sem]
  have he3 : W.frozen? ⟨w.heap.size + 1, 1, none⟩ = false := by rw [hW]; simp [go_sem]
  go_enter Tryz.func49, Tryz.ntmps49
  go_wp2_with fail
  rw [← hW]
  clear hW
  refine (toLineS_any _ m.lines W h1 hL).mono ?_
  rintro e w1 ⟨v', rfl, hv', hvf, hb1⟩
  obtain ⟨a', cap', rfl⟩ := hv'.slice
  have d0 := below_cell0 hb1 (by omega) hd0
  have d1 := below_cell0 hb1 (by omega) hd1
  have d2 := below_frz hb1 (by omega) hd2
  have c0 := below_cell0 hb1 (by omega) he0
  have c1 := below_cell0 hb1 (by omega) he1
  have c2 := below_frz hb1 (by omega) he2
  have c3 := below_frz hb1 (by omega) he3
  clear hd0 hd1 hd2 he0 he1 he2 he3
  go_wp2
  have hvf' : vfrom (w.heap.size + 1 + 1 + 1) (.slice a' m.lines.length cap') := by rw [← hWs]; exact hvf
  exact bodyPost_ret (v := .agg #[.string n, .slice a' m.lines.length cap']) (by simp [results, Tryz.results49, go_sem, c0, c1]) rfl ⟨_, rfl, ((hv'.setCell hvf' _ _).setCell (hvf'.mono (by omega)) _ _).setCell (hvf'.mono (by omega)) _ _, hvf'.mono (by omega),
    (((hWB.trans (hb1.mono (by omega))).setCell (p := ⟨w.heap.size + 1 + 1, 1, none⟩) (by simp only []; omega) _).setCell (p := ⟨w.heap.size + 1, 0, none⟩) (by simp only []; omega) _).setCell (p := ⟨w.heap.size + 1, 1, none⟩) (by simp only []; omega) _⟩
end Go.Proofs.YtimgafblpmjajabGreat
