
import Derived.Test.YtimgafblpmjajabWiw

namespace Go.Proofs.Ytimgafblpmjajab

open Go.RowKit

theorem Wds.agg {w : World} {v : Value} {D : Wd} (h : Wds w v D) : ∃ a1 a2 a3 k1 k2 k3, v = .agg #[.slice a1 D.roots.length k1, .slice a2 D.mods.length k2, .slice a3 D.faults.length k3] := by
  obtain ⟨r, m, f, rfl, h1, h2, h3⟩ := h
  obtain ⟨a1, k1, rfl⟩ := h1.slice
  obtain ⟨a2, k2, rfl⟩ := h2.slice
  obtain ⟨a3, k3, rfl⟩ := h3.slice
  exact ⟨a1, a2, a3, k1, k2, k3, rfl⟩

/-- Three cells that stay. -/
theorem keep3 {B n : Nat} {W W' : World} {u0 u1 u2 : Value} (hb : Below B W W') (hz : n < B) (m : W.cell? ⟨n, 0, none⟩ = some u0 ∧ W.cell? ⟨n, 1, none⟩ = some u1 ∧ W.cell? ⟨n, 2, none⟩ = some u2) :
    W'.cell? ⟨n, 0, none⟩ = some u0 ∧ W'.cell? ⟨n, 1, none⟩ = some u1 ∧ W'.cell? ⟨n, 2, none⟩ = some u2 :=
  ⟨below_cell0 hb hz m.1, below_cell0 hb hz m.2.1, below_cell0 hb hz m.2.2⟩
theorem new3 (w : World) (u0 u1 u2 : Value) (t : TypeId) : (w.alloc (.cells #[u0, u1, u2] t)).cell? ⟨w.heap.size, 0, none⟩ = some u0 ∧ (w.alloc (.cells #[u0, u1, u2] t)).cell? ⟨w.heap.size, 1, none⟩ = some u1 ∧ (w.alloc (.cells #[u0, u1, u2] t)).cell? ⟨w.heap.size, 2, none⟩ = some u2 := by
  simp [go_sem]

set_option maxHeartbeats 8000000 in
set_option maxRecDepth 100000 in
theorem lawWorldOk (v : Value) (D : Wd) (w : World) (h : Wds w v D) (hok : D.ok) :
    Calls Try.prog 3 #[v] w fun e w' => e = .returned (.bool true) ∧ Below w.heap.size w w' := by
  obtain ⟨a1, a2, a3, k1, k2, k3, rfl⟩ := h.agg
  obtain ⟨W, hW⟩ : ∃ W, W = w.alloc (.cells #[.slice a1 D.roots.length k1, .slice a2 D.mods.length k2, .slice a3 D.faults.length k3] 26) := ⟨_, rfl⟩
  have hWB : Below w.heap.size w W := by rw [hW]; exact (Below.refl _ _).alloc (Nat.le_refl _) _
  have hWs : W.heap.size = w.heap.size + 1 := by rw [hW]; simp
  have hW3 := new3 w (.slice a1 D.roots.length k1) (.slice a2 D.mods.length k2) (.slice a3 D.faults.length k3) 26
  rw [← hW] at hW3
  have hWd := h.below hWB (Nat.le_refl _)
  have HW : Hid (W = w.alloc (.cells #[.slice a1 D.roots.length k1, .slice a2 D.mods.length k2, .slice a3 D.faults.length k3] 26)) := hW
  have HD : Hid (Wds w (.agg #[.slice a1 D.roots.length k1, .slice a2 D.mods.length k2, .slice a3 D.faults.length k3]) D) := h
  clear hW h
  go_enter Try.func3, Try.ntmps3
  go_wp2_with fail
  rw [← HW.out]
  refine (szWorld_any _ D W hWd hok).mono ?_
  by_cases hle : D.t ≤ 1048576
  · rw [leftOf_step hle]
    obtain ⟨q, hq⟩ : ∃ q : Nat, q = 1048576 - D.t := ⟨_, rfl⟩
    rw [← hq]
    have hqb : q ≤ 1048576 := by omega
    clear hq
    rintro e w1 ⟨rfl, hb1⟩
    have hB1 : Below (w.heap.size + 1) W w1 := hb1.mono (by omega)
    clear hb1 hWd
    obtain ⟨x0, x1, x2⟩ := keep3 hB1 (by omega) hW3
    go_wp2_with fail
    refine (toWorld_any _ D w1 (HD.out.below (hWB.trans (hB1.mono (by omega))) (Nat.le_refl _)) hle).mono ?_
    rintro e w2 ⟨v2, rfl, hv2, hb2⟩
    have hB2 : Below (w.heap.size + 1) W w2 := hB1.trans (hb2.mono (by have := hB1.size; omega))
    clear hb2 x0 x1 x2 hB1
    obtain ⟨y1, y2, y3, z1, z2, z3, rfl⟩ := hv2.agg
    go_wp2_with fail
    refine (specWorldOk_any _ D w2 hv2 hle).mono ?_
    obtain ⟨rc, rm, rl, hrr⟩ : ∃ rc rm rl, wok D = (rc, rm, rl) := ⟨_, _, _, rfl⟩
    have HRR : Hid (wok D = (rc, rm, rl)) := hrr
    rw [hrr]
    clear hrr hv2
    unfold wrongV
    rintro e w3 ⟨rfl, hb3⟩
    have hB3 : Below (w.heap.size + 1) W w3 := hB2.trans (hb3.mono (by have := hB2.size; omega))
    clear hb3 hB2
    have hz3 : w.heap.size < w3.heap.size := by have := hB3.size; omega
    obtain ⟨x0, x1, x2⟩ := keep3 hB3 (by omega) hW3
    obtain ⟨W3, hW3'⟩ : ∃ W3, W3 = w3.alloc (Obj.cells #[Value.int IntKind.i64 rc, Value.int IntKind.i64 rm, Value.int IntKind.i64 rl] 29) := ⟨_, rfl⟩
    have hg := new3 w3 (.int .i64 rc) (.int .i64 rm) (.int .i64 rl) 29
    rw [← hW3'] at hg
    have hBW3 : Below (w.heap.size + 1) W W3 := by rw [hW3']; exact hB3.alloc (by have := hB3.size; omega) _
    have hW3s : W3.heap.size = w3.heap.size + 1 := by rw [hW3']; simp
    have HW3 : Hid (W3 = w3.alloc (Obj.cells #[Value.int IntKind.i64 rc, Value.int IntKind.i64 rm, Value.int IntKind.i64 rl] 29)) := hW3'
    clear hW3'
    go_wp2_with fail
    rw [← HW3.out]
    refine (toWorld_any _ D W3 (HD.out.below (hWB.trans (hBW3.mono (by omega))) (Nat.le_refl _)) hle).mono ?_
    rintro e w4 ⟨v4, rfl, hv4, hb4⟩
    have hg4 := keep3 hb4 (by omega) hg
    have hB4 : Below (w.heap.size + 1) W w4 := hBW3.trans (hb4.mono (by have := hBW3.size; omega))
    have hz4 : w3.heap.size < w4.heap.size := by have := hb4.size; omega
    clear hb4 x0 x1 x2 hB3 hBW3 hg
    obtain ⟨y1, y2, y3, z1, z2, z3, rfl⟩ := hv4.agg
    obtain ⟨W4, hW4'⟩ : ∃ W4, W4 = w4.alloc (Obj.cells #[.slice y1 D.roots.length z1, .slice y2 D.mods.length z2, .slice y3 D.faults.length z3] 33) := ⟨_, rfl⟩
    have hx4 := new3 w4 (.slice y1 D.roots.length z1) (.slice y2 D.mods.length z2) (.slice y3 D.faults.length z3) 33
    rw [← hW4'] at hx4
    have hal : Below w4.heap.size w4 W4 := by rw [hW4']; exact (Below.refl _ _).alloc (Nat.le_refl _) _
    have hg4' := keep3 hal hz4 hg4
    have hv4' := hv4.below hal (Nat.le_refl _)
    have hBW4 : Below (w.heap.size + 1) W W4 := hB4.trans (hal.mono (by have := hB4.size; omega))
    have hW4s : W4.heap.size = w4.heap.size + 1 := by rw [hW4']; simp
    have HW4 : Hid (W4 = w4.alloc (Obj.cells #[.slice y1 D.roots.length z1, .slice y2 D.mods.length z2, .slice y3 D.faults.length z3] 33)) := hW4'
    clear hW4' hal hv4 hg4
    go_wp2_with fail
    rw [← HW4.out]
    refine (implWorldOk_any _ D W4 hv4' hle).mono ?_
    rw [HRR.out]
    unfold wrongV
    rintro e w5 ⟨rfl, hb5⟩
    have hg5 := keep3 hb5 (by omega) hg4'
    have hx5 := keep3 hb5 (by omega) hx4
    have hv5 := hv4'.below hb5 (Nat.le_refl _)
    have hB5 : Below (w.heap.size + 1) W w5 := hBW4.trans (hb5.mono (by have := hBW4.size; omega))
    have hz5 : w4.heap.size < w5.heap.size := by have := hb5.size; omega
    clear hb5 hg4' hx4 hv4' hBW4 hB4
    obtain ⟨W5, hW5'⟩ : ∃ W5, W5 = w5.alloc (Obj.cells #[Value.int IntKind.i64 rc, Value.int IntKind.i64 rm, Value.int IntKind.i64 rl] 29) := ⟨_, rfl⟩
    have hh5 := new3 w5 (.int .i64 rc) (.int .i64 rm) (.int .i64 rl) 29
    rw [← hW5'] at hh5
    have hal : Below w5.heap.size w5 W5 := by rw [hW5']; exact (Below.refl _ _).alloc (Nat.le_refl _) _
    have hg6 := keep3 hal (by omega) hg5
    have hx6 := keep3 hal hz5 hx5
    have hv6 := hv5.below hal (Nat.le_refl _)
    have hB6 : Below (w.heap.size + 1) W W5 := hB5.trans (hal.mono (by have := hB5.size; omega))
    have hW5s : W5.heap.size = w5.heap.size + 1 := by rw [hW5']; simp
    have HW5 : Hid (W5 = w5.alloc (Obj.cells #[Value.int IntKind.i64 rc, Value.int IntKind.i64 rm, Value.int IntKind.i64 rl] 29)) := hW5'
    have hz5' : w3.heap.size < w5.heap.size := by omega
    obtain ⟨g0, g1, g2⟩ := hg5
    clear hW5' hal hv5 hx5 hB5
    go_wp2_with fail
    rw [← HW5.out]
    have heqw := eqWrong_any (rc, rm, rl) W5
    unfold wrongV at heqw
    refine heqw.mono ?_
    rintro e w6 ⟨rfl, hb6⟩
    have hx7 := keep3 hb6 (by omega) hx6
    have hv7 := hv6.below hb6 (Nat.le_refl _)
    have hB7 : Below (w.heap.size + 1) W w6 := hB6.trans (hb6.mono (by have := hB6.size; omega))
    have hz7 : w4.heap.size < w6.heap.size := by have := hb6.size; omega
    have hw7 := keep3 hB7 (by omega) hW3
    clear hb6 hx6 hv6 hB6 g0 g1 g2 hg6 hh5 heqw
    obtain ⟨x0, x1, x2⟩ := hx7
    obtain ⟨o0, o1, o2⟩ := hw7
    have HT : Hid (Calls Try.prog 6 #[.agg #[.slice a1 D.roots.length k1, .slice a2 D.mods.length k2, .slice a3 D.faults.length k3]] w6.drew fun e w' => ∃ v', e = .returned v' ∧ Wds w' v' D ∧ Below w6.heap.size w6.drew w') :=
      toWorld_any _ D w6.drew (HD.out.below (hWB.trans (hB7.drew.mono (by omega))) (Nat.le_refl _)) hle
    have HV7 : Hid (Wds w6 (.agg #[.slice y1 D.roots.length z1, .slice y2 D.mods.length z2, .slice y3 D.faults.length z3]) D) := hv7
    clear hv7
    go_wp2
    go_region_with (first | (go_at_call 6; refine HT.out.mono ?_; rintro e w7 ⟨v7, rfl, hv8, hb8⟩; obtain ⟨j1, j2, j3, l1, l2, l3, rfl⟩ := hv8.agg; obtain ⟨n0, n1, n2⟩ := keep3 (W := w6.drew) hb8 hz7 ⟨x0, x1, x2⟩) | (go_at_call 9; refine (eqWorld_any _ _ D w7 (HV7.out.below (w' := w7) ((Below.refl w6.heap.size w6).drew.trans hb8) (Nat.le_refl _)) hv8 hle).mono ?_; rintro e w8 ⟨rfl, hb9⟩))
    all_goals
      go_wp2
      go_ret
      exact ⟨rfl, (hWB.trans (hB7.mono (by omega))).drew.trans ((hb8.trans (hb9.mono hb8.size)).mono (by have := hB7.size; omega))⟩
  · rw [leftOf_neg hle]
    rintro e w1 ⟨rfl, hb1⟩
    clear hWd
    go_wp2
    go_ret
    exact ⟨rfl, hWB.trans (hb1.mono (by omega))⟩
end Go.Proofs.Ytimgafblpmjajab
