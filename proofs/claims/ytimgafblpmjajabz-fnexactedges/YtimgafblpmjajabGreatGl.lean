
import Derived.Test.YtimgafblpmjajabGreatGf

import Derived.Test.YtimgafblpmjajabGreatWlw

namespace Go.Proofs.YtimgafblpmjajabGreat

open Go.RowKit

/-- What is asked of impl.Edges. -/
def EdgesOk : Prop := ∀ (v : Value) (D : Wd) (w : World), Wds w v D → D.t ≤ 1048576 →
  Calls Tryz.prog 9 #[v] w fun e w' => ∃ v', e = .returned v' ∧ w'.ownsRow w.heap.size 54 3 v' (edgesOf D).length ((edgesOf D).flatMap egR) ∧ Below w.heap.size w w'


set_option maxHeartbeats 16000000 in
set_option maxRecDepth 100000 in
theorem lawEdges (HI0 : EdgesOk) (v : Value) (D : Wd) (w : World) (h : Wds w v D) (hok : D.ok) :
    Calls Tryz.prog 3 #[v] w fun e w' => e = .returned (.bool true) ∧ Below w.heap.size w w' := by
  obtain ⟨a1, a2, a3, k1, k2, k3, rfl⟩ := h.agg
  obtain ⟨W, hW⟩ : ∃ W, W = w.alloc (.cells #[.slice a1 D.roots.length k1, .slice a2 D.mods.length k2, .slice a3 D.faults.length k3] 26) := ⟨_, rfl⟩
  have hWB : Below w.heap.size w W := by rw [hW]; exact (Below.refl _ _).alloc (Nat.le_refl _) _
  have hWs : W.heap.size = w.heap.size + 1 := by rw [hW]; simp
  have hW3 := new3 w (.slice a1 D.roots.length k1) (.slice a2 D.mods.length k2) (.slice a3 D.faults.length k3) 26
  rw [← hW] at hW3
  have hWd := h.below hWB (Nat.le_refl _)
  have HW : Hid (W = w.alloc (.cells #[.slice a1 D.roots.length k1, .slice a2 D.mods.length k2, .slice a3 D.faults.length k3] 26)) := hW
  have HD : Hid (Wds W (.agg #[.slice a1 D.roots.length k1, .slice a2 D.mods.length k2, .slice a3 D.faults.length k3]) D) := hWd
  have HI : Hid EdgesOk := HI0
  clear hW h HI0
  go_enter Tryz.func3, Tryz.ntmps3
  go_wp2_with fail
  rw [← HW.out]
  refine (szWorld_any _ D W hWd hok).mono ?_
  by_cases hle : D.t ≤ 1048576
  · rw [leftOf_step hle]
    obtain ⟨q, hq⟩ : ∃ q : Nat, q = 1048576 - D.t := ⟨_, rfl⟩
    rw [← hq]
    have hqb : q ≤ 1048576 := by omega
    have hEl := edgesOf_len D hle
    obtain ⟨E, hE⟩ : ∃ E, E = edgesOf D := ⟨_, rfl⟩
    have HE : Hid (E = edgesOf D) := hE
    rw [← hE] at hEl
    clear hq hE
    rintro e w1 ⟨rfl, B1⟩
    clear hWd
    obtain ⟨x0, x1, x2⟩ := keep3 B1 (by omega) hW3
    go_wp2_with fail
    refine (toWorld_any _ D w1 (HD.out.below B1 (Nat.le_refl _)) hle).mono ?_
    rintro e w2 ⟨v2, rfl, hv2, hb2⟩
    have B2 : Below W.heap.size W w2 := B1.trans (hb2.mono B1.size)
    clear hb2 x0 x1 x2 B1
    obtain ⟨y1, y2, y3, z1, z2, z3, rfl⟩ := hv2.agg
    go_wp2_with fail
    refine (specEdges_any _ D w2 hv2 hle).mono ?_
    rw [← HE.out]
    rintro e w3 ⟨vw, rfl, rw3, hb3⟩
    have B3 : Below W.heap.size W w3 := B2.trans (hb3.mono B2.size)
    clear hb3 hv2
    obtain ⟨aw, cw, rfl, _, _⟩ := row_form rw3
    have hwlt : ∀ b, (Value.slice aw E.length cw).ownBlock = some b → b < w3.heap.size := fun b hb => (rw3.lt b hb).2
    have s23 := B3.size
    obtain ⟨x0, x1, x2⟩ := keep3 B3 (by omega) hW3
    go_wp2_with fail
    refine (toWorld_own _ D w3 (HD.out.below B3 (Nat.le_refl _)) hle).mono ?_
    rintro e w4 ⟨vx, rfl, hx4, hb4⟩
    have B4 : Below W.heap.size W w4 := B3.trans (hb4.mono B3.size)
    have rw4 := own_below rw3 hb4 (Nat.le_refl _)
    have s34 := hb4.size
    clear hb4 x0 x1 x2 rw3 B2
    obtain ⟨y1, y2, y3, z1, z2, z3, rfl⟩ := hx4.wds.agg
    obtain ⟨W4, hW4'⟩ : ∃ W4, W4 = w4.alloc (Obj.cells #[.slice y1 D.roots.length z1, .slice y2 D.mods.length z2, .slice y3 D.faults.length z3] 32) := ⟨_, rfl⟩
    have hc4 := new3 w4 (.slice y1 D.roots.length z1) (.slice y2 D.mods.length z2) (.slice y3 D.faults.length z3) 32
    rw [← hW4'] at hc4
    have hal : Below w4.heap.size w4 W4 := by rw [hW4']; exact (Below.refl _ _).alloc (Nat.le_refl _) _
    have hW4s : W4.heap.size = w4.heap.size + 1 := by rw [hW4']; simp
    have HW4 : Hid (W4 = w4.alloc (Obj.cells #[.slice y1 D.roots.length z1, .slice y2 D.mods.length z2, .slice y3 D.faults.length z3] 32)) := hW4'
    have BW4 : Below W.heap.size W W4 := B4.trans (hal.mono B4.size)
    have rwW4 := own_below rw4 hal (Nat.le_refl _)
    clear hW4' rw4
    go_wp2_with fail
    rw [← HW4.out]
    refine (HI.out _ D W4 (hx4.wds.below hal (Nat.le_refl _)) hle).mono ?_
    rw [← HE.out]
    rintro e w5 ⟨vg, rfl, rg5, hb5⟩
    obtain ⟨ag, cg, rfl, _, _⟩ := row_form rg5
    have B5 : Below W.heap.size W w5 := BW4.trans (hb5.mono BW4.size)
    have rw5 := own_below rwW4 hb5 (Nat.le_refl _)
    have bx5 : Below w4.heap.size w4 w5 := hal.trans (hb5.mono hal.size)
    have c5 := keep3 hb5 (by omega) hc4
    have s45 : w4.heap.size < w5.heap.size := by have := hb5.size; omega
    clear hb5 rwW4 hc4 BW4 hal
    go_wp2_with fail
    refine (eqEdgeS_any _ _ E w5 (egs_own rg5) (egs_own rw5) hEl).mono ?_
    rintro e w6 ⟨rfl, hb6⟩
    have B6 : Below W.heap.size W w6 := B5.trans (hb6.mono B5.size)
    have rw6 := own_below rw5 hb6 (Nat.le_refl _)
    have rg6 := own_below rg5 hb6 (Nat.le_refl _)
    have bx6 : Below w4.heap.size w4 w6 := bx5.trans (hb6.mono bx5.size)
    obtain ⟨n0, n1, n2⟩ := keep3 hb6 s45 c5
    obtain ⟨x0, x1, x2⟩ := keep3 B6 (by omega) hW3
    have s56 : w4.heap.size < w6.heap.size := by have := hb6.size; omega
    clear hb6 rw5 rg5 bx5 c5 B5
    have HT : Hid (Calls Tryz.prog 8 #[.agg #[.slice a1 D.roots.length k1, .slice a2 D.mods.length k2, .slice a3 D.faults.length k3]] w6.drew fun e w' => ∃ v', e = .returned v' ∧ Wds w' v' D ∧ Below w6.heap.size w6.drew w') :=
      toWorld_any _ D w6.drew (HD.out.below B6.drew (Nat.le_refl _)) hle
    have HX : Hid (Wds w6 (.agg #[.slice y1 D.roots.length z1, .slice y2 D.mods.length z2, .slice y3 D.faults.length z3]) D) := hx4.wds.below bx6 (Nat.le_refl _)
    go_wp2
    go_region_with (first | (go_at_call 8; refine HT.out.mono ?_; rintro e w7 ⟨v7, rfl, hv8, hb8⟩; obtain ⟨j1, j2, j3, l1, l2, l3, rfl⟩ := hv8.agg; obtain ⟨m0, m1, m2⟩ := keep3 (W := w6.drew) hb8 s56 ⟨n0, n1, n2⟩) | (go_at_call 11; refine (eqWorld_any _ _ D w7 (HX.out.below (w' := w7) ((Below.refl w6.heap.size w6).drew.trans hb8) (Nat.le_refl _)) hv8 hle).mono ?_; rintro e w8 ⟨rfl, hb9⟩))
    all_goals
      have h68 : Below w6.heap.size w6 w8 := (Below.refl w6.heap.size w6).drew.trans (hb8.trans (hb9.mono hb8.size))
      have B8 : Below W.heap.size W w8 := B6.trans (h68.mono B6.size)
      have rw8 := own_below rw6 h68 (Nat.le_refl _)
      have rg8 := own_below rg6 h68 (Nat.le_refl _)
      have bx8 : Below w4.heap.size w4 w8 := bx6.trans (h68.mono bx6.size)
      have s68 := h68.size
      obtain ⟨o0, o1, o2⟩ := keep3 h68 s56 ⟨n0, n1, n2⟩
      have hmk := markWorld_any w3.heap.size w4.heap.size _ D w4 w8 hx4 (Nat.le_refl _) (by omega) bx8 hle
      clear x0 x1 x2 n0 n1 n2 m0 m1 m2 hb8 hb9 hv8 rw6 rg6 h68 bx8 B6
      go_wp2_with fail
      refine hmk.mono ?_
      rintro e w9 ⟨kk, rfl, hbt⟩
      have B9 : Below W.heap.size W w9 := B8.trans ((hbt.below (by omega)).mono (by omega))
      have rg9 := hbt.own rg8 (by omega)
      have rw9 := hbt.own_old rw8 hwlt
      have s89 := hbt.size
      clear hmk hbt rw8 rg8 o0 o1 o2 B8
      go_wp2_with fail
      refine (eqEdgeS_any _ _ E w9 (egs_own rg9) (egs_own rw9) hEl).mono ?_
      rintro e w10 ⟨rfl, hb10⟩
      have B10 : Below W.heap.size W w10 := B9.trans (hb10.mono B9.size)
      have rw10 := own_below rw9 hb10 (Nat.le_refl _)
      have rg10 := own_below rg9 hb10 (Nat.le_refl _)
      have s910 := hb10.size
      clear hb10 rw9 rg9 B9
      go_wp2_with fail
      refine (markE_any _ _ E.length _ w10 rg10 hEl).mono ?_
      rintro e w11 ⟨rfl, rg11, hg11⟩
      have rw11 := own_block (w' := w11) rw10 (fun b hb => hg11.block b (rw10.lt b hb).2 (fun e => by have h1 := (rg10.lt b e.symm).1; have h2 := hwlt b hb; omega))
      have B11 : Below W.heap.size W w11 := B10.grown hg11 B10.size (fun b e => by have h1 := (rg10.lt b e).1; omega)
      have s1011 := hg11.size
      clear hg11 rw10 rg10 B10
      go_wp2_with fail
      refine (heldE_any _ E.length w11 (egs_own rg11) hEl).mono ?_
      rintro e w11' ⟨rfl, rfl⟩
      obtain ⟨x0, x1, x2⟩ := keep3 B11 (by omega) hW3
      go_wp2_with fail
      refine (toWorld_any _ D w11' (HD.out.below B11 (Nat.le_refl _)) hle).mono ?_
      rintro e w12 ⟨v12, rfl, hv12, hb12⟩
      obtain ⟨t1, t2, t3, u1, u2, u3, rfl⟩ := hv12.agg
      have B12 : Below W.heap.size W w12 := B11.trans (hb12.mono B11.size)
      have rw12 := own_below rw11 hb12 (Nat.le_refl _)
      have rg12 := own_below rg11 hb12 (Nat.le_refl _)
      clear hb12 rw11 rg11 B11 x0 x1 x2
      go_wp2_with fail
      refine (HI.out _ D w12 hv12 hle).mono ?_
      rw [← HE.out]
      rintro e w13 ⟨vh, rfl, rh13, hb13⟩
      obtain ⟨ah, ch, rfl, _, _⟩ := row_form rh13
      have B13 : Below W.heap.size W w13 := B12.trans (hb13.mono B12.size)
      have rw13 := own_below rw12 hb13 (Nat.le_refl _)
      have rg13 := own_below rg12 hb13 (Nat.le_refl _)
      clear hb13 rw12 rg12 B12 hv12
      go_wp2_with fail
      refine (eqEdgeS_any _ _ E w13 (egs_own rh13) (egs_own rw13) hEl).mono ?_
      rintro e w14 ⟨rfl, hb14⟩
      have B14 : Below W.heap.size W w14 := B13.trans (hb14.mono B13.size)
      have rg14 := own_below rg13 hb14 (Nat.le_refl _)
      clear hb14 rw13 rg13 rh13 B13
      go_wp2_with fail
      refine (heldE_any _ E.length w14 (egs_own rg14) hEl).mono ?_
      rintro e w14' ⟨rfl, rfl⟩
      go_wp2
      go_ret
      exact ⟨rfl, hWB.trans (B14.mono hWB.size)⟩
  · rw [leftOf_neg hle]
    rintro e w1 ⟨rfl, B1⟩
    go_wp2
    go_ret
    exact ⟨rfl, hWB.trans (B1.mono hWB.size)⟩
end Go.Proofs.YtimgafblpmjajabGreat
