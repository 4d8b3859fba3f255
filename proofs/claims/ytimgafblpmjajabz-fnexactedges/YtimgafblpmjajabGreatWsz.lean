
import Derived.Test.YtimgafblpmjajabGreatWorld

namespace Go.Proofs.YtimgafblpmjajabGreat

open Go.RowKit

theorem Strs.slice {w : World} {v : Value} {L : List (List UInt8)} (h : Strs w v L) : ∃ a cap, v = .slice a L.length cap := by obtain ⟨a, cap, rfl, _⟩ := h; exact ⟨a, cap, rfl⟩
theorem Nums.slice {w : World} {v : Value} {L : List Int} (h : Nums w v L) : ∃ a cap, v = .slice a L.length cap := by obtain ⟨a, cap, rfl, _⟩ := h; exact ⟨a, cap, rfl⟩
theorem Lns.slice {w : World} {v : Value} {L : List Ln} (h : Lns w v L) : ∃ a cap, v = .slice a L.length cap := by obtain ⟨a, cap, rfl, _⟩ := h; exact ⟨a, cap, rfl⟩
theorem Mds.slice {w : World} {v : Value} {L : List Md} (h : Mds w v L) : ∃ a cap, v = .slice a L.length cap := by obtain ⟨a, cap, rfl, _⟩ := h; exact ⟨a, cap, rfl⟩

theorem leftOf_neg {t left : Nat} (h : ¬ t ≤ left) : leftOf t left = -1 := by rw [leftOf, if_neg h]

set_option maxHeartbeats 1000000 in
set_option maxRecDepth 100000 in
theorem szWorld_any (v : Value) (D : Wd) (w : World) (h : Wds w v D) (hD : D.ok) :
    Calls Tryz.prog 6 #[v, .int .i64 1048576] w fun e w' => e = .returned (.int .i64 (leftOf D.t 1048576)) ∧ Below w.heap.size w w' := by
  obtain ⟨vr, vm, vf, rfl, h1, h2, h3⟩ := h
  have hA : Below w.heap.size w (w.alloc (.cells #[vr, vm, vf] 26)) := (Below.refl _ _).alloc (Nat.le_refl _) _
  have h1' := h1.below hA (Nat.le_refl _)
  have h2' := h2.below hA (Nat.le_refl _)
  have h3' := h3.below hA (Nat.le_refl _)
  have hs1 := sz_any vr D.roots _ h1' hD.1
  have hs1' : (if Pl.total D.roots ≤ 1048576 then 1048576 - (Pl.total D.roots : Int) else -1) = leftOf (Pl.total D.roots) 1048576 := rfl
  rw [hs1'] at hs1
  obtain ⟨a1, c1, rfl⟩ := h1.slice
  obtain ⟨a2, c2, rfl⟩ := h2.slice
  obtain ⟨a3, c3, rfl⟩ := h3.slice
  obtain ⟨r, hr⟩ : ∃ r, r = leftOf D.t 1048576 := ⟨_, rfl⟩
  rw [← hr]
  have HR : Hid (r = leftOf D.t 1048576) := hr
  clear hr h1 h2 h3 hs1' h1'
  by_cases hn1 : Pl.total D.roots ≤ 1048576
  · rw [leftOf_step hn1] at hs1
    obtain ⟨q1, hq1⟩ : ∃ q1 : Nat, q1 = 1048576 - Pl.total D.roots := ⟨_, rfl⟩
    rw [← hq1] at hs1
    have hqb1 : q1 ≤ 1048576 := by omega
    have HQ1 : Hid (q1 = 1048576 - Pl.total D.roots) := hq1
    clear hq1
    go_enter Tryz.func6, Tryz.ntmps6
    go_wp2_with fail
    refine hs1.mono ?_
    rintro e w1 ⟨rfl, rfl⟩
    go_wp2_with fail
    refine (szModuleS_any _ D.mods q1 _ h2' hD.2 hqb1).mono ?_
    by_cases hn2 : mdsT D.mods ≤ q1
    · rw [leftOf_step hn2]
      obtain ⟨q2, hq2⟩ : ∃ q2 : Nat, q2 = q1 - mdsT D.mods := ⟨_, rfl⟩
      rw [← hq2]
      have hqb2 : q2 ≤ 1048576 := by omega
      have HQ2 : Hid (q2 = q1 - mdsT D.mods) := hq2
      clear hq2
      rintro e w1 ⟨rfl, hb1⟩
      have hc : w1.cell? ⟨w.heap.size, 2, none⟩ = some (.slice a3 D.faults.length c3) := by rw [(bcell hb1).1 _ _ (by simp)]; simp
      have h3'' := h3'.below hb1 (Nat.le_refl _)
      go_wp2_with fail
      refine (szIntS_any _ D.faults q2 _ h3'' hqb2).mono ?_
      by_cases hn3 : D.faults.length ≤ q2
      · rw [leftOf_step hn3]
        have hre : r = ((q2 - D.faults.length : Nat) : Int) := by rw [HR.out, leftOf, if_pos (by have h1 := HQ1.out; have h2 := HQ2.out; unfold Wd.t; omega), Wd.t]; have h1 := HQ1.out; have h2 := HQ2.out; omega
        obtain ⟨q3, hq3⟩ : ∃ q3 : Nat, q3 = q2 - D.faults.length := ⟨_, rfl⟩
        rw [← hq3] at hre
        rw [← hq3]
        have hqb3 : q3 ≤ 1048576 := by omega
        have HRE : Hid (r = q3) := hre
        clear hq3 hre
        rintro e w1 ⟨rfl, rfl⟩
        go_wp2
        go_ret
        exact ⟨ret_int HRE.out.symm, below_one hb1⟩
      · rw [leftOf_neg hn3]
        have hre : r = -1 := by rw [HR.out, leftOf, if_neg (by have h1 := HQ1.out; have h2 := HQ2.out; unfold Wd.t; omega)]
        have HRE : Hid (r = -1) := hre
        clear hre
        rintro e w1 ⟨rfl, rfl⟩
        go_wp2
        go_ret
        exact ⟨ret_int HRE.out.symm, below_one hb1⟩
    · rw [leftOf_neg hn2]
      have hre : r = -1 := by rw [HR.out, leftOf, if_neg (by have h1 := HQ1.out; unfold Wd.t; omega)]
      have HRE : Hid (r = -1) := hre
      clear hre
      rintro e w1 ⟨rfl, hb1⟩
      go_wp2
      go_ret
      exact ⟨ret_int HRE.out.symm, below_one hb1⟩
  · rw [leftOf_neg hn1] at hs1
    have hre : r = -1 := by rw [HR.out, leftOf, if_neg (by unfold Wd.t; omega)]
    have HRE : Hid (r = -1) := hre
    clear hre h2' h3'
    go_enter Tryz.func6, Tryz.ntmps6
    go_wp2_with fail
    refine hs1.mono ?_
    rintro e w1 ⟨rfl, rfl⟩
    go_wp2
    go_ret
    exact ⟨ret_int HRE.out.symm, hA⟩

end Go.Proofs.YtimgafblpmjajabGreat
