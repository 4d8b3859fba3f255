
import Derived.Test.YtimgafblpmjajabGreatWeq

namespace Go.Proofs.YtimgafblpmjajabGreat

open Go.RowKit

set_option maxHeartbeats 1000000 in
set_option maxRecDepth 100000 in
theorem eqModule_any (m : Md) (s s' : Value) (w : World) (h : Lns w s m.lines) (h' : Lns w s' m.lines) (hL : m.lines.length ≤ 1048576) :
    Calls Tryz.prog 55 #[mdV m.name s, mdV m.name s'] w fun e w' => e = .returned (.bool true) ∧ Below w.heap.size w w' := by
  unfold mdV
  obtain ⟨n, hs⟩ := strV_of m.name
  rw [hs]
  clear hs
  obtain ⟨a, cap, rfl⟩ := h.slice
  obtain ⟨a', cap', rfl⟩ := h'.slice
  go_enter Tryz.func55, Tryz.ntmps55
  go_wp2_with fail
  refine (eqLineS_any _ _ m.lines _ (h.below (below_alloc2 _ _) (Nat.le_refl _)) (h'.below (below_alloc2 _ _) (Nat.le_refl _)) hL).mono ?_
  rintro e w1 ⟨rfl, hb⟩
  go_wp2
  go_ret
  exact ⟨rfl, (below_alloc2 _ _).trans (hb.mono (by simp; omega))⟩

set_option maxHeartbeats 2000000 in
set_option maxRecDepth 100000 in
theorem eqModuleS_any (v v' : Value) (L : List Md) (w : World) (h : Mds w v L) (h' : Mds w v' L) (hL : L.length ≤ 1048576) (hLL : ∀ m ∈ L, m.lines.length ≤ 1048576) :
    Calls Tryz.prog 32 #[v, v'] w fun e w' => e = .returned (.bool true) ∧ Below w.heap.size w w' := by
  obtain ⟨a, cap, rfl, hcap, hmax, hc⟩ := h
  obtain ⟨a', cap', rfl, hcap', hmax', hc'⟩ := h'
  have HC : Hid (∀ k, (hk : k < L.length) → ∃ b o s, a = some ⟨b, o, none⟩ ∧ b < w.heap.size ∧
    w.cell? ⟨b, o + k * 2, none⟩ = some (strV L[k].name) ∧ w.cell? ⟨b, o + k * 2 + 1, none⟩ = some s ∧ Lns w s L[k].lines) := hc
  have HC' : Hid (∀ k, (hk : k < L.length) → ∃ b o s, a' = some ⟨b, o, none⟩ ∧ b < w.heap.size ∧
    w.cell? ⟨b, o + k * 2, none⟩ = some (strV L[k].name) ∧ w.cell? ⟨b, o + k * 2 + 1, none⟩ = some s ∧ Lns w s L[k].lines) := hc'
  have HLL : Hid (∀ m ∈ L, m.lines.length ≤ 1048576) := hLL
  clear hc hmax hc' hmax' hLL
  go_enter Tryz.func32, Tryz.ntmps32
  go_wp2
  go_loopw [5] (fun i wr => ∃ k : Nat, k ≤ L.length ∧ i = .int .i64 k ∧ Below w.heap.size w wr) (fun i _ => L.length - (intOf i).toNat)
  case atStart => exact ⟨0, Nat.zero_le _, rfl, Below.refl _ _⟩
  case round =>
    obtain ⟨k, hk, rfl, hB⟩ := hrel
    by_cases hlt : k < L.length
    · obtain ⟨b, o, s, rfl, hb, h0, h1, h2⟩ := HC.out k hlt
      obtain ⟨b', o', s', rfl, hb', h0', h1', h2'⟩ := HC'.out k hlt
      have c0 := (hB.cell (p := ⟨b, o + k * 2, none⟩) hb).trans h0
      have c1 := (hB.cell (p := ⟨b, o + k * 2 + 1, none⟩) hb).trans h1
      have d0 := (hB.cell (p := ⟨b', o' + k * 2, none⟩) hb').trans h0'
      have d1 := (hB.cell (p := ⟨b', o' + k * 2 + 1, none⟩) hb').trans h1'
      have h3 := h2.below hB.drew (Nat.le_refl _)
      have h3' := h2'.below hB.drew (Nat.le_refl _)
      have HEQ : Hid (Calls Tryz.prog 55 #[mdV L[k].name s, mdV L[k].name s'] wr.drew fun e w' => e = .returned (.bool true) ∧ Below wr.heap.size wr.drew w') := eqModule_any L[k] s s' wr.drew h3 h3' (HLL.out _ (List.getElem_mem hlt))
      unfold mdV at HEQ
      clear h0 h1 h0' h1' h2 h2' h3 h3'
      go_wp2
      go_region_with (go_at_call 55; refine HEQ.out.mono ?_; rintro e w1 ⟨rfl, hb1⟩)
      all_goals
        have hb2 : Below w.heap.size w w1 := hB.drew.trans (hb1.mono hB.size)
        go_wp2
        go_roundw
        case rel => exact ⟨k + 1, by omega, by go_num, hb2⟩
        case measure => simp [intOf]; omega
    · go_wp2
      go_ret
      exact ⟨rfl, hB⟩

set_option maxHeartbeats 2000000 in
set_option maxRecDepth 100000 in
theorem eqIntS_any (v v' : Value) (L : List Int) (w : World) (h : Nums w v L) (h' : Nums w v' L) (hL : L.length ≤ 1048576) :
    Calls Tryz.prog 33 #[v, v'] w fun e w' => e = .returned (.bool true) ∧ Below w.heap.size w w' := by
  obtain ⟨a, cap, rfl, hcap, hmax, hc⟩ := h
  obtain ⟨a', cap', rfl, hcap', hmax', hc'⟩ := h'
  have HC : Hid (∀ k, (hk : k < L.length) → ∃ b o, a = some ⟨b, o, none⟩ ∧ b < w.heap.size ∧ w.cell? ⟨b, o + k, none⟩ = some (.int .i64 L[k])) := hc
  have HC' : Hid (∀ k, (hk : k < L.length) → ∃ b o, a' = some ⟨b, o, none⟩ ∧ b < w.heap.size ∧ w.cell? ⟨b, o + k, none⟩ = some (.int .i64 L[k])) := hc'
  clear hc hmax hc' hmax'
  go_enter Tryz.func33, Tryz.ntmps33
  go_wp2
  go_loopw [5] (fun i wr => ∃ k : Nat, k ≤ L.length ∧ i = .int .i64 k ∧ Below w.heap.size w wr) (fun i _ => L.length - (intOf i).toNat)
  case atStart => exact ⟨0, Nat.zero_le _, rfl, Below.refl _ _⟩
  case round =>
    obtain ⟨k, hk, rfl, hB⟩ := hrel
    by_cases hlt : k < L.length
    · obtain ⟨b, o, rfl, hb, h0⟩ := HC.out k hlt
      obtain ⟨b', o', rfl, hb', h0'⟩ := HC'.out k hlt
      have c0 := (hB.cell (p := ⟨b, o + k, none⟩) hb).trans h0
      have d0 := (hB.cell (p := ⟨b', o' + k, none⟩) hb').trans h0'
      clear h0 h0'
      go_wp2
      go_region
      all_goals
        go_wp2
        go_roundw
        case rel => exact ⟨k + 1, by omega, by go_num, hB.drew⟩
        case measure => simp [intOf]; omega
    · go_wp2
      go_ret
      exact ⟨rfl, hB⟩

theorem below_drewN {B : Nat} {w w' : World} (h : Below B w w') (n : Nat) : Below B w (w'.drewN n) := h.trans ⟨rfl, rfl, rfl, Nat.le_refl _, fun _ _ => rfl⟩

set_option maxHeartbeats 2000000 in
set_option maxRecDepth 100000 in
theorem eqWorld_any (v v' : Value) (D : Wd) (w : World) (h : Wds w v D) (h' : Wds w v' D) (hD : D.t ≤ 1048576) :
    Calls Tryz.prog 11 #[v, v'] w fun e w' => e = .returned (.bool true) ∧ Below w.heap.size w w' := by
  obtain ⟨vr, vm, vf, rfl, h1, h2, h3⟩ := h
  obtain ⟨vr', vm', vf', rfl, h1', h2', h3'⟩ := h'
  have hr1 : D.roots.length ≤ 1048576 := by have : D.roots.length ≤ Pl.total D.roots := by unfold Pl.total; omega
                                            unfold Wd.t at hD; omega
  have hm1 : D.mods.length ≤ 1048576 := by unfold Wd.t mdsT at hD; omega
  have hm2 : ∀ m ∈ D.mods, m.lines.length ≤ 1048576 := fun m hm => by
    have h1 : m.t ≤ (D.mods.map Md.t).sum := mem_le_sum _ _ (List.mem_map.2 ⟨m, hm, rfl⟩)
    have h2 : m.lines.length ≤ m.t := by unfold Md.t lnsT; omega
    unfold Wd.t mdsT at hD; omega
  have hf1 : D.faults.length ≤ 1048576 := by unfold Wd.t at hD; omega
  obtain ⟨a1, k1, rfl⟩ := h1.slice
  obtain ⟨a2, k2, rfl⟩ := h2.slice
  obtain ⟨a3, k3, rfl⟩ := h3.slice
  obtain ⟨a1', k1', rfl⟩ := h1'.slice
  obtain ⟨a2', k2', rfl⟩ := h2'.slice
  obtain ⟨a3', k3', rfl⟩ := h3'.slice
  obtain ⟨W, hW⟩ : ∃ W, W = (w.alloc (.cells #[.slice a1 D.roots.length k1, .slice a2 D.mods.length k2, .slice a3 D.faults.length k3] 32)).alloc (.cells #[.slice a1' D.roots.length k1', .slice a2' D.mods.length k2', .slice a3' D.faults.length k3'] 32) := ⟨_, rfl⟩
  have hWB : Below w.heap.size w W := by rw [hW]; exact below_alloc2 _ _
  have hWs : W.heap.size = w.heap.size + 1 + 1 := by rw [hW]; simp
  have p1 : W.cell? ⟨w.heap.size, 1, none⟩ = some (.slice a2 D.mods.length k2) := by rw [hW]; simp [go_sem]
  have p2 : W.cell? ⟨w.heap.size, 2, none⟩ = some (.slice a3 D.faults.length k3) := by rw [hW]; simp [go_sem]
  have q1 : W.cell? ⟨w.heap.size + 1, 1, none⟩ = some (.slice a2' D.mods.length k2') := by rw [hW]; simp [go_sem]
  have q2 : W.cell? ⟨w.heap.size + 1, 2, none⟩ = some (.slice a3' D.faults.length k3') := by rw [hW]; simp [go_sem]
  go_enter Tryz.func11, Tryz.ntmps11
  go_wp2_with fail
  rw [← hW]
  clear hW
  refine (eqS_any _ _ D.roots W (h1.below hWB (Nat.le_refl _)) (h1'.below hWB (Nat.le_refl _)) hr1).mono ?_
  rintro e w1 ⟨rfl, n1, rfl⟩
  have hB1 := below_drewN hWB n1
  replace p1 : (W.drewN n1).cell? _ = _ := p1
  replace p2 : (W.drewN n1).cell? _ = _ := p2
  replace q1 : (W.drewN n1).cell? _ = _ := q1
  replace q2 : (W.drewN n1).cell? _ = _ := q2
  obtain ⟨W1, hW1⟩ : ∃ W1, W1 = W.drewN n1 := ⟨_, rfl⟩
  have hW1s : W1.heap.size = w.heap.size + 1 + 1 := by rw [hW1]; exact hWs
  rw [← hW1] at p1 p2 q1 q2 hB1 ⊢
  clear hW1
  go_wp2_with fail
  refine (eqModuleS_any _ _ D.mods W1 (h2.below hB1 (Nat.le_refl _)) (h2'.below hB1 (Nat.le_refl _)) hm1 hm2).mono ?_
  rintro e w2 ⟨rfl, hb2⟩
  replace p2 := below_cell0 hb2 (by omega) p2
  replace q2 := below_cell0 hb2 (by omega) q2
  have hB2 := hB1.trans (hb2.mono (by omega))
  go_wp2_with fail
  refine (eqIntS_any _ _ D.faults w2 (h3.below hB2 (Nat.le_refl _)) (h3'.below hB2 (Nat.le_refl _)) hf1).mono ?_
  rintro e w3 ⟨rfl, hb3⟩
  have hB3 := hB2.trans (hb3.mono hB2.size)
  go_wp2
  go_ret
  exact ⟨rfl, hB3⟩

/-- A fault as a value. -/
def wrongV (r : Int × Int × Int) : Value := .agg #[.int .i64 r.1, .int .i64 r.2.1, .int .i64 r.2.2]

end Go.Proofs.YtimgafblpmjajabGreat
