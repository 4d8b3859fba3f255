
import Derived.Test.YtimgafblpmjajabGreatWtd

namespace Go.Proofs.YtimgafblpmjajabGreat

open Go.RowKit

set_option maxHeartbeats 1000000 in
set_option maxRecDepth 100000 in
theorem eqLine_any (l : Ln) (w : World) :
    Calls Tryz.prog 89 #[lnV l, lnV l] w fun e w' => e = .returned (.bool true) ∧ Below w.heap.size w w' := by
  unfold lnV
  obtain ⟨s, hs⟩ := strV_of l.name
  rw [hs]
  clear hs
  go_enter Tryz.func89, Tryz.ntmps89
  go_wp2
  go_ret
  exact ⟨rfl, below_alloc2 _ _⟩

set_option maxHeartbeats 2000000 in
set_option maxRecDepth 100000 in
theorem eqLineS_any (v v' : Value) (L : List Ln) (w : World) (h : Lns w v L) (h' : Lns w v' L) (hL : L.length ≤ 1048576) :
    Calls Tryz.prog 74 #[v, v'] w fun e w' => e = .returned (.bool true) ∧ Below w.heap.size w w' := by
  obtain ⟨a, cap, rfl, hcap, hmax, hc⟩ := h
  obtain ⟨a', cap', rfl, hcap', hmax', hc'⟩ := h'
  have HC : Hid (∀ k, (hk : k < L.length) → ∃ b o, a = some ⟨b, o, none⟩ ∧ b < w.heap.size ∧
    w.cell? ⟨b, o + k * 4, none⟩ = some (.int .i64 L[k].op) ∧ w.cell? ⟨b, o + k * 4 + 1, none⟩ = some (strV L[k].name) ∧ w.cell? ⟨b, o + k * 4 + 2, none⟩ = some (.int .i64 L[k].num) ∧ w.cell? ⟨b, o + k * 4 + 3, none⟩ = some (.int .i64 L[k].skip)) := hc
  have HC' : Hid (∀ k, (hk : k < L.length) → ∃ b o, a' = some ⟨b, o, none⟩ ∧ b < w.heap.size ∧
    w.cell? ⟨b, o + k * 4, none⟩ = some (.int .i64 L[k].op) ∧ w.cell? ⟨b, o + k * 4 + 1, none⟩ = some (strV L[k].name) ∧ w.cell? ⟨b, o + k * 4 + 2, none⟩ = some (.int .i64 L[k].num) ∧ w.cell? ⟨b, o + k * 4 + 3, none⟩ = some (.int .i64 L[k].skip)) := hc'
  clear hc hmax hc' hmax'
  go_enter Tryz.func74, Tryz.ntmps74
  go_wp2
  go_loopw [5] (fun i wr => ∃ k : Nat, k ≤ L.length ∧ i = .int .i64 k ∧ Below w.heap.size w wr) (fun i _ => L.length - (intOf i).toNat)
  case atStart => exact ⟨0, Nat.zero_le _, rfl, Below.refl _ _⟩
  case round =>
    obtain ⟨k, hk, rfl, hB⟩ := hrel
    by_cases hlt : k < L.length
    · obtain ⟨b, o, rfl, hb, h0, h1, h2, h3⟩ := HC.out k hlt
      obtain ⟨b', o', rfl, hb', h0', h1', h2', h3'⟩ := HC'.out k hlt
      have c0 := (hB.cell (p := ⟨b, o + k * 4, none⟩) hb).trans h0
      have c1 := (hB.cell (p := ⟨b, o + k * 4 + 1, none⟩) hb).trans h1
      have c2 := (hB.cell (p := ⟨b, o + k * 4 + 2, none⟩) hb).trans h2
      have c3 := (hB.cell (p := ⟨b, o + k * 4 + 3, none⟩) hb).trans h3
      have d0 := (hB.cell (p := ⟨b', o' + k * 4, none⟩) hb').trans h0'
      have d1 := (hB.cell (p := ⟨b', o' + k * 4 + 1, none⟩) hb').trans h1'
      have d2 := (hB.cell (p := ⟨b', o' + k * 4 + 2, none⟩) hb').trans h2'
      have d3 := (hB.cell (p := ⟨b', o' + k * 4 + 3, none⟩) hb').trans h3'
      have HEQ : Hid (∀ W, Calls Tryz.prog 89 #[lnV L[k], lnV L[k]] W fun e w' => e = .returned (.bool true) ∧ Below W.heap.size W w') := eqLine_any L[k]
      unfold lnV at HEQ
      clear h0 h1 h2 h3 h0' h1' h2' h3'
      go_wp2
      go_region_with (go_at_call 89; refine (HEQ.out _).mono ?_; rintro e w1 ⟨rfl, hb1⟩)
      all_goals
        have hb2 : Below w.heap.size w w1 := hB.drew.trans (hb1.mono hB.size)
        go_wp2
        go_roundw
        case rel => exact ⟨k + 1, by omega, by go_num, hb2⟩
        case measure => simp [intOf]; omega
    · go_wp2
      go_ret
      exact ⟨rfl, hB⟩

end Go.Proofs.YtimgafblpmjajabGreat
