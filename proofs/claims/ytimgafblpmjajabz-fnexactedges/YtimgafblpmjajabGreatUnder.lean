
import Derived.Test.YtimgafblpmjajabGreatNear

namespace Go.Proofs.YtimgafblpmjajabGreat

open Go.RowKit

theorem Tryz.info49 : (Tryz.prog.info? 106).map (fun i => (i.zero, i.size, i.bytes)) = some (some (.agg #[.string ⟨#[]⟩]), 1, 16) := by kernel_rfl

theorem row_shape49 {w : World} {base : Nat} {v : Value} {xs : List (List UInt8)} (h : w.ownsRow base 106 1 v xs.length (xs.map strV)) :
    ∃ a cap, v = .slice a xs.length cap ∧ xs.length ≤ cap ∧ cap ≤ maxLen ∧ ∀ k, (hk : k < xs.length) → ∃ g, a = some ⟨g, 0, none⟩ ∧ base ≤ g ∧ g < w.heap.size ∧ w.cell? ⟨g, k, none⟩ = some (strV xs[k]) := by
  have h0 := h
  obtain ⟨_, ⟨rfl, hn⟩ | ⟨g, cap, cur, rfl, hg, hh, hcap, hmax, _⟩⟩ := h
  · exact ⟨none, 0, by rw [hn], by omega, by decide, fun k hk => by omega⟩
  · refine ⟨_, cap, rfl, hcap, hmax, fun k hk => ⟨g, rfl, hg, (Array.getElem?_eq_some_iff.1 hh).1, ?_⟩⟩
    rw [h0.cellAt k (by omega)]
    simp [hk]

/-- Rows of two types lie apart. -/
theorem rows_apart {w : World} {b1 b2 : Nat} {e1 e2 : TypeId} {s1 s2 n1 n2 : Nat} {v1 v2 : Value} {x1 x2 : List Value} (he : e1 ≠ e2) (h1 : w.ownsRow b1 e1 s1 v1 n1 x1) (h2 : w.ownsRow b2 e2 s2 v2 n2 x2) : Apart v1 v2 := by
  rcases h2.2 with ⟨rfl, _⟩ | ⟨g, cap, cur, rfl, _, hg, _⟩
  · exact .inl rfl
  · right
    rcases h1.2 with ⟨rfl, _⟩ | ⟨g', cap', cur', rfl, _, hg', _⟩
    · simp [Value.ownBlock]
    · intro e
      have e' : g = g' := by simpa [Value.ownBlock] using e
      subst e'
      rw [hg] at hg'
      simp at hg'
      exact he hg'.2.symm

set_option maxHeartbeats 1000000 in
set_option maxRecDepth 100000 in
theorem index_any (base : Nat) (v : Value) (M : List (List UInt8)) (t : ByteArray) (w : World) (hrow : w.ownsRow base 106 1 v M.length (M.map strV)) (hM : M.length ≤ 1048576) :
    Calls Tryz.prog 106 #[v, .agg #[.string t]] w fun e w' => ∃ i : Int, e = .returned (.int .i64 i) ∧ (0 ≤ i ↔ t.data.toList ∈ M) ∧ Below w.heap.size w w' := by
  obtain ⟨a, cap, rfl, hcap, hmax, hcell⟩ := row_shape49 hrow
  have HC : Hid (∀ k, (hk : k < M.length) → ∃ g, a = some ⟨g, 0, none⟩ ∧ base ≤ g ∧ g < w.heap.size ∧ w.cell? ⟨g, k, none⟩ = some (strV M[k])) := hcell
  clear hcell hmax hrow
  go_enter Tryz.func106, Tryz.ntmps106
  go_wp2
  go_loopw [8] (fun i wr => ∃ k : Nat, k ≤ M.length ∧ i = .int .i64 k ∧ Hid (∀ j, (hj : j < M.length) → j < k → M[j] ≠ t.data.toList) ∧ ∃ n, wr = (w.alloc (.cells #[.string t] 106)).drewN n) (fun i _ => M.length - (intOf i).toNat)
  case atStart => exact ⟨0, Nat.zero_le _, rfl, fun j _ h => by omega, 0, rfl⟩
  case round =>
    obtain ⟨k, hk, rfl, hno, n, rfl⟩ := hrel
    have hB : Below w.heap.size w ((w.alloc (.cells #[.string t] 106)).drewN n) := below_drewN ((Below.refl _ w).alloc (Nat.le_refl _) _) n
    by_cases hlt : k < M.length
    · obtain ⟨g, rfl, _, hg, hc⟩ := HC.out k hlt
      obtain ⟨q, hq⟩ : ∃ q : ByteArray, q = ⟨M[k].toArray⟩ := ⟨_, rfl⟩
      have hcq : w.cell? ⟨g, k, none⟩ = some (.string q) := by rw [hc, hq]; rfl
      have hqd : q.data.toList = M[k] := by rw [hq]
      by_cases heq : t = q
      · subst heq
        have HE : Hid (t.data.toList ∈ M) := by unfold Hid; rw [hqd]; exact List.getElem_mem hlt
        clear hc hq hqd
        go_wp2
        go_quiet (fail)
        go_wp2
        go_ret
        exact ⟨k, rfl, ⟨fun _ => HE.out, fun _ => by omega⟩, below_drewN hB nq⟩
      · have hne : (t.toList == q.toList) = false := by
          rw [beq_eq_false_iff_ne, Go.ByteArray.toList_eq, Go.ByteArray.toList_eq]
          exact fun h => heq (bytes_eq h)
        have HN : Hid (∀ j, (hj : j < M.length) → j < k + 1 → M[j] ≠ t.data.toList) := fun j hj h => by
          by_cases hjk : j = k
          · subst hjk; rw [← hqd]; intro h2; exact heq (bytes_eq h2.symm)
          · exact hno.out j hj (by omega)
        clear hc hq hqd
        go_wp2
        go_quiet (fail)
        go_wp2
        go_roundw
        case rel => exact ⟨k + 1, by omega, by go_num, HN, n + nq, by simp [World.drewN]⟩
        case measure => simp [intOf]; omega
    · have HN : Hid (t.data.toList ∉ M) := fun h => by
        obtain ⟨j, hj, e⟩ := List.mem_iff_getElem.1 h
        exact hno.out j hj (by omega) e
      go_wp2
      go_ret
      exact ⟨-1, rfl, ⟨fun h => by omega, fun h => absurd h HN.out⟩, hB⟩

end Go.Proofs.YtimgafblpmjajabGreat
