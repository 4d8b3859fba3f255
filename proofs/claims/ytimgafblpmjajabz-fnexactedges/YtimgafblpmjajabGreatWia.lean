
import Derived.Test.YtimgafblpmjajabGreatWos

import Derived.Test.YtimgafblpmjajabGreatImpl

namespace Go.Proofs.YtimgafblpmjajabGreat

open Go.RowKit

/-- What asWritten answers. -/
def writtenV (n : List UInt8) : Value := if isN n then .tuple #[.agg #[strV n], .bool true] else .tuple #[.agg #[strV []], .bool false]

set_option maxRecDepth 100000 in
set_option maxHeartbeats 2000000 in
theorem asWritten_any (s : ByteArray) (w : World) :
    Calls Tryz.prog 73 #[.string s] w fun e w' => e = .returned (writtenV s.data.toList) ∧ Below w.heap.size w w' := by
  obtain ⟨c, x, hn⟩ : ∃ c x, Pl.nm [] s.data.toList = (c, x) := ⟨_, _, rfl⟩
  have HN : Hid (Pl.nm [] s.data.toList = (c, x)) := hn
  have his : isN s.data.toList = (decide (c = 0) && decide (x = s.data.toList)) := by rw [isN, hn]
  obtain ⟨t, ht⟩ : ∃ t : ByteArray, t.data.toList = x := ⟨⟨x.toArray⟩, by simp⟩
  have htv : strV x = .string t := by rw [← ht, strV_data]
  obtain ⟨r, hr⟩ : ∃ r, r = writtenV s.data.toList := ⟨_, rfl⟩
  rw [← hr]
  have HR : Hid (r = writtenV s.data.toList) := hr
  have HIS : Hid (isN s.data.toList = (decide (c = 0) && decide (x = s.data.toList))) := his
  have HTX : Hid (t.data.toList = x) := ht
  have HTV : Hid (strV x = .string t) := htv
  clear hn his hr ht htv
  go_enter Tryz.func73, Tryz.ntmps73
  go_wp2_with fail
  refine (walk_any (w.heap.size + 1) (.slice none 0 0) [] s _ (World.ownsRow_nil _ _ _ _) (by simp) (by decide)).mono ?_
  rw [HN.out]
  unfold formV
  rw [HTV.out]
  rintro e w1 ⟨rfl, hb⟩
  have e0 : w1.cell? ⟨w.heap.size, 0, none⟩ = some (.string ⟨#[]⟩) := below_cell0 hb (by omega) (by simp [go_sem])
  have f0 : w1.frozen? ⟨w.heap.size, 0, none⟩ = false := below_frz hb (by omega) (by simp [go_sem])
  have hz : w.heap.size < w1.heap.size := by have := hb.size; simp at this; omega
  have hB : Below w.heap.size w w1 := ((Below.refl _ w).alloc (Nat.le_refl _) _).trans (hb.mono (by omega))
  clear hb
  by_cases hc : c = 0
  · subst hc
    by_cases hx : x = s.data.toList
    · obtain rfl : t = s := str_eq (HTX.out.trans hx) rfl
      have hrv : r = .tuple #[.agg #[.string t], .bool true] := by rw [HR.out, writtenV, HIS.out, if_pos (by simp [hx]), strV_data]
      subst hrv
      clear hx
      go_wp2
      exact bodyPost_ret (v := .tuple #[.agg #[.string t], .bool true]) (by simp [results, Tryz.results73, go_sem, *]) rfl ⟨rfl, (hB.setCell (p := ⟨w.heap.size, 0, none⟩) (Nat.le_refl _) _).alloc (by simp [World.setCell]; omega) _⟩
    · have hrv : r = .tuple #[.agg #[.string ⟨#[]⟩], .bool false] := by rw [HR.out, writtenV, HIS.out, if_neg (by simp [hx])]; rfl
      subst hrv
      have hne : (t.toList == s.toList) = false := by rw [str_beq HTX.out rfl]; simpa using hx
      clear hx
      go_wp2
      exact bodyPost_ret (v := .tuple #[.agg #[.string ⟨#[]⟩], .bool false]) (by simp [results, Tryz.results73, go_sem, *]) rfl ⟨rfl, (hB.setCell (p := ⟨w.heap.size, 0, none⟩) (Nat.le_refl _) _).alloc (by simp [World.setCell]; omega) _⟩
  · have hrv : r = .tuple #[.agg #[.string ⟨#[]⟩], .bool false] := by rw [HR.out, writtenV, HIS.out, if_neg (by simp [hc])]; rfl
    subst hrv
    have hcb : (c == 0) = false := by simpa using hc
    go_wp2
    exact bodyPost_ret (v := .tuple #[.agg #[.string ⟨#[]⟩], .bool false]) (by simp [results, Tryz.results73, go_sem, *]) rfl ⟨rfl, (hB.setCell (p := ⟨w.heap.size, 0, none⟩) (Nat.le_refl _) _).alloc (by simp [World.setCell]; omega) _⟩

theorem writtenV_shape (n : List UInt8) : ∃ t : ByteArray, writtenV n = .tuple #[.agg #[.string t], .bool (isN n)] := by
  unfold writtenV
  cases isN n
  · exact ⟨_, rfl⟩
  · exact ⟨_, rfl⟩

set_option maxRecDepth 100000 in
set_option maxHeartbeats 2000000 in
theorem isOddRoot_any (s : ByteArray) (w : World) :
    Calls Tryz.prog 70 #[.string s] w fun e w' => e = .returned (.bool (oddRoot s.data.toList)) ∧ Below w.heap.size w w' := by
  obtain ⟨t, hwv⟩ := writtenV_shape s.data.toList
  have HW : Hid (writtenV s.data.toList = .tuple #[.agg #[.string t], .bool (isN s.data.toList)]) := hwv
  have HO : Hid (oddRoot s.data.toList = (!s.toList.isEmpty && !isN s.data.toList)) := by
    unfold Hid oddRoot; rw [str_emp rfl]; simp
  rw [HO.out]
  obtain ⟨q, hq⟩ : ∃ q, q = isN s.data.toList := ⟨_, rfl⟩
  rw [← hq] at HW ⊢
  clear hwv hq
  go_enter Tryz.func70, Tryz.ntmps70
  go_wp2_with fail
  refine (asWritten_any s _).mono ?_
  rw [HW.out]
  rintro e w1 ⟨rfl, hb⟩
  go_wp2
  all_goals go_ret
  all_goals refine ⟨ret_bool ?_, hb.alloc hb.size _⟩
  all_goals first | rfl | (simp_all; done)

set_option maxRecDepth 100000 in
set_option maxHeartbeats 2000000 in
theorem indexFunc_any (v : Value) (L : List (List UInt8)) (w : World) (h : Strs w v L) (hL : L.length ≤ 1048576) :
    Calls Tryz.prog 87 #[v, .func (.func 70) #[] #[]] w fun e w' => ∃ i : Int, e = .returned (.int .i64 i) ∧ (decide (0 ≤ i) = L.any oddRoot) ∧ Below w.heap.size w w' := by
  obtain ⟨a, cap, rfl, hcap, hmax, hc⟩ := h
  have HC : Hid (∀ k, (hk : k < L.length) → ∃ b o, a = some ⟨b, o, none⟩ ∧ b < w.heap.size ∧ w.cell? ⟨b, o + k, none⟩ = some (strV L[k])) := hc
  clear hc hmax
  go_enter Tryz.func87, Tryz.ntmps87
  go_wp2
  go_loopw [8] (fun i wr => ∃ k : Nat, k ≤ L.length ∧ i = .int .i64 k ∧ (∀ j (hj : j < L.length), j < k → oddRoot L[j] = false) ∧ Below w.heap.size w wr) (fun i _ => L.length - (intOf i).toNat)
  case atStart => exact ⟨0, Nat.zero_le _, rfl, fun j _ h => absurd h (by omega), Below.refl _ _⟩
  case round =>
    obtain ⟨k, hk, rfl, hodd, hB⟩ := hrel
    have HODD : Hid (∀ j (hj : j < L.length), j < k → oddRoot L[j] = false) := hodd
    clear hodd
    by_cases hlt : k < L.length
    · obtain ⟨b, o, rfl, hb, h0⟩ := HC.out k hlt
      have c0 := (hB.cell (p := ⟨b, o + k, none⟩) hb).trans h0
      obtain ⟨s, hs⟩ : ∃ s : ByteArray, s.data.toList = L[k] := ⟨⟨L[k].toArray⟩, by simp⟩
      have hsv : strV L[k] = .string s := by rw [← hs, strV_data]
      rw [hsv] at c0
      clear h0 hsv
      go_wp2_with fail
      refine (isOddRoot_any s _).mono ?_
      rw [hs]
      obtain ⟨q, hq⟩ : ∃ q, q = oddRoot L[k] := ⟨_, rfl⟩
      rw [← hq]
      have HQ : Hid (q = oddRoot L[k]) := hq
      clear hq hs
      rintro e w1 ⟨rfl, hb1⟩
      have hB1 := hB.trans (hb1.mono hB.size)
      cases q with
      | true =>
        go_wp2
        go_ret
        exact ⟨k, rfl, by rw [show decide ((0 : Int) ≤ k) = true by simp]; exact (List.any_eq_true.2 ⟨_, List.getElem_mem hlt, HQ.out.symm⟩).symm, hB1⟩
      | false =>
        go_wp2
        go_roundw
        case rel => exact ⟨k + 1, by omega, by go_num, fun j hj hjk => by
          by_cases hjk' : j = k
          · subst hjk'; exact HQ.out.symm
          · exact HODD.out j hj (by omega), hB1⟩
        case measure => simp [intOf]; omega
    · have hroot : L.any oddRoot = false := by
        rw [List.any_eq_false]
        intro r hr
        obtain ⟨j, hj, rfl⟩ := List.getElem_of_mem hr
        rw [HODD.out j hj (by omega)]; decide
      have HROOT : Hid (L.any oddRoot = false) := hroot
      clear hroot
      go_wp2
      go_ret
      exact ⟨-1, rfl, by rw [HROOT.out]; decide, hB⟩

set_option maxRecDepth 100000 in
set_option maxHeartbeats 2000000 in
theorem containsFunc_any (v : Value) (L : List (List UInt8)) (w : World) (h : Strs w v L) (hL : L.length ≤ 1048576) :
    Calls Tryz.prog 69 #[v, .func (.func 70) #[] #[]] w fun e w' => e = .returned (.bool (L.any oddRoot)) ∧ Below w.heap.size w w' := by
  obtain ⟨a, cap, hv⟩ := h.slice
  subst hv
  go_enter Tryz.func69, Tryz.ntmps69
  go_wp2_with fail
  refine (indexFunc_any _ L w h hL).mono ?_
  rintro e w1 ⟨i, rfl, hi, hb⟩
  have HI : Hid (decide (0 ≤ i) = L.any oddRoot) := hi
  clear hi
  go_wp2
  all_goals go_ret
  all_goals exact ⟨ret_bool HI.out, hb⟩

set_option maxRecDepth 100000 in
set_option maxHeartbeats 2000000 in
theorem areReadings_any (v : Value) (L : List Int) (w : World) (h : Nums w v L) (hL : L.length ≤ 1048576) :
    Calls Tryz.prog 71 #[v] w fun e w' => e = .returned (.bool (asc (-1) L)) ∧ w' = w := by
  obtain ⟨a, cap, rfl, hcap, hmax, hc⟩ := h
  have HC : Hid (∀ k, (hk : k < L.length) → ∃ b o, a = some ⟨b, o, none⟩ ∧ b < w.heap.size ∧ w.cell? ⟨b, o + k, none⟩ = some (.int .i64 L[k])) := hc
  clear hc hmax
  go_enter Tryz.func71, Tryz.ntmps71
  go_wp2
  go_loop [3, 8] (fun l i => ∃ (k : Nat) (lst : Int), k ≤ L.length ∧ i = .int .i64 k ∧ l = .int .i64 (lst + 1) ∧ lst = (L.take k).getLastD (-1) ∧ asc (-1) (L.take k) = true ∧ -1 ≤ lst ∧ lst < 400) (fun _ i => L.length - (intOf i).toNat)
  case atStart => exact ⟨0, -1, Nat.zero_le _, rfl, rfl, rfl, rfl, by decide, by decide⟩
  case round =>
    obtain ⟨k, lst, hk, rfl, rfl, hlst, hasc, hlo, hhi⟩ := hrel
    by_cases hlt : k < L.length
    · obtain ⟨b, o, rfl, hb, c0⟩ := HC.out k hlt
      have hstep := asc_take L k hlt hasc
      rw [← hlst] at hstep
      have hlast := take_snoc_last L k hlt (-1)
      obtain ⟨f, hf⟩ : ∃ f, f = L[k] := ⟨_, rfl⟩
      rw [← hf] at c0 hstep hlast
      clear hf hlst hasc
      by_cases hx1 : f ≤ lst
      · have hA : asc (-1) L = false := asc_of_take _ (k + 1) (by rw [hstep, if_pos (.inl hx1)])
        have HA : Hid (asc (-1) L = false) := hA
        clear hA hstep hlast
        go_wp2
        go_ret
        exact ⟨ret_bool HA.out.symm, rfl⟩
      · by_cases hx2 : 400 ≤ f
        · have hA : asc (-1) L = false := asc_of_take _ (k + 1) (by rw [hstep, if_pos (.inr hx2)])
          have HA : Hid (asc (-1) L = false) := hA
          clear hA hstep hlast
          go_wp2
          go_ret
          exact ⟨ret_bool HA.out.symm, rfl⟩
        · rw [if_neg (by omega)] at hstep
          have HST : Hid (asc (-1) (L.take (k + 1)) = true ∧ (L.take (k + 1)).getLastD (-1) = f) := ⟨hstep, hlast⟩
          clear hstep hlast
          go_wp2
          go_round
          case rel => exact ⟨k + 1, f, by omega, by go_num, by go_num, HST.out.2.symm, HST.out.1, by omega, by omega⟩
          case measure => simp [intOf]; omega
    · have hA : asc (-1) L = true := by rwa [List.take_of_length_le (by omega)] at hasc
      have HA : Hid (asc (-1) L = true) := hA
      clear hA hasc hlst
      go_wp2
      go_ret
      exact ⟨ret_bool HA.out.symm, rfl⟩

set_option maxRecDepth 100000 in
set_option maxHeartbeats 2000000 in
theorem hasTooMany_any (a1 a2 a3 : Option Addr) (n1 n2 n3 k1 k2 k3 : Nat) (w : World) (h1 : n1 ≤ 1048576) (h2 : n2 ≤ 1048576) (h3 : n3 ≤ 1048576) :
    Calls Tryz.prog 68 #[.agg #[.slice a1 n1 k1, .slice a2 n2 k2, .slice a3 n3 k3]] w fun e w' => e = .returned (.bool (decide (60 < n2 ∨ 8 < n1 ∨ 400 < n3))) ∧ Below w.heap.size w w' := by
  go_enter Tryz.func68, Tryz.ntmps68
  go_wp2
  all_goals go_ret
  all_goals refine ⟨ret_bool ?_, (Below.refl _ _).alloc (Nat.le_refl _) _⟩
  all_goals (rw [Bool.eq_iff_iff]; simp_all <;> omega)

end Go.Proofs.YtimgafblpmjajabGreat
