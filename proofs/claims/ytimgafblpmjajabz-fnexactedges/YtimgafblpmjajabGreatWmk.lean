
import Derived.Test.YtimgafblpmjajabGreatWow

import Derived.Test.YtimgafblpmjajabGreatMark

namespace Go.Proofs.YtimgafblpmjajabGreat

open Go.RowKit

set_option maxHeartbeats 1000000 in
set_option maxRecDepth 100000 in
theorem markText_big (K : Nat) (w : World) (h0 : 0 < K) (hK : K ≤ 67108864) :
    Calls Tryz.prog 42 #[.int .i64 K] w fun e w' => e = .returned (strV (mkT K)) ∧ Below w.heap.size w w' := by
  obtain ⟨R, hR⟩ : ∃ R, R = mkT K := ⟨_, rfl⟩
  rw [← hR]
  have HR : Hid (R = 109 :: digs K K []) := hR
  clear hR
  go_enter Tryz.func42, Tryz.ntmps42
  go_wp2
  go_loopw [0, 3] (fun kv ov wr => ∃ (k : Nat) (b : ByteArray), k ≤ K ∧ kv = .int .i64 k ∧ ov = .string b ∧ Hid (digs k k b.data.toList = digs K K []) ∧ b.size ≤ K - k ∧ Below w.heap.size w wr) (fun kv _ _ => (intOf kv).toNat)
  case atStart => exact ⟨K, ⟨#[]⟩, Nat.le_refl _, rfl, rfl, rfl, by simp [ByteArray.size], Below.refl _ _⟩
  case round =>
    obtain ⟨k, b, hk, rfl, rfl, hd, hbs, hB⟩ := hrel
    have hsz := hB.size
    by_cases hpos : 0 < k
    · have hcv := digit_conv k wr
      have hb1 : (⟨#[UInt8.ofNat (48 + k % 10)]⟩ : ByteArray).size = 1 := rfl
      obtain ⟨dg, hdg⟩ : ∃ dg : ByteArray, dg = ⟨#[UInt8.ofNat (48 + k % 10)]⟩ := ⟨_, rfl⟩
      rw [← hdg] at hcv hb1
      have HD : Hid (digs (k / 10) (k / 10) (dg ++ b).data.toList = digs K K []) := by
        unfold Hid
        rw [← hd.out, digs_step k _ hpos, ByteArray.data_append, Array.toList_append, hdg]; rfl
      have hds : (dg ++ b).size ≤ K - k / 10 := by rw [ByteArray.size_append, hb1]; omega
      have hB2 : Below w.heap.size w (wr.alloc (.cells #[.int .u8 (48 + (k : Int) % 10)] 5)) := hB.alloc hsz _
      clear hdg
      go_wp2
      go_roundw
      case rel => exact ⟨k / 10, dg ++ b, by omega, by go_num, rfl, HD, hds, hB2⟩
      case measure => simp [intOf]; omega
    · have hk0 : k = 0 := by omega
      subst hk0
      have HE : Hid (strV R = .string (⟨#[109]⟩ ++ b)) := by
        unfold Hid
        rw [← strV_data, HR.out, ← hd.out, digs_zero, ByteArray.data_append, Array.toList_append]; rfl
      go_wp2
      go_ret
      rw [HE.out]
      exact ⟨rfl, hB⟩

theorem row_form {w : World} {base : Nat} {e : TypeId} {size n : Nat} {v : Value} {xs : List Value} (h : w.ownsRow base e size v n xs) : ∃ a cap, v = .slice a n cap ∧ n ≤ cap ∧ (0 < n → ∃ g, a = some ⟨g, 0, none⟩) := by
  obtain ⟨_, ⟨rfl, hn0⟩ | ⟨g, cap, cur, rfl, hg, hh, hcap, _⟩⟩ := h
  · exact ⟨none, 0, by rw [hn0], by omega, fun h => by omega⟩
  · exact ⟨_, cap, rfl, hcap, fun _ => ⟨g, rfl⟩⟩
theorem row_cell {w : World} {base : Nat} {e : TypeId} {size n cap g : Nat} {xs : List Value} (h : w.ownsRow base e size (.slice (some ⟨g, 0, none⟩) n cap) n xs) (i : Nat) (hi : i < n * size) : ∃ u, w.cell? ⟨g, i, none⟩ = some u := by
  have := h.1
  rw [h.cellAt i (by omega)]; exact ⟨_, List.getElem?_eq_getElem (by omega)⟩

set_option maxHeartbeats 1000000 in
set_option maxRecDepth 100000 in
theorem markS_any (base : Nat) (v : Value) (n : Nat) (xs : List Value) (K : Nat) (w : World) (h : w.ownsRow base 9 1 v n xs) (hn : n ≤ 1048576) (hK : 0 < K) (hK2 : K ≤ 33554432) :
    Calls Tryz.prog 18 #[v, .int .i64 K] w fun e w' => e = .returned (.int .i64 ((K + n : Nat) : Int)) ∧ (∃ ys, w'.ownsRow base 9 1 v n ys) ∧ w.grownBy w' v.ownBlock := by
  obtain ⟨a, cap, rfl, hcap, ha⟩ := row_form h
  go_enter Tryz.func18, Tryz.ntmps18
  go_wp2
  go_loopw [1, 5] (fun kv i wr => ∃ (j : Nat) (X : List Value), j ≤ n ∧ i = .int .i64 j ∧ kv = .int .i64 ((K + j : Nat) : Int) ∧ wr.ownsRow base 9 1 (.slice a n cap) n X ∧ w.grownBy wr (Value.slice a n cap).ownBlock) (fun _ i _ => n - (intOf i).toNat)
  case atStart => exact ⟨0, xs, Nat.zero_le _, rfl, rfl, h, World.grownBy.refl _ _⟩
  case round =>
    obtain ⟨j, X, hj, rfl, rfl, hown, hgr⟩ := hrel
    by_cases hlt : j < n
    · obtain ⟨g, rfl⟩ := ha (by omega)
      have hmt := markText_big (K + j) wr (by omega) (by omega)
      obtain ⟨q, hq⟩ : ∃ q, strV (mkT (K + j)) = .string q := ⟨_, rfl⟩
      rw [hq] at hmt
      clear hq
      have hgl := (hown.lt g rfl).2
      go_wp2_with (go_at_call 42; refine hmt.mono ?_; rintro e w1 ⟨rfl, hb⟩; have hown1 := own_below hown hb (Nat.le_refl _); have hf1 := hown1.frozenAt j; obtain ⟨u, hcu⟩ := row_cell hown1 j (by omega))
      have hst := hown1.stored j (.string q)
      have hg2 := grown_trans (grown_trans hgr (grown_of_below hb _)) hst.2
      go_roundw
      case rel => exact ⟨j + 1, _, by omega, by go_num, by go_num, hst.1, hg2⟩
      case measure => simp [intOf]; omega
    · have hjn : j = n := by omega
      subst hjn
      go_wp2
      go_ret
      exact ⟨rfl, ⟨_, hown⟩, hgr⟩

set_option maxHeartbeats 1000000 in
set_option maxRecDepth 100000 in
theorem markI_any (base : Nat) (v : Value) (n : Nat) (xs : List Value) (K : Nat) (w : World) (h : w.ownsRow base 3 1 v n xs) (hn : n ≤ 1048576) (hK2 : K ≤ 33554432) :
    Calls Tryz.prog 35 #[v, .int .i64 K] w fun e w' => e = .returned (.int .i64 ((K + n : Nat) : Int)) ∧ w.grownBy w' v.ownBlock := by
  obtain ⟨a, cap, rfl, hcap, ha⟩ := row_form h
  go_enter Tryz.func35, Tryz.ntmps35
  go_wp2
  go_loopw [1, 5] (fun kv i wr => ∃ (j : Nat) (X : List Value), j ≤ n ∧ i = .int .i64 j ∧ kv = .int .i64 ((K + j : Nat) : Int) ∧ wr.ownsRow base 3 1 (.slice a n cap) n X ∧ w.grownBy wr (Value.slice a n cap).ownBlock) (fun _ i _ => n - (intOf i).toNat)
  case atStart => exact ⟨0, xs, Nat.zero_le _, rfl, rfl, h, World.grownBy.refl _ _⟩
  case round =>
    obtain ⟨j, X, hj, rfl, rfl, hown, hgr⟩ := hrel
    by_cases hlt : j < n
    · obtain ⟨g, rfl⟩ := ha (by omega)
      have hf1 := hown.frozenAt j
      obtain ⟨u, hcu⟩ := row_cell hown j (by omega)
      have hst := hown.stored j (.int .i64 ((K + j : Nat) : Int))
      have hg2 := grown_trans hgr hst.2
      go_wp2
      go_roundw
      case rel => exact ⟨j + 1, _, by omega, by go_num, by go_num, hst.1, hg2⟩
      case measure => simp [intOf]; omega
    · have hjn : j = n := by omega
      subst hjn
      go_wp2
      go_ret
      exact ⟨rfl, hgr⟩

set_option maxHeartbeats 2000000 in
set_option maxRecDepth 100000 in
theorem markL_any (base : Nat) (v : Value) (n : Nat) (xs : List Value) (K : Nat) (w : World) (h : w.ownsRow base 51 4 v n xs) (hn : n ≤ 1048576) (hK : 0 < K) (hK2 : K ≤ 33554432) :
    Calls Tryz.prog 56 #[v, .int .i64 K] w fun e w' => e = .returned (.int .i64 ((K + 4 * n : Nat) : Int)) ∧ (∃ ys, w'.ownsRow base 51 4 v n ys) ∧ w.grownBy w' v.ownBlock := by
  obtain ⟨a, cap, rfl, hcap, ha⟩ := row_form h
  go_enter Tryz.func56, Tryz.ntmps56
  go_wp2
  go_loopw [1, 5] (fun kv i wr => ∃ (j : Nat) (X : List Value), j ≤ n ∧ i = .int .i64 j ∧ kv = .int .i64 ((K + 4 * j : Nat) : Int) ∧ wr.ownsRow base 51 4 (.slice a n cap) n X ∧ w.grownBy wr (Value.slice a n cap).ownBlock) (fun _ i _ => n - (intOf i).toNat)
  case atStart => exact ⟨0, xs, Nat.zero_le _, rfl, rfl, h, World.grownBy.refl _ _⟩
  case round =>
    obtain ⟨j, X, hj, rfl, rfl, hown, hgr⟩ := hrel
    by_cases hlt : j < n
    · obtain ⟨g, rfl⟩ := ha (by omega)
      obtain ⟨kk, hkk⟩ : ∃ kk, kk = K + 4 * j := ⟨_, rfl⟩
      rw [← hkk]
      have hkb : kk ≤ 40000000 := by omega
      have hkp : 0 < kk := by omega
      have HKK : Hid (kk = K + 4 * j) := hkk
      clear hkk
      have hgl := (hown.lt g rfl).2
      have hf0 := hown.frozenAt (j * 4)
      obtain ⟨u0, hc0⟩ := row_cell hown (j * 4) (by omega)
      have hst0 := hown.stored (j * 4) (.int .i64 (kk : Int))
      have hmt := markText_big (kk + 1) (wr.setCell ⟨g, j * 4, none⟩ (.int .i64 (kk : Int))) (by omega) (by omega)
      obtain ⟨q, hq⟩ : ∃ q, strV (mkT (kk + 1)) = .string q := ⟨_, rfl⟩
      rw [hq] at hmt
      push_cast at hmt
      clear hq
      go_wp2_with fail
      refine hmt.mono ?_
      rintro e w1 ⟨rfl, hb⟩
      have hown1 := own_below hst0.1 hb (Nat.le_refl _)
      have hg1 := grown_trans (grown_trans hgr hst0.2) (grown_of_below hb _)
      obtain ⟨u1, hc1⟩ := row_cell hown1 (j * 4 + 1) (by omega)
      obtain ⟨u2, hc2⟩ := row_cell hown1 (j * 4 + 2) (by omega)
      obtain ⟨u3, hc3⟩ := row_cell hown1 (j * 4 + 3) (by omega)
      have hf1 := hown1.frozenAt (j * 4 + 1)
      have hf2 := hown1.frozenAt (j * 4 + 2)
      have hf3 := hown1.frozenAt (j * 4 + 3)
      clear hc0 hf0 hst0 hgr hmt hb
      go_wp2
      have s1 := hown1.stored (j * 4 + 1) (.string q)
      have s2 := s1.1.stored (j * 4 + 2) (.int .i64 ((kk : Int) + 1 + 1))
      have s3 := s2.1.stored (j * 4 + 3) (.int .i64 ((kk : Int) + 1 + 1 + 1))
      go_roundw
      case rel => exact ⟨j + 1, _, by omega, by go_num, by rw [show K + 4 * (j + 1) = kk + 4 by rw [HKK.out]; omega]; go_num, s3.1, grown_trans (grown_trans (grown_trans hg1 s1.2) s2.2) s3.2⟩
      case measure => simp [intOf]; omega
    · have hjn : j = n := by omega
      subst hjn
      go_wp2
      go_ret
      exact ⟨rfl, ⟨_, hown⟩, hgr⟩
end Go.Proofs.YtimgafblpmjajabGreat
