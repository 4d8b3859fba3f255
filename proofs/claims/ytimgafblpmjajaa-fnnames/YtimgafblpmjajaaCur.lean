import Derived.Test.YtimgafblpmjajaaMark
import Derived.Deep.LoopGhost
import Derived.Laws.Bits64b
namespace Go.Proofs.Ytimgafblpmjajaa
open Go.RowKit

/-- The bytes that choices are read from. -/
def Bytes (w : World) (C : Nat) (a : Option Addr) (len : Nat) : Prop :=
  ∀ i, i < len → ∃ b o z, a = some ⟨b, o, none⟩ ∧ b < C ∧ 0 ≤ z ∧ z ≤ 255 ∧ w.cell? ⟨b, o + i, none⟩ = some (.int .u8 z)
/-- The reader of choices lies in block C; it has read at most n. -/
def Cur (w : World) (C n : Nat) : Prop :=
  ∃ a len cap k sd, w.heap[C]? = some (.cells #[.slice a len cap, .int .i64 ((k : Nat) : Int), .int .u64 sd] 43 (0, 0)) ∧ k ≤ n ∧ len ≤ cap ∧ len ≤ 1048576 ∧ Bytes w C a len

theorem Bytes.kept {w w' : World} {C : Nat} {a : Option Addr} {len : Nat} (h : Bytes w C a len) (hg : w.grownBy w' (some C)) : Bytes w' C a len := fun i hi => by
  obtain ⟨b, o, z, ha, hlt, h0, h255, hc⟩ := h i hi
  refine ⟨b, o, z, ha, hlt, h0, h255, ?_⟩
  have hne : b ≠ C := by omega
  exact hg.cell (a := ⟨b, o + i, none⟩) hc (fun e => hne (by simpa using e))

theorem cells3 {w : World} {C : Nat} {u0 u1 u2 : Value} {t : TypeId} (h : w.heap[C]? = some (.cells #[u0, u1, u2] t (0, 0))) :
    w.cell? ⟨C, 0, none⟩ = some u0 ∧ w.cell? ⟨C, 1, none⟩ = some u1 ∧ w.cell? ⟨C, 2, none⟩ = some u2 ∧ w.frozen? ⟨C, 1, none⟩ = false ∧ w.frozen? ⟨C, 2, none⟩ = false := by
  simp [World.cell?, World.frozen?, h]

theorem set3_1 {w : World} {C : Nat} {u0 u1 u2 u : Value} {t : TypeId} (h : w.heap[C]? = some (.cells #[u0, u1, u2] t (0, 0))) : (w.setCell ⟨C, 1, none⟩ u).heap[C]? = some (.cells #[u0, u, u2] t (0, 0)) := by
  obtain ⟨hlt, hk⟩ := Array.getElem?_eq_some_iff.1 h
  show (w.heap.modify C _)[C]? = _
  rw [Array.getElem?_eq_getElem (by rw [Array.size_modify]; exact hlt), Array.getElem_modify_self, hk]
  rfl
theorem set3_2 {w : World} {C : Nat} {u0 u1 u2 u : Value} {t : TypeId} (h : w.heap[C]? = some (.cells #[u0, u1, u2] t (0, 0))) : (w.setCell ⟨C, 2, none⟩ u).heap[C]? = some (.cells #[u0, u1, u] t (0, 0)) := by
  obtain ⟨hlt, hk⟩ := Array.getElem?_eq_some_iff.1 h
  show (w.heap.modify C _)[C]? = _
  rw [Array.getElem?_eq_getElem (by rw [Array.size_modify]; exact hlt), Array.getElem_modify_self, hk]
  rfl
theorem grown_set (w : World) (a : Addr) (v : Value) : w.grownBy (w.setCell a v) (some a.block) :=
  ⟨rfl, rfl, rfl, by simp [World.setCell], fun k _ hk => Below.heap_setCell _ _ _ k (fun e => hk (by rw [e]))⟩
theorem grown_drewN (w : World) (n : Nat) (row : Option Nat) : w.grownBy (w.drewN n) row := ⟨rfl, rfl, rfl, Nat.le_refl _, fun _ _ _ => rfl⟩

theorem cur_step {w : World} {C n k len cap : Nat} {a : Option Addr} {sd : Int} (hh : w.heap[C]? = some (.cells #[.slice a len cap, .int .i64 ((k : Nat) : Int), .int .u64 sd] 43 (0, 0))) (hk : k ≤ n) (hlc : len ≤ cap) (hl20 : len ≤ 1048576) (hby : Bytes w C a len) (m : Nat) (sd' : Int) :
    Cur (((w.drewN m).setCell ⟨C, 1, none⟩ (.int .i64 ((k : Int) + 1))).setCell ⟨C, 2, none⟩ (.int .u64 sd')) C (n + 1) ∧ w.grownBy (((w.drewN m).setCell ⟨C, 1, none⟩ (.int .i64 ((k : Int) + 1))).setCell ⟨C, 2, none⟩ (.int .u64 sd')) (some C) ∧
    Cur (((w.drewN m).setCell ⟨C, 2, none⟩ (.int .u64 sd')).setCell ⟨C, 1, none⟩ (.int .i64 ((k : Int) + 1))) C (n + 1) ∧ w.grownBy (((w.drewN m).setCell ⟨C, 2, none⟩ (.int .u64 sd')).setCell ⟨C, 1, none⟩ (.int .i64 ((k : Int) + 1))) (some C) := by
  have hh' : (w.drewN m).heap[C]? = some (.cells #[.slice a len cap, .int .i64 ((k : Nat) : Int), .int .u64 sd] 43 (0, 0)) := hh
  have g1 := grown_trans (grown_trans (grown_drewN w m (some C)) (grown_set (w.drewN m) ⟨C, 1, none⟩ (.int .i64 ((k : Int) + 1)))) (grown_set _ ⟨C, 2, none⟩ (.int .u64 sd'))
  have g2 := grown_trans (grown_trans (grown_drewN w m (some C)) (grown_set (w.drewN m) ⟨C, 2, none⟩ (.int .u64 sd'))) (grown_set _ ⟨C, 1, none⟩ (.int .i64 ((k : Int) + 1)))
  refine ⟨⟨a, len, cap, k + 1, sd', ?_, by omega, hlc, hl20, hby.kept g1⟩, g1, ⟨a, len, cap, k + 1, sd', ?_, by omega, hlc, hl20, hby.kept g2⟩, g2⟩
  · have := set3_2 (u := .int .u64 sd') (set3_1 (u := .int .i64 ((k : Int) + 1)) hh')
    rw [this]; rfl
  · have := set3_1 (u := .int .i64 ((k : Int) + 1)) (set3_2 (u := .int .u64 sd') hh')
    rw [this]; rfl

theorem low8 (X : Int) : ∃ x : Nat, wrap64 (bits .and .u64 (IntKind.u64.wrap X / 1099511627776) 255) = (x : Int) ∧ x ≤ 255 := by
  have h0 : IntKind.u64.wrap X = X % 18446744073709551616 := by
    simp [IntKind.wrap, IntKind.bits, IntKind.signed]
  obtain ⟨Y, hY⟩ : ∃ Y : Nat, IntKind.u64.wrap X / 1099511627776 = (Y : Int) ∧ Y < 18446744073709551616 := by
    refine ⟨(IntKind.u64.wrap X / 1099511627776).toNat, ?_, ?_⟩
    · rw [h0]; omega
    · rw [h0]; omega
  rw [hY.1]
  have h := bits_and_u64_nat Y 255 hY.2 (by decide)
  rw [show ((255 : Nat) : Int) = 255 from rfl] at h
  rw [h]
  refine ⟨Y &&& 255, ?_, Nat.and_le_right⟩
  have hle : Y &&& 255 ≤ 255 := Nat.and_le_right
  generalize Y &&& 255 = q at *
  unfold wrap64
  omega

theorem Cur.alloc {w : World} {C n : Nat} (h : Cur w C n) (o : Obj) : Cur (w.alloc o) C n := by
  obtain ⟨a, len, cap, k, sd, hh, hk, hlc, hl20, hby⟩ := h
  have hC := (Array.getElem?_eq_some_iff.1 hh).1
  refine ⟨a, len, cap, k, sd, by rw [Below.heap_alloc _ _ _ hC]; exact hh, hk, hlc, hl20, fun i hi => ?_⟩
  obtain ⟨b, o', z, ha, hlt, h0, h255, hc⟩ := hby i hi
  exact ⟨b, o', z, ha, hlt, h0, h255, by rw [World.cell?_alloc_past _ _ _ (by omega)]; exact hc⟩
/-- A step that writes beyond C leaves the reader as it was. -/
theorem Cur.kept {w w' : World} {C n : Nat} {row : Option Nat} (h : Cur w C n) (hg : w.grownBy w' row) (hr : ∀ r, row = some r → C < r) : Cur w' C n := by
  obtain ⟨a, len, cap, k, sd, hh, hk, hlc, hl20, hby⟩ := h
  have hC := (Array.getElem?_eq_some_iff.1 hh).1
  refine ⟨a, len, cap, k, sd, by rw [hg.block C hC (fun e => by have := hr C e.symm; omega)]; exact hh, hk, hlc, hl20, fun i hi => ?_⟩
  obtain ⟨b, o', z, ha, hlt, h0, h255, hc⟩ := hby i hi
  exact ⟨b, o', z, ha, hlt, h0, h255, hg.cell (a := ⟨b, o' + i, none⟩) hc (fun e => by have h9 : C < b := hr b e.symm; omega)⟩
theorem Cur.lt {w : World} {C n : Nat} (h : Cur w C n) : C < w.heap.size := by
  obtain ⟨a, len, cap, k, sd, hh, _⟩ := h
  exact (Array.getElem?_eq_some_iff.1 hh).1
theorem Cur.mono {w : World} {C n n' : Nat} (h : Cur w C n) (hn : n ≤ n') : Cur w C n' := by
  obtain ⟨a, len, cap, k, sd, hh, hk, r⟩ := h
  exact ⟨a, len, cap, k, sd, hh, by omega, r⟩

set_option maxHeartbeats 1000000 in
set_option maxRecDepth 100000 in
theorem next_any (C n : Nat) (w : World) (h : Cur w C n) (hn : n ≤ 1099511627776) :
    Calls Try.prog 37 #[.pointer (some ⟨C, 0, none⟩)] w fun e w' => ∃ x : Nat, e = .returned (.int .i64 (x : Int)) ∧ x ≤ 255 ∧ Cur w' C (n + 1) ∧ w.grownBy w' (some C) := by
  obtain ⟨a, len, cap, k, sd, hh, hk, hlc, hl20, hby⟩ := h
  obtain ⟨c0, c1, c2, f1, f2⟩ := cells3 hh
  by_cases hlt : k < len
  · obtain ⟨b, o, z, rfl, hbl, h0, h255, hcz⟩ := hby k hlt
    have HB : Hid (Bytes w C (some ⟨b, o, none⟩) len) := hby
    have HH : Hid (w.heap[C]? = some (.cells #[.slice (some ⟨b, o, none⟩) len cap, .int .i64 ((k : Nat) : Int), .int .u64 sd] 43 (0, 0))) := hh
    clear hby hh
    go_enter Try.func37, Try.ntmps37
    go_wp2
    go_quiet (fail)
    revert nq
    intro m1
    go_wp2
    go_quiet (fail)
    go_wp2
    go_ret
    have hst := cur_step HH.out hk hlc hl20 HB.out (m1 + nq) (IntKind.u64.wrap (IntKind.u64.wrap (IntKind.u64.wrap (sd * 6364136223846793005) + z) + 1442695040888963407))
    exact ⟨z.toNat, ret_int (by omega), by omega, hst.1, hst.2.1⟩
  · have HB : Hid (Bytes w C a len) := hby
    have HH : Hid (w.heap[C]? = some (.cells #[.slice a len cap, .int .i64 ((k : Nat) : Int), .int .u64 sd] 43 (0, 0))) := hh
    clear hby hh
    go_enter Try.func37, Try.ntmps37
    go_wp2
    go_quiet (fail)
    go_wp2
    go_ret
    have hst := cur_step HH.out hk hlc hl20 HB.out nq (IntKind.u64.wrap (IntKind.u64.wrap (sd * 6364136223846793005) + 1442695040888963407))
    obtain ⟨x, hx, hx255⟩ := low8 (IntKind.u64.wrap (sd * 6364136223846793005) + 1442695040888963407)
    exact ⟨x, ret_int hx, hx255, hst.2.2.1, hst.2.2.2⟩

set_option maxHeartbeats 1000000 in
set_option maxRecDepth 100000 in
theorem pick_any (C n N : Nat) (w : World) (h : Cur w C n) (hn : n ≤ 1000000000) (h2 : 2 ≤ N) (hN : N ≤ 100000) :
    Calls Try.prog 22 #[.pointer (some ⟨C, 0, none⟩), .int .i64 (N : Int)] w fun e w' => ∃ x : Nat, e = .returned (.int .i64 (x : Int)) ∧ x < N ∧ Cur w' C (n + 2) ∧ w.grownBy w' (some C) := by
  by_cases h200 : 200 < N
  · go_enter Try.func22, Try.ntmps22
    go_wp2_with fail
    refine (next_any C n w h (by omega)).mono ?_
    rintro e w1 ⟨x1, rfl, hx1, hc1, hg1⟩
    go_wp2_with fail
    refine (next_any C (n + 1) w1 hc1 (by omega)).mono ?_
    rintro e w2 ⟨x2, rfl, hx2, hc2, hg2⟩
    go_wp2
    go_ret
    exact ⟨(x1 * 256 + x2) % N, ret_int (by simp), Nat.mod_lt _ (by omega), hc2, grown_trans hg1 hg2⟩
  · go_enter Try.func22, Try.ntmps22
    go_wp2_with fail
    refine (next_any C n w h (by omega)).mono ?_
    rintro e w1 ⟨x1, rfl, hx1, hc1, hg1⟩
    go_wp2
    go_ret
    exact ⟨x1 % N, ret_int (by simp), Nat.mod_lt _ (by omega), hc1.mono (by omega), hg1⟩

end Go.Proofs.Ytimgafblpmjajaa
