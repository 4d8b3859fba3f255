import Derived.Test.YtimgafblpmjajaaCur
namespace Go.Proofs.Ytimgafblpmjajaa
open Go.RowKit

/-- What drawing a text leaves: a text of at most N bytes; the reader has read at most n; nothing else has turned. -/
def Drew (C n N : Nat) (w : World) (e : Ending) (w' : World) : Prop := ∃ q : ByteArray, e = .returned (.string q) ∧ q.size ≤ N ∧ Cur w' C n ∧ w.grownBy w' (some C)

theorem grown_alloc_some (w : World) (o : Obj) (C : Nat) : w.grownBy (w.alloc o) (some C) := World.grownBy_alloc w o (some C)

set_option maxHeartbeats 1000000 in
set_option maxRecDepth 100000 in
theorem part_any (C n : Nat) (w : World) (h : Cur w C n) (hn : n ≤ 100000000) :
    Calls Try.prog 30 #[.pointer (some ⟨C, 0, none⟩)] w (Drew C (n + 2) 3 w) := by
  have hC := h.lt
  unfold Drew
  go_enter Try.func30, Try.ntmps30
  go_wp2_with fail
  refine (pick_any C n 6 _ (h.alloc _) (by omega) (by decide) (by decide)).mono ?_
  rintro e w1 ⟨x, rfl, hx, hc1, hg1⟩
  have hcell : ∃ q : ByteArray, q.size ≤ 3 ∧ w1.cell? ⟨w.heap.size, x, none⟩ = some (.string q) := by
    have hne : w.heap.size ≠ C := by omega
    have hk : ∀ i u, (w.alloc (.cells #[.string ⟨#[97]⟩, .string ⟨#[98]⟩, .string ⟨#[99]⟩, .string ⟨#[108, 105, 98]⟩, .string ⟨#[120, 45, 49]⟩, .string ⟨#[95]⟩] 9)).cell? ⟨w.heap.size, i, none⟩ = some u → w1.cell? ⟨w.heap.size, i, none⟩ = some u := fun i u hu => hg1.cell hu (fun e => hne (by simpa using e))
    match x, hx with
    | 0, _ => exact ⟨⟨#[97]⟩, by decide, hk 0 _ (by simp)⟩
    | 1, _ => exact ⟨⟨#[98]⟩, by decide, hk 1 _ (by simp)⟩
    | 2, _ => exact ⟨⟨#[99]⟩, by decide, hk 2 _ (by simp)⟩
    | 3, _ => exact ⟨⟨#[108, 105, 98]⟩, by decide, hk 3 _ (by simp)⟩
    | 4, _ => exact ⟨⟨#[120, 45, 49]⟩, by decide, hk 4 _ (by simp)⟩
    | 5, _ => exact ⟨⟨#[95]⟩, by decide, hk 5 _ (by simp)⟩
  obtain ⟨q, hq, hcq⟩ := hcell
  go_wp2
  go_ret
  exact ⟨q, rfl, hq, hc1, grown_trans (grown_alloc_some w _ C) hg1⟩

set_option maxHeartbeats 1000000 in
set_option maxRecDepth 100000 in
theorem name_any (C n : Nat) (w : World) (h : Cur w C n) (hn : n ≤ 10000000) :
    Calls Try.prog 28 #[.pointer (some ⟨C, 0, none⟩)] w (Drew C (n + 10) 11 w) := by
  unfold Drew
  go_enter Try.func28, Try.ntmps28
  go_wp2_with fail
  refine (part_any C n _ h (by omega)).mono ?_
  rintro e w1 ⟨q, rfl, hq, hc1, hg1⟩
  go_wp2_with fail
  refine (pick_any C (n + 2) 3 _ hc1 (by omega) (by decide) (by decide)).mono ?_
  rintro e w2 ⟨x, rfl, hx, hc2, hg2⟩
  have hg12 := grown_trans hg1 hg2
  clear hg1 hg2 hc1
  go_wp2
  go_loopw [3, 4] (fun o i wr => ∃ (j : Nat) (b : ByteArray), j ≤ 2 ∧ i = .int .i64 j ∧ o = .string b ∧ b.size + 4 * j ≤ 11 ∧ Cur wr C (n + 4 + 2 * (2 - j)) ∧ w.grownBy wr (some C)) (fun _ i _ => (intOf i).toNat)
  case atStart => exact ⟨x, q, by omega, rfl, rfl, by omega, hc2.mono (by omega), hg12⟩
  case round =>
    obtain ⟨j, b, hj, rfl, rfl, hb, hc, hg⟩ := hrel
    by_cases hpos : 0 < j
    · have hj1 : (j : Int) ≤ 2 := by omega
      go_wp2_with (go_at_call 30; refine (part_any C _ _ hc (by omega)).mono ?_; rintro e w3 ⟨q3, rfl, hq3, hc3, hg3⟩; have hs3 : (⟨#[47]⟩ ++ q3 : ByteArray).size = 1 + q3.size := ByteArray.size_append; have hs4 : (b ++ (⟨#[47]⟩ ++ q3) : ByteArray).size = b.size + (⟨#[47]⟩ ++ q3 : ByteArray).size := ByteArray.size_append)
      go_roundw
      case rel => exact ⟨j - 1, _, by omega, by go_num, rfl, by omega, hc3.mono (by omega), grown_trans hg hg3⟩
      case measure => simp [intOf]; omega
    · go_wp2
      go_ret
      exact ⟨b, rfl, by omega, hc.mono (by omega), hg⟩

/-- A literal list laid ahead of a draw. -/
theorem lit_cell {w3 w4 : World} {C : Nat} {cs : Array Value} {t : TypeId} (hC : C < w3.heap.size) (hg : (w3.alloc (.cells cs t)).grownBy w4 (some C)) (z : Nat) (u : Value) (hz : cs[z]? = some u) : w4.cell? ⟨w3.heap.size, z, none⟩ = some u := by
  have hne : w3.heap.size ≠ C := by omega
  refine hg.cell (a := ⟨w3.heap.size, z, none⟩) ?_ (fun e => hne (by simpa using e))
  rw [World.cell?_alloc_at _ _ _ _ rfl]
  exact hz

/-- For a loop's measure. -/
def strLen : Value → Nat
  | .string b => b.size
  | _ => 0

theorem app_size (a b : ByteArray) : (a ++ b).size = a.size + b.size := ByteArray.size_append

set_option maxHeartbeats 2000000 in
set_option maxRecDepth 100000 in
theorem ask_any (C n : Nat) (w : World) (h : Cur w C n) (hn : n ≤ 1000000) :
    Calls Try.prog 24 #[.pointer (some ⟨C, 0, none⟩), .slice none 0 0] w (Drew C (n + 16) 20 w) := by
  unfold Drew
  go_enter Try.func24, Try.ntmps24
  go_wp2_with fail
  refine (name_any C n _ h (by omega)).mono ?_
  rintro e w1 ⟨q, rfl, hq, hc1, hg1⟩
  go_wp2_with fail
  refine (pick_any C (n + 10) 9 _ hc1 (by omega) (by decide) (by decide)).mono ?_
  rintro e w2 ⟨x, rfl, hx, hc2, hg2⟩
  have hg12 := grown_trans hg1 hg2
  clear hg1 hg2 hc1
  have hC := hc2.lt
  match x, hx with
  | 0, _ =>
    go_wp2_with (go_at_call 30; refine (part_any C _ _ hc2 (by omega)).mono ?_; rintro e w3 ⟨q3, rfl, hq3, hc3, hg3⟩; have hs3 : (⟨#[46, 47]⟩ ++ q3 : ByteArray).size = 2 + q3.size := app_size _ _)
    go_ret
    exact ⟨_, rfl, by rw [hs3]; omega, hc3.mono (by omega), grown_trans hg12 hg3⟩
  | 1, _ =>
    go_wp2_with (go_at_call 30; refine (part_any C _ _ hc2 (by omega)).mono ?_; rintro e w3 ⟨q3, rfl, hq3, hc3, hg3⟩; have hs3 : (⟨#[46, 46, 47]⟩ ++ q3 : ByteArray).size = 3 + q3.size := app_size _ _)
    go_ret
    exact ⟨_, rfl, by rw [hs3]; omega, hc3.mono (by omega), grown_trans hg12 hg3⟩
  | 2, _ =>
    go_wp2_with (go_at_call 30; refine (part_any C _ _ hc2 (by omega)).mono ?_; rintro e w3 ⟨q3, rfl, hq3, hc3, hg3⟩)
    go_ret
    exact ⟨q3, rfl, by omega, hc3.mono (by omega), grown_trans hg12 hg3⟩
  | 3, _ =>
    have hs3 : (⟨#[46, 47, 46, 46, 47]⟩ ++ q : ByteArray).size = 5 + q.size := app_size _ _
    go_wp2
    go_ret
    exact ⟨_, rfl, by rw [hs3]; omega, hc2.mono (by omega), hg12⟩
  | 4, _ =>
    go_wp2_with fail
    refine (pick_any C (n + 12) 3 _ hc2 (by omega) (by decide) (by decide)).mono ?_
    rintro e w3 ⟨y, rfl, hy, hc3, hg3⟩
    by_cases hy0 : y = 0
    · subst hy0
      have hC3 := hc3.lt
      go_wp2_with fail
      refine (pick_any C (n + 14) 12 _ (hc3.alloc _) (by omega) (by decide) (by decide)).mono ?_
      rintro e w4 ⟨z, rfl, hz, hc4, hg4⟩
      have hcell : ∃ t : ByteArray, t.size ≤ 10 ∧ w4.cell? ⟨w3.heap.size, z, none⟩ = some (.string t) := by
        have hk := lit_cell hC3 hg4 z
        match z, hz with
        | 0, _ => exact ⟨_, by decide, hk _ rfl⟩
        | 1, _ => exact ⟨_, by decide, hk _ rfl⟩
        | 2, _ => exact ⟨_, by decide, hk _ rfl⟩
        | 3, _ => exact ⟨_, by decide, hk _ rfl⟩
        | 4, _ => exact ⟨_, by decide, hk _ rfl⟩
        | 5, _ => exact ⟨_, by decide, hk _ rfl⟩
        | 6, _ => exact ⟨_, by decide, hk _ rfl⟩
        | 7, _ => exact ⟨_, by decide, hk _ rfl⟩
        | 8, _ => exact ⟨_, by decide, hk _ rfl⟩
        | 9, _ => exact ⟨_, by decide, hk _ rfl⟩
        | 10, _ => exact ⟨_, by decide, hk _ rfl⟩
        | 11, _ => exact ⟨_, by decide, hk _ rfl⟩
      obtain ⟨t, htz, hct⟩ := hcell
      go_wp2
      go_ret
      exact ⟨t, rfl, by omega, hc4.mono (by omega), grown_trans hg12 (grown_trans hg3 (grown_trans (grown_alloc_some w3 _ C) hg4))⟩
    · have hyb : ((y : Int) == 0) = false := by rw [beq_eq_false_iff_ne]; omega
      go_wp2
      go_ret
      exact ⟨q, rfl, by omega, hc3.mono (by omega), grown_trans hg12 hg3⟩
  | x + 5, hx =>
    have b0 : (((x + 5 : Nat) : Int) == 0) = false := by rw [beq_eq_false_iff_ne]; omega
    have b1 : (((x + 5 : Nat) : Int) == 1) = false := by rw [beq_eq_false_iff_ne]; omega
    have b2 : (((x + 5 : Nat) : Int) == 2) = false := by rw [beq_eq_false_iff_ne]; omega
    have b3 : (((x + 5 : Nat) : Int) == 3) = false := by rw [beq_eq_false_iff_ne]; omega
    have b4 : (((x + 5 : Nat) : Int) == 4) = false := by rw [beq_eq_false_iff_ne]; omega
    go_wp2
    go_ret
    exact ⟨q, rfl, by omega, hc2.mono (by omega), hg12⟩

set_option maxHeartbeats 1000000 in
set_option maxRecDepth 100000 in
theorem long_any (C n : Nat) (w : World) (h : Cur w C n) (hn : n ≤ 1000000) :
    Calls Try.prog 23 #[.pointer (some ⟨C, 0, none⟩)] w (Drew C (n + 130) 61 w) := by
  unfold Drew
  go_enter Try.func23, Try.ntmps23
  go_wp2_with fail
  refine (pick_any C n 3 _ h (by omega) (by decide) (by decide)).mono ?_
  rintro e w1 ⟨x, rfl, hx, hc1, hg1⟩
  have key : ((x : Int) == 0) = true ∨ ((x : Int) == 0) = false := by cases ((x : Int) == 0) <;> simp
  rcases key with hx0 | hx0
  all_goals
    go_wp2
    go_loopw [3] (fun o wr => ∃ b : ByteArray, o = .string b ∧ 1 ≤ b.size ∧ b.size ≤ 61 ∧ Cur wr C (n + 4 + 2 * (b.size - 1)) ∧ w.grownBy wr (some C)) (fun o _ => 61 - strLen o)
    case atStart => exact ⟨_, rfl, by decide, by decide, hc1.mono (by omega), hg1⟩
    case round =>
      obtain ⟨b, rfl, hb1, hb2, hc, hg⟩ := hrel
      have hsb : (b ++ ⟨#[98]⟩ : ByteArray).size = b.size + 1 := app_size _ _
      go_wp2_with fail
      refine (pick_any C _ 3 _ hc (by omega) (by decide) (by decide)).mono ?_
      rintro e w2 ⟨y, rfl, hy, hc2, hg2⟩
      by_cases hlt : b.size < 59 + y
      · go_wp2
        go_roundw
        case rel => exact ⟨b ++ ⟨#[98]⟩, rfl, by omega, by omega, hc2.mono (by omega), grown_trans hg hg2⟩
        case measure => simp only [strLen, hsb]; omega
      · go_wp2
        go_ret
        exact ⟨b, rfl, hb2, hc2.mono (by omega), grown_trans hg hg2⟩

set_option maxHeartbeats 1000000 in
set_option maxRecDepth 100000 in
theorem deep_any (C n : Nat) (w : World) (h : Cur w C n) (hn : n ≤ 1000000) :
    Calls Try.prog 29 #[.pointer (some ⟨C, 0, none⟩)] w (Drew C (n + 130) 61 w) := by
  unfold Drew
  go_enter Try.func29, Try.ntmps29
  go_wp2
  go_loopw [3] (fun o wr => ∃ b : ByteArray, o = .string b ∧ 1 ≤ b.size ∧ b.size ≤ 58 ∧ Cur wr C (n + 2 * (b.size - 1)) ∧ w.grownBy wr (some C)) (fun o _ => 61 - strLen o)
  case atStart => exact ⟨_, rfl, by decide, by decide, h.mono (by omega), World.grownBy.refl _ _⟩
  case round =>
    obtain ⟨b, rfl, hb1, hb2, hc, hg⟩ := hrel
    have hsb : (b ++ ⟨#[98]⟩ : ByteArray).size = b.size + 1 := app_size _ _
    have hsc : (b ++ ⟨#[47, 99]⟩ : ByteArray).size = b.size + 2 := app_size _ _
    go_wp2_with fail
    refine (pick_any C _ 3 _ hc (by omega) (by decide) (by decide)).mono ?_
    rintro e w2 ⟨y, rfl, hy, hc2, hg2⟩
    by_cases hlt : b.size < 56 + y
    · go_wp2
      go_roundw
      case rel => exact ⟨b ++ ⟨#[98]⟩, rfl, by omega, by omega, hc2.mono (by omega), grown_trans hg hg2⟩
      case measure => simp only [strLen, hsb]; omega
    · go_wp2
      go_ret
      exact ⟨_, rfl, by rw [hsc]; omega, hc2.mono (by omega), grown_trans hg hg2⟩

end Go.Proofs.Ytimgafblpmjajaa
