import Derived.Test.YtimgafblpmjajaaDraw
namespace Go.Proofs.Ytimgafblpmjajaa
open Go.RowKit

/-- A slice of bytes that came in. -/
def CodeIn (w : World) (v : Value) : Prop :=
  ∃ a len cap, v = .slice a len cap ∧ len ≤ cap ∧ ∀ i, i < len → ∃ b o z, a = some ⟨b, o, none⟩ ∧ b < w.heap.size ∧ 0 ≤ z ∧ z ≤ 255 ∧ w.cell? ⟨b, o + i, none⟩ = some (.int .u8 z)

theorem cur_new {w : World} {a : Option Addr} {len cap : Nat} (hlc : len ≤ cap) (hl : len ≤ 1048576) (h : ∀ i, i < len → ∃ b o z, a = some ⟨b, o, none⟩ ∧ b < w.heap.size ∧ 0 ≤ z ∧ z ≤ 255 ∧ w.cell? ⟨b, o + i, none⟩ = some (.int .u8 z)) :
    Cur (w.alloc (.cells #[.slice a len cap, .int .i64 0, .int .u64 0] 43)) w.heap.size 0 := by
  refine ⟨a, len, cap, 0, 0, heap_alloc_new w _, Nat.le_refl _, hlc, hl, fun i hi => ?_⟩
  obtain ⟨b, o, z, ha, hlt, h0, h255, hc⟩ := h i hi
  exact ⟨b, o, z, ha, hlt, h0, h255, by rw [World.cell?_alloc_past _ _ _ hlt]; exact hc⟩

theorem below_grown_new {w w' : World} {o : Obj} (hg : (w.alloc o).grownBy w' (some w.heap.size)) : Below w.heap.size w w' :=
  ((Below.refl _ w).alloc (Nat.le_refl _) o).grown hg (by simp) (fun k e => by cases e; exact Nat.le_refl _)

set_option maxHeartbeats 1000000 in
set_option maxRecDepth 100000 in
theorem drawClean_any (a : Option Addr) (len cap : Nat) (w : World) (hlc : len ≤ cap) (hl : len ≤ 1048576) (h : ∀ i, i < len → ∃ b o z, a = some ⟨b, o, none⟩ ∧ b < w.heap.size ∧ 0 ≤ z ∧ z ≤ 255 ∧ w.cell? ⟨b, o + i, none⟩ = some (.int .u8 z)) :
    Calls Try.prog 7 #[.slice a len cap] w fun e w' => ∃ q : ByteArray, e = .returned (.string q) ∧ q.size ≤ 64 ∧ Below w.heap.size w w' := by
  have hcur := cur_new hlc hl h
  have HCUR : Hid (Cur (w.alloc (.cells #[.slice a len cap, .int .i64 0, .int .u64 0] 43)) w.heap.size 0) := hcur
  clear hcur h
  go_enter Try.func7, Try.ntmps7
  go_wp2_with fail
  refine (pick_any w.heap.size 0 12 _ HCUR.out (by decide) (by decide) (by decide)).mono ?_
  rintro e w1 ⟨x, rfl, hx, hc1, hg1⟩
  by_cases hx0 : x = 0
  · subst hx0
    go_wp2_with fail
    refine (long_any w.heap.size _ _ hc1 (by decide)).mono ?_
    rintro e w2 ⟨q, rfl, hq, hc2, hg2⟩
    go_wp2
    go_ret
    exact ⟨q, rfl, by omega, below_grown_new (grown_trans hg1 hg2)⟩
  · have hxb : ((x : Int) == 0) = false := by rw [beq_eq_false_iff_ne]; omega
    go_wp2_with fail
    refine (ask_any w.heap.size _ _ hc1 (by decide)).mono ?_
    rintro e w2 ⟨q, rfl, hq, hc2, hg2⟩
    go_wp2
    go_ret
    exact ⟨q, rfl, by omega, below_grown_new (grown_trans hg1 hg2)⟩

theorem total_bound (R : List (List UInt8)) (h : ∀ l ∈ R, l.length ≤ 20) : Pl.total R ≤ 21 * R.length := by
  induction R with
  | nil => simp [Pl.total, Lib.lens]
  | cons x r ih =>
    have h1 := h x (by simp)
    have h2 := ih (fun l hl => h l (by simp [hl]))
    simp only [Pl.total, Lib.lens, List.map_cons, List.sum_cons, List.length_cons] at h2 ⊢
    omega

/-- The roots so far. -/
def RootsRel (w : World) (v i : Value) (wr : World) : Prop :=
  ∃ (j : Nat) (R : List (List UInt8)), j ≤ 9 ∧ i = .int .i64 j ∧ R.length + j ≤ 9 ∧ (∀ l ∈ R, l.length ≤ 20) ∧ wr.ownsRow (w.heap.size + 1) 9 1 v R.length (R.map strV) ∧ Cur wr w.heap.size (6 + 18 * (9 - j)) ∧ Below w.heap.size w wr

/-- A step of the reader leaves a row beyond it as it was. -/
theorem row_draw {w w' : World} {C : Nat} {v : Value} {n : Nat} {xs : List Value} (h : w.ownsRow (C + 1) 9 1 v n xs) (hg : w.grownBy w' (some C)) : w'.ownsRow (C + 1) 9 1 v n xs := by
  refine h.kept hg ?_
  cases hv : v.ownBlock with
  | none => exact .inl rfl
  | some k => exact .inr (fun e => by cases e; have := (h.lt C hv).1; omega)
theorem below_draw {w wr w' : World} (hB : Below w.heap.size w wr) (hg : wr.grownBy w' (some w.heap.size)) : Below w.heap.size w w' :=
  hB.grown hg hB.size (fun k e => by cases e; exact Nat.le_refl _)

theorem row_snoc' {w : World} {base : Nat} {v : Value} {R : List (List UInt8)} {b : ByteArray} (h : w.ownsRow base 9 1 v (R.length + 1) (R.map strV ++ [.string b])) : w.ownsRow base 9 1 v (R ++ [b.data.toList]).length ((R ++ [b.data.toList]).map strV) :=
  row_snoc (p := b.data.toList) (strV_data b).symm h

set_option maxHeartbeats 4000000 in
set_option maxRecDepth 100000 in
theorem drawTries_any (a : Option Addr) (len cap : Nat) (w : World) (hlc : len ≤ cap) (hl : len ≤ 1048576) (h : ∀ i, i < len → ∃ b o z, a = some ⟨b, o, none⟩ ∧ b < w.heap.size ∧ 0 ≤ z ∧ z ≤ 255 ∧ w.cell? ⟨b, o + i, none⟩ = some (.int .u8 z)) :
    Calls Try.prog 10 #[.slice a len cap] w fun e w' => ∃ (v : Value) (R : List (List UInt8)) (f s : ByteArray), e = .returned (.tuple #[v, .string f, .string s]) ∧ w'.ownsRow w.heap.size 9 1 v R.length (R.map strV) ∧ Pl.total R ≤ 200 ∧ f.size ≤ 64 ∧ s.size ≤ 64 ∧ Below w.heap.size w w' := by
  obtain ⟨i0, hi, hz0, hz1, hz2⟩ := info_parts Try.info9
  have hcur := cur_new hlc hl h
  have HCUR : Hid (Cur (w.alloc (.cells #[.slice a len cap, .int .i64 0, .int .u64 0] 43)) w.heap.size 0) := hcur
  clear hcur h
  go_enter Try.func10, Try.ntmps10
  go_wp2_with fail
  refine (pick_any w.heap.size 0 4 _ HCUR.out (by decide) (by decide) (by decide)).mono ?_
  rintro e w1 ⟨x, rfl, hx, hc1, hg1⟩
  go_wp2_with fail
  refine (pick_any w.heap.size _ 20 _ hc1 (by decide) (by decide) (by decide)).mono ?_
  rintro e w2 ⟨y, rfl, hy, hc2, hg2⟩
  have hB2 : Below w.heap.size w w2 := below_grown_new (grown_trans hg1 hg2)
  clear hg1 hg2 hc1
  by_cases hy0 : y = 0
  · subst hy0
    go_wp2_with fail
    refine (pick_any w.heap.size _ 2 _ hc2 (by decide) (by decide) (by decide)).mono ?_
    rintro e w3 ⟨y2, rfl, hy2, hc3, hg3⟩
    have hB3 := below_draw hB2 hg3
    clear hg3 hc2 hB2
    go_wp2
    go_loopw [6, 7] (fun v i wr => RootsRel w v i wr) (fun _ i _ => (intOf i).toNat)
    case atStart => exact ⟨8 + y2, [], by omega, by go_num, by simp; omega, by simp, World.ownsRow_nil _ _ _ _, hc3.mono (by omega), hB3⟩
    case round =>
      obtain ⟨j, R, hj, rfl, hRj, hR20, hrow, hc, hB⟩ := hrel
      have HR20 : Hid (∀ l ∈ R, l.length ≤ 20) := hR20
      clear hR20
      obtain ⟨av, capv, rfl, hcapv, hmaxv, _⟩ := row_shape hrow
      by_cases hpos : 0 < j
      · go_wp2_with fail
        refine (pick_any w.heap.size _ 3 _ hc (by omega) (by decide) (by decide)).mono ?_
        rintro e w4 ⟨z, rfl, hz, hc4, hg4⟩
        have hrow4 := row_draw hrow hg4
        have hB4 := below_draw hB hg4
        have hs4 := hB4.size
        have hl4 := hc4.lt
        clear hg4 hrow hB hc
        by_cases hz0' : z = 0
        · subst hz0'
          go_wp2_with (at_builtin; refine wpList_append_own _ rfl _ _ 27 rfl (w.heap.size + 1) 9 i0 (.string ByteArray.empty) 1 16 Try.underlying27 hi hz0 hz1 hz2 rfl (by decide) _ _ _ rfl (hrow4.alloc _) ⟨_, 0, none⟩ 1 1 [.string ⟨#[]⟩] rfl rfl (cell_one_new _ _ _) (by simp [Value.oneCell']) (by unfold maxLen; omega) (by omega) (by simp; omega) ?_; intro v' w5 hown' hgrow _; have hb5 := below_append hB4 hs4 (own_mono hrow4 (by omega)) hgrow; have hc5 := (hc4.alloc (.cells #[.string ⟨#[]⟩] 9)).kept hgrow (fun r e => (hrow4.lt r e).1); have ho := row_snoc' hown'; clear hown' hgrow)
          go_roundw
          case rel => exact ⟨j - 1, _, by omega, by go_num, by simp; omega, fun l hl => (List.mem_append.1 hl).elim (HR20.out l) (fun h => by simp at h; subst h; simp), ho, hc5.mono (by omega), hb5⟩
          case measure => simp [intOf]; omega
        · have hzb : ((z : Int) == 0) = false := by rw [beq_eq_false_iff_ne]; omega
          go_wp2_with fail
          refine (ask_any w.heap.size _ _ hc4 (by omega)).mono ?_
          rintro e w5 ⟨q, rfl, hq, hc5, hg5⟩
          have hrow5 := row_draw hrow4 hg5
          have hB5 := below_draw hB4 hg5
          have hs5 := hB5.size
          have hl5 := hc5.lt
          clear hg5 hrow4 hB4 hc4
          go_wp2_with (at_builtin; refine wpList_append_own _ rfl _ _ 27 rfl (w.heap.size + 1) 9 i0 (.string ByteArray.empty) 1 16 Try.underlying27 hi hz0 hz1 hz2 rfl (by decide) _ _ _ rfl (hrow5.alloc _) ⟨_, 0, none⟩ 1 1 [.string q] rfl rfl (cell_one_new _ _ _) (by simp [Value.oneCell']) (by unfold maxLen; omega) (by omega) (by simp; omega) ?_; intro v' w6 hown' hgrow _; have hb6 := below_append hB5 hs5 (own_mono hrow5 (by omega)) hgrow; have hc6 := (hc5.alloc (.cells #[.string q] 9)).kept hgrow (fun r e => (hrow5.lt r e).1); have ho := row_snoc' hown'; clear hown' hgrow)
          go_roundw
          case rel => exact ⟨j - 1, _, by omega, by go_num, by simp; omega, fun l hl => (List.mem_append.1 hl).elim (HR20.out l) (fun h => by simp at h; subst h; rw [← size_data]; exact hq), ho, hc6.mono (by omega), hb6⟩
          case measure => simp [intOf]; omega
      · have hT : Pl.total R ≤ 200 := by have := total_bound R HR20.out; omega
        have HTT : Hid (Pl.total R ≤ 200) := hT
        clear hT
        go_wp2_with fail
        refine (name_any w.heap.size _ _ hc (by omega)).mono ?_
        rintro e w4 ⟨q, rfl, hq, hc4, hg4⟩
        have hrow4 := row_draw hrow hg4
        have hB4 := below_draw hB hg4
        clear hg4 hrow hB hc
        go_wp2_with fail
        refine (pick_any w.heap.size _ 8 _ hc4 (by omega) (by decide) (by decide)).mono ?_
        rintro e w5 ⟨z, rfl, hz, hc5, hg5⟩
        have hrow5 := row_draw hrow4 hg5
        have hB5 := below_draw hB4 hg5
        clear hg5 hrow4 hB4 hc4
        by_cases hz0' : z = 0
        · subst hz0'
          go_wp2_with fail
          refine (ask_any w.heap.size _ _ hc5 (by omega)).mono ?_
          rintro e w6 ⟨q6, rfl, hq6, hc6, hg6⟩
          have hrow6 := row_draw hrow5 hg6
          have hB6 := below_draw hB5 hg6
          clear hg6 hrow5 hB5 hc5
          have hf64 : q6.size ≤ 64 := by omega
          go_wp2_with fail
          refine (pick_any w.heap.size _ 20 _ hc6 (by omega) (by decide) (by decide)).mono ?_
          rintro e w7 ⟨u, rfl, hu, hc7, hg7⟩
          have hrow7 := row_draw hrow6 hg7
          have hB7 := below_draw hB6 hg7
          clear hg7 hrow6 hB6 hc6
          match u, hu with
          | 0, _ =>
            go_wp2_with fail
            refine (long_any w.heap.size _ _ hc7 (by omega)).mono ?_
            rintro e w8 ⟨q8, rfl, hq8, hc8, hg8⟩
            have hrow8 := own_mono (base' := w.heap.size) (row_draw hrow7 hg8) (by omega)
            have hB8 := below_draw hB7 hg8
            go_wp2
            go_ret3
            exact ⟨_, R, _, q8, rfl, hrow8, HTT.out, hf64, by omega, hB8⟩
          | 1, _ =>
            go_wp2_with fail
            refine (deep_any w.heap.size _ _ hc7 (by omega)).mono ?_
            rintro e w8 ⟨q8, rfl, hq8, hc8, hg8⟩
            go_wp2_with fail
            refine (part_any w.heap.size _ _ hc8 (by omega)).mono ?_
            rintro e w9 ⟨q9, rfl, hq9, hc9, hg9⟩
            have hrow8 := own_mono (base' := w.heap.size) (row_draw (row_draw hrow7 hg8) hg9) (by omega)
            have hB8 := below_draw (below_draw hB7 hg8) hg9
            have hs9 : (⟨#[46, 47]⟩ ++ q9 : ByteArray).size = 2 + q9.size := app_size _ _
            go_wp2
            go_ret3
            exact ⟨_, R, q8, _, rfl, hrow8, HTT.out, by omega, by rw [hs9]; omega, hB8⟩
          | u + 2, hu =>
            have b0 : (((u + 2 : Nat) : Int) == 0) = false := by rw [beq_eq_false_iff_ne]; omega
            have b1 : (((u + 2 : Nat) : Int) == 1) = false := by rw [beq_eq_false_iff_ne]; omega
            go_wp2_with fail
            refine (ask_any w.heap.size _ _ hc7 (by omega)).mono ?_
            rintro e w8 ⟨q8, rfl, hq8, hc8, hg8⟩
            have hrow8 := own_mono (base' := w.heap.size) (row_draw hrow7 hg8) (by omega)
            have hB8 := below_draw hB7 hg8
            go_wp2
            go_ret3
            exact ⟨_, R, _, q8, rfl, hrow8, HTT.out, hf64, by omega, hB8⟩
        · have hzb : ((z : Int) == 0) = false := by rw [beq_eq_false_iff_ne]; omega
          have hc6 := hc5
          have hrow6 := hrow5
          have hB6 := hB5
          have hf64 : q.size ≤ 64 := by omega
          clear hc5 hrow5 hB5
          go_wp2_with fail
          refine (pick_any w.heap.size _ 20 _ hc6 (by omega) (by decide) (by decide)).mono ?_
          rintro e w7 ⟨u, rfl, hu, hc7, hg7⟩
          have hrow7 := row_draw hrow6 hg7
          have hB7 := below_draw hB6 hg7
          clear hg7 hrow6 hB6 hc6
          match u, hu with
          | 0, _ =>
            go_wp2_with fail
            refine (long_any w.heap.size _ _ hc7 (by omega)).mono ?_
            rintro e w8 ⟨q8, rfl, hq8, hc8, hg8⟩
            have hrow8 := own_mono (base' := w.heap.size) (row_draw hrow7 hg8) (by omega)
            have hB8 := below_draw hB7 hg8
            go_wp2
            go_ret3
            exact ⟨_, R, _, q8, rfl, hrow8, HTT.out, hf64, by omega, hB8⟩
          | 1, _ =>
            go_wp2_with fail
            refine (deep_any w.heap.size _ _ hc7 (by omega)).mono ?_
            rintro e w8 ⟨q8, rfl, hq8, hc8, hg8⟩
            go_wp2_with fail
            refine (part_any w.heap.size _ _ hc8 (by omega)).mono ?_
            rintro e w9 ⟨q9, rfl, hq9, hc9, hg9⟩
            have hrow8 := own_mono (base' := w.heap.size) (row_draw (row_draw hrow7 hg8) hg9) (by omega)
            have hB8 := below_draw (below_draw hB7 hg8) hg9
            have hs9 : (⟨#[46, 47]⟩ ++ q9 : ByteArray).size = 2 + q9.size := app_size _ _
            go_wp2
            go_ret3
            exact ⟨_, R, q8, _, rfl, hrow8, HTT.out, by omega, by rw [hs9]; omega, hB8⟩
          | u + 2, hu =>
            have b0 : (((u + 2 : Nat) : Int) == 0) = false := by rw [beq_eq_false_iff_ne]; omega
            have b1 : (((u + 2 : Nat) : Int) == 1) = false := by rw [beq_eq_false_iff_ne]; omega
            go_wp2_with fail
            refine (ask_any w.heap.size _ _ hc7 (by omega)).mono ?_
            rintro e w8 ⟨q8, rfl, hq8, hc8, hg8⟩
            have hrow8 := own_mono (base' := w.heap.size) (row_draw hrow7 hg8) (by omega)
            have hB8 := below_draw hB7 hg8
            go_wp2
            go_ret3
            exact ⟨_, R, _, q8, rfl, hrow8, HTT.out, hf64, by omega, hB8⟩
  · have hyb : ((y : Int) == 0) = false := by rw [beq_eq_false_iff_ne]; omega
    go_wp2
    go_loopw [6, 7] (fun v i wr => RootsRel w v i wr) (fun _ i _ => (intOf i).toNat)
    case atStart => exact ⟨x, [], by omega, rfl, by simp; omega, by simp, World.ownsRow_nil _ _ _ _, hc2.mono (by omega), hB2⟩
    case round =>
      obtain ⟨j, R, hj, rfl, hRj, hR20, hrow, hc, hB⟩ := hrel
      have HR20 : Hid (∀ l ∈ R, l.length ≤ 20) := hR20
      clear hR20
      obtain ⟨av, capv, rfl, hcapv, hmaxv, _⟩ := row_shape hrow
      by_cases hpos : 0 < j
      · go_wp2_with fail
        refine (pick_any w.heap.size _ 3 _ hc (by omega) (by decide) (by decide)).mono ?_
        rintro e w4 ⟨z, rfl, hz, hc4, hg4⟩
        have hrow4 := row_draw hrow hg4
        have hB4 := below_draw hB hg4
        have hs4 := hB4.size
        have hl4 := hc4.lt
        clear hg4 hrow hB hc
        by_cases hz0' : z = 0
        · subst hz0'
          go_wp2_with (at_builtin; refine wpList_append_own _ rfl _ _ 27 rfl (w.heap.size + 1) 9 i0 (.string ByteArray.empty) 1 16 Try.underlying27 hi hz0 hz1 hz2 rfl (by decide) _ _ _ rfl (hrow4.alloc _) ⟨_, 0, none⟩ 1 1 [.string ⟨#[]⟩] rfl rfl (cell_one_new _ _ _) (by simp [Value.oneCell']) (by unfold maxLen; omega) (by omega) (by simp; omega) ?_; intro v' w5 hown' hgrow _; have hb5 := below_append hB4 hs4 (own_mono hrow4 (by omega)) hgrow; have hc5 := (hc4.alloc (.cells #[.string ⟨#[]⟩] 9)).kept hgrow (fun r e => (hrow4.lt r e).1); have ho := row_snoc' hown'; clear hown' hgrow)
          go_roundw
          case rel => exact ⟨j - 1, _, by omega, by go_num, by simp; omega, fun l hl => (List.mem_append.1 hl).elim (HR20.out l) (fun h => by simp at h; subst h; simp), ho, hc5.mono (by omega), hb5⟩
          case measure => simp [intOf]; omega
        · have hzb : ((z : Int) == 0) = false := by rw [beq_eq_false_iff_ne]; omega
          go_wp2_with fail
          refine (ask_any w.heap.size _ _ hc4 (by omega)).mono ?_
          rintro e w5 ⟨q, rfl, hq, hc5, hg5⟩
          have hrow5 := row_draw hrow4 hg5
          have hB5 := below_draw hB4 hg5
          have hs5 := hB5.size
          have hl5 := hc5.lt
          clear hg5 hrow4 hB4 hc4
          go_wp2_with (at_builtin; refine wpList_append_own _ rfl _ _ 27 rfl (w.heap.size + 1) 9 i0 (.string ByteArray.empty) 1 16 Try.underlying27 hi hz0 hz1 hz2 rfl (by decide) _ _ _ rfl (hrow5.alloc _) ⟨_, 0, none⟩ 1 1 [.string q] rfl rfl (cell_one_new _ _ _) (by simp [Value.oneCell']) (by unfold maxLen; omega) (by omega) (by simp; omega) ?_; intro v' w6 hown' hgrow _; have hb6 := below_append hB5 hs5 (own_mono hrow5 (by omega)) hgrow; have hc6 := (hc5.alloc (.cells #[.string q] 9)).kept hgrow (fun r e => (hrow5.lt r e).1); have ho := row_snoc' hown'; clear hown' hgrow)
          go_roundw
          case rel => exact ⟨j - 1, _, by omega, by go_num, by simp; omega, fun l hl => (List.mem_append.1 hl).elim (HR20.out l) (fun h => by simp at h; subst h; rw [← size_data]; exact hq), ho, hc6.mono (by omega), hb6⟩
          case measure => simp [intOf]; omega
      · have hT : Pl.total R ≤ 200 := by have := total_bound R HR20.out; omega
        have HTT : Hid (Pl.total R ≤ 200) := hT
        clear hT
        go_wp2_with fail
        refine (name_any w.heap.size _ _ hc (by omega)).mono ?_
        rintro e w4 ⟨q, rfl, hq, hc4, hg4⟩
        have hrow4 := row_draw hrow hg4
        have hB4 := below_draw hB hg4
        clear hg4 hrow hB hc
        go_wp2_with fail
        refine (pick_any w.heap.size _ 8 _ hc4 (by omega) (by decide) (by decide)).mono ?_
        rintro e w5 ⟨z, rfl, hz, hc5, hg5⟩
        have hrow5 := row_draw hrow4 hg5
        have hB5 := below_draw hB4 hg5
        clear hg5 hrow4 hB4 hc4
        by_cases hz0' : z = 0
        · subst hz0'
          go_wp2_with fail
          refine (ask_any w.heap.size _ _ hc5 (by omega)).mono ?_
          rintro e w6 ⟨q6, rfl, hq6, hc6, hg6⟩
          have hrow6 := row_draw hrow5 hg6
          have hB6 := below_draw hB5 hg6
          clear hg6 hrow5 hB5 hc5
          have hf64 : q6.size ≤ 64 := by omega
          go_wp2_with fail
          refine (pick_any w.heap.size _ 20 _ hc6 (by omega) (by decide) (by decide)).mono ?_
          rintro e w7 ⟨u, rfl, hu, hc7, hg7⟩
          have hrow7 := row_draw hrow6 hg7
          have hB7 := below_draw hB6 hg7
          clear hg7 hrow6 hB6 hc6
          match u, hu with
          | 0, _ =>
            go_wp2_with fail
            refine (long_any w.heap.size _ _ hc7 (by omega)).mono ?_
            rintro e w8 ⟨q8, rfl, hq8, hc8, hg8⟩
            have hrow8 := own_mono (base' := w.heap.size) (row_draw hrow7 hg8) (by omega)
            have hB8 := below_draw hB7 hg8
            go_wp2
            go_ret3
            exact ⟨_, R, _, q8, rfl, hrow8, HTT.out, hf64, by omega, hB8⟩
          | 1, _ =>
            go_wp2_with fail
            refine (deep_any w.heap.size _ _ hc7 (by omega)).mono ?_
            rintro e w8 ⟨q8, rfl, hq8, hc8, hg8⟩
            go_wp2_with fail
            refine (part_any w.heap.size _ _ hc8 (by omega)).mono ?_
            rintro e w9 ⟨q9, rfl, hq9, hc9, hg9⟩
            have hrow8 := own_mono (base' := w.heap.size) (row_draw (row_draw hrow7 hg8) hg9) (by omega)
            have hB8 := below_draw (below_draw hB7 hg8) hg9
            have hs9 : (⟨#[46, 47]⟩ ++ q9 : ByteArray).size = 2 + q9.size := app_size _ _
            go_wp2
            go_ret3
            exact ⟨_, R, q8, _, rfl, hrow8, HTT.out, by omega, by rw [hs9]; omega, hB8⟩
          | u + 2, hu =>
            have b0 : (((u + 2 : Nat) : Int) == 0) = false := by rw [beq_eq_false_iff_ne]; omega
            have b1 : (((u + 2 : Nat) : Int) == 1) = false := by rw [beq_eq_false_iff_ne]; omega
            go_wp2_with fail
            refine (ask_any w.heap.size _ _ hc7 (by omega)).mono ?_
            rintro e w8 ⟨q8, rfl, hq8, hc8, hg8⟩
            have hrow8 := own_mono (base' := w.heap.size) (row_draw hrow7 hg8) (by omega)
            have hB8 := below_draw hB7 hg8
            go_wp2
            go_ret3
            exact ⟨_, R, _, q8, rfl, hrow8, HTT.out, hf64, by omega, hB8⟩
        · have hzb : ((z : Int) == 0) = false := by rw [beq_eq_false_iff_ne]; omega
          have hc6 := hc5
          have hrow6 := hrow5
          have hB6 := hB5
          have hf64 : q.size ≤ 64 := by omega
          clear hc5 hrow5 hB5
          go_wp2_with fail
          refine (pick_any w.heap.size _ 20 _ hc6 (by omega) (by decide) (by decide)).mono ?_
          rintro e w7 ⟨u, rfl, hu, hc7, hg7⟩
          have hrow7 := row_draw hrow6 hg7
          have hB7 := below_draw hB6 hg7
          clear hg7 hrow6 hB6 hc6
          match u, hu with
          | 0, _ =>
            go_wp2_with fail
            refine (long_any w.heap.size _ _ hc7 (by omega)).mono ?_
            rintro e w8 ⟨q8, rfl, hq8, hc8, hg8⟩
            have hrow8 := own_mono (base' := w.heap.size) (row_draw hrow7 hg8) (by omega)
            have hB8 := below_draw hB7 hg8
            go_wp2
            go_ret3
            exact ⟨_, R, _, q8, rfl, hrow8, HTT.out, hf64, by omega, hB8⟩
          | 1, _ =>
            go_wp2_with fail
            refine (deep_any w.heap.size _ _ hc7 (by omega)).mono ?_
            rintro e w8 ⟨q8, rfl, hq8, hc8, hg8⟩
            go_wp2_with fail
            refine (part_any w.heap.size _ _ hc8 (by omega)).mono ?_
            rintro e w9 ⟨q9, rfl, hq9, hc9, hg9⟩
            have hrow8 := own_mono (base' := w.heap.size) (row_draw (row_draw hrow7 hg8) hg9) (by omega)
            have hB8 := below_draw (below_draw hB7 hg8) hg9
            have hs9 : (⟨#[46, 47]⟩ ++ q9 : ByteArray).size = 2 + q9.size := app_size _ _
            go_wp2
            go_ret3
            exact ⟨_, R, q8, _, rfl, hrow8, HTT.out, by omega, by rw [hs9]; omega, hB8⟩
          | u + 2, hu =>
            have b0 : (((u + 2 : Nat) : Int) == 0) = false := by rw [beq_eq_false_iff_ne]; omega
            have b1 : (((u + 2 : Nat) : Int) == 1) = false := by rw [beq_eq_false_iff_ne]; omega
            go_wp2_with fail
            refine (ask_any w.heap.size _ _ hc7 (by omega)).mono ?_
            rintro e w8 ⟨q8, rfl, hq8, hc8, hg8⟩
            have hrow8 := own_mono (base' := w.heap.size) (row_draw hrow7 hg8) (by omega)
            have hB8 := below_draw hB7 hg8
            go_wp2
            go_ret3
            exact ⟨_, R, _, q8, rfl, hrow8, HTT.out, hf64, by omega, hB8⟩

end Go.Proofs.Ytimgafblpmjajaa
