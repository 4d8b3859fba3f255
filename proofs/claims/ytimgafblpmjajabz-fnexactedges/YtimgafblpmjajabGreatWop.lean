
import Derived.Test.YtimgafblpmjajabGreatWlw

import Derived.SliceStrings

import Derived.Deep.Slices

import Derived.Deep.Strs

import Derived.Lib.SmallJoins

namespace Go.Proofs.YtimgafblpmjajabGreat

open Go.RowKit Go.ChangeShapes Go.Deep

theorem Tryz.cellsOf9 : Tryz.prog.cellsOf 9 = 1 := by kernel_rfl
theorem Tryz.cellsOf2 : Tryz.prog.cellsOf 2 = 1 := by kernel_rfl
theorem Tryz.cellsOf3 : Tryz.prog.cellsOf 3 = 1 := by kernel_rfl
theorem Tryz.cellsOf22 : Tryz.prog.cellsOf 22 = 1 := by kernel_rfl
theorem Tryz.cellsOf23 : Tryz.prog.cellsOf 23 = 1 := by kernel_rfl
theorem Tryz.cellsOf24 : Tryz.prog.cellsOf 24 = 1 := by kernel_rfl
theorem Tryz.cellsOf86 : Tryz.prog.cellsOf 84 = 1 := by kernel_rfl
theorem Tryz.cellsOf88 : Tryz.prog.cellsOf 86 = 2 := by kernel_rfl
theorem Tryz.cellsOf127 : Tryz.prog.cellsOf 157 = 4 := by kernel_rfl
theorem Tryz.cellsOf26 : Tryz.prog.cellsOf 26 = 3 := by kernel_rfl

/-- A list out of what is there at each place. -/
theorem list_of {α : Type} (p : Nat → α → Prop) : ∀ n, (∀ i, i < n → ∃ x, p i x) → ∃ L : List α, L.length = n ∧ ∀ i (h : i < L.length), p i L[i]
  | 0, _ => ⟨[], rfl, fun i h => absurd h (by simp)⟩
  | n + 1, h => by
    obtain ⟨L, hl, hp⟩ := list_of p n (fun i hi => h i (by omega))
    obtain ⟨x, hx⟩ := h n (by omega)
    refine ⟨L ++ [x], by simp [hl], fun i hi => ?_⟩
    by_cases hi' : i < L.length
    · rw [List.getElem_append_left hi']; exact hp i hi'
    · have : i = n := by simp at hi; omega
      subst this
      rw [List.getElem_append_right (by omega)]
      simp only [hl, Nat.sub_self, List.getElem_singleton]; exact hx

theorem add_off (b o k : Nat) : (⟨b, o, none⟩ : Addr).add k = ⟨b, o + k, none⟩ := by
  unfold Addr.add
  split
  · rename_i hk; rw [hk]; rfl
  · rfl
theorem cell_block {W : World} {b o : Nat} {u : Value} (h : W.cell? ⟨b, o, none⟩ = some u) : b < W.heap.size := World.block_lt_of_cell? W ⟨b, o, none⟩ h

theorem spot_of {W : World} {a : Addr} {sz : Nat} {cs' : List Value} (h : W.cells? 0 (a.add (0 * sz)) sz = some cs') (hsz : 0 < sz) : ∃ b o, a = ⟨b, o, none⟩ ∧ b < W.heap.size := by
  obtain ⟨_, hl, h3⟩ := World.cells?_some h
  have h0 := h3 0 hsz
  rw [List.getElem?_eq_getElem (by omega), add_add, Nat.zero_mul, Nat.add_zero] at h0
  have h1 : a.add 0 = a := by unfold Addr.add; simp
  rw [h1] at h0
  obtain ⟨b, o, spot⟩ := a
  have : spot = none := World.cell?_spot h0
  subst this
  exact ⟨b, o, rfl, cell_block h0⟩
theorem cells_at {W : World} {b o i sz : Nat} {cs' : List Value} (h : W.cells? 0 ((⟨b, o, none⟩ : Addr).add (i * sz)) sz = some cs') :
    ∀ j u, cs'[j]? = some u → W.cell? ⟨b, o + i * sz + j, none⟩ = some u := by
  obtain ⟨_, hl, h3⟩ := World.cells?_some h
  intro j u hu
  have hj : j < sz := by rw [← hl]; exact (List.getElem?_eq_some_iff.1 hu).1
  have := h3 j hj
  rw [add_add, add_off, hu, ← Nat.add_assoc] at this
  exact this

section
variable {H : Type} {enc : TypeId × Value → H} {w : World} {held : Bool} {fuel : Nat} {cs : List Value} {x : DataW H × List MemPlace}

set_option maxRecDepth 100000 in
theorem open_nums (h : DataW.trod enc Tryz.prog w 0 (fun _ => true) held fuel 24 cs = some x) : ∃ v L, cs = [v] ∧ Nums w v L := by
  rcases open_slice Tryz.underlying24 h with ⟨rfl, _⟩ | ⟨a, len, cap, m, n, D, Pl, rfl, _, hl, hm, hmm, _, hx⟩
  · exact ⟨_, [], rfl, none, 0, rfl, Nat.le_refl _, by decide, fun k hk => absurd hk (by simp)⟩
  · have hmm' : m = cap := hmm
    obtain ⟨L, hL, hp⟩ := list_of (fun i (n : Int) => ∃ b o, a = ⟨b, o, none⟩ ∧ b < w.heap.size ∧ w.cell? ⟨b, o + i, none⟩ = some (.int .i64 n)) len (fun i hi => by
      obtain ⟨cs', h1, h2⟩ := hx i (by omega)
      obtain ⟨q, rfl, _, _⟩ := DataW.trod_int Tryz.underlying3 h2
      rw [Tryz.cellsOf3] at h1
      obtain ⟨cs0, h10, _⟩ := hx 0 (by omega)
      rw [Tryz.cellsOf3] at h10
      obtain ⟨b, o, ha, hb⟩ := spot_of h10 (by decide)
      rw [ha] at h1
      have hc := cells_at h1
      exact ⟨q, b, o, ha, hb, by have := hc 0 _ rfl; rwa [Nat.mul_one, Nat.add_zero] at this⟩)
    refine ⟨_, L, rfl, some a, cap, by rw [hL], by omega, hm, fun k hk => ?_⟩
    obtain ⟨b, o, rfl, hb, hc⟩ := hp k hk
    exact ⟨b, o, rfl, hb, hc⟩

set_option maxRecDepth 100000 in
theorem open_strs' (h : DataW.trod enc Tryz.prog w 0 (fun _ => true) held fuel 22 cs = some x) : ∃ v L, cs = [v] ∧ Strs w v L ∧ ∀ l ∈ L, l.length ≤ maxLen := by
  rcases open_slice Tryz.underlying22 h with ⟨rfl, _⟩ | ⟨a, len, cap, m, n, D, Pl, rfl, _, hl, hm, hmm, _, hx⟩
  · exact ⟨_, [], rfl, ⟨none, 0, rfl, Nat.le_refl _, by decide, fun k hk => absurd hk (by simp)⟩, fun l h => by cases h⟩
  · have hmm' : m = cap := hmm
    obtain ⟨L, hL, hp⟩ := list_of (fun i (s : List UInt8) => s.length ≤ maxLen ∧ ∃ b o, a = ⟨b, o, none⟩ ∧ b < w.heap.size ∧ w.cell? ⟨b, o + i, none⟩ = some (strV s)) len (fun i hi => by
      obtain ⟨cs', h1, h2⟩ := hx i (by omega)
      obtain ⟨q, rfl, _, hq⟩ := DataW.trod_string Tryz.underlying9 h2
      rw [Tryz.cellsOf9] at h1
      obtain ⟨cs0, h10, _⟩ := hx 0 (by omega)
      rw [Tryz.cellsOf9] at h10
      obtain ⟨b, o, ha, hb⟩ := spot_of h10 (by decide)
      rw [ha] at h1
      have hc := cells_at h1
      exact ⟨q.data.toList, by rw [← size_data]; exact hq, b, o, ha, hb, by have := hc 0 _ rfl; rw [Nat.mul_one, Nat.add_zero] at this; rw [strV_data]; exact this⟩)
    refine ⟨_, L, rfl, ⟨some a, cap, by rw [hL], by omega, hm, fun k hk => ?_⟩, fun l hl => ?_⟩
    · obtain ⟨_, b, o, rfl, hb, hc⟩ := hp k hk
      exact ⟨b, o, rfl, hb, hc⟩
    · obtain ⟨j, hj, rfl⟩ := List.getElem_of_mem hl
      exact (hp j hj).1

theorem one_cell (u : List Value) (h : u.length = 1) : ∃ c, u = [c] := by
  match u, h with
  | [c], _ => exact ⟨c, rfl⟩

set_option maxRecDepth 100000 in
theorem open_ln (h : DataW.trod enc Tryz.prog w 0 (fun _ => true) held fuel 157 cs = some x) : ∃ l : Ln, l.ok ∧ cs = [.int .i64 l.op, strV l.name, .int .i64 l.num, .int .i64 l.skip] := by
  obtain ⟨y0, y1, y2, y3, n, _, hl, h0, h1, h2, h3⟩ := Go.Joins.trod_struct4 Tryz.underlying157 h
  rw [Tryz.cellsOf127] at hl
  obtain ⟨q0, e0, _, _⟩ := DataW.trod_int Tryz.underlying3 h0
  obtain ⟨q1, e1, _, hq1⟩ := DataW.trod_string Tryz.underlying9 h1
  obtain ⟨q2, e2, _, _⟩ := DataW.trod_int Tryz.underlying2 h2
  obtain ⟨q3, e3, _, _⟩ := DataW.trod_int Tryz.underlying3 h3
  match cs, hl with
  | [c0, c1, c2, c3], _ =>
    simp only [Tryz.cellsOf3, Tryz.cellsOf9, Tryz.cellsOf2, List.drop_succ_cons, List.drop_zero, List.take_succ_cons, List.take_zero, List.cons.injEq, and_true] at e0 e1 e2 e3
    subst e0 e1 e2 e3
    refine ⟨⟨q0, q1.data.toList, q2, q3⟩, by unfold Ln.ok; rw [← size_data]; exact hq1, ?_⟩
    simp only [strV_data]

set_option maxRecDepth 100000 in
theorem open_lns (h : DataW.trod enc Tryz.prog w 0 (fun _ => true) held fuel 84 cs = some x) : ∃ v L, cs = [v] ∧ Lns w v L ∧ ∀ l ∈ L, l.ok := by
  rcases open_slice Tryz.underlying84 h with ⟨rfl, _⟩ | ⟨a, len, cap, m, n, D, Pl, rfl, _, hl, hm, hmm, _, hx⟩
  · exact ⟨_, [], rfl, ⟨none, 0, rfl, Nat.le_refl _, by decide, fun k hk => absurd hk (by simp)⟩, fun l h => by cases h⟩
  · have hmm' : m = cap := hmm
    obtain ⟨L, hL, hp⟩ := list_of (fun i (l : Ln) => l.ok ∧ ∃ b o, a = ⟨b, o, none⟩ ∧ b < w.heap.size ∧ w.cell? ⟨b, o + i * 4, none⟩ = some (.int .i64 l.op) ∧ w.cell? ⟨b, o + i * 4 + 1, none⟩ = some (strV l.name) ∧ w.cell? ⟨b, o + i * 4 + 2, none⟩ = some (.int .i64 l.num) ∧ w.cell? ⟨b, o + i * 4 + 3, none⟩ = some (.int .i64 l.skip)) len (fun i hi => by
      obtain ⟨cs', h1, h2⟩ := hx i (by omega)
      obtain ⟨l, hok, rfl⟩ := open_ln h2
      rw [Tryz.cellsOf127] at h1
      obtain ⟨cs0, h10, _⟩ := hx 0 (by omega)
      rw [Tryz.cellsOf127] at h10
      obtain ⟨b, o, ha, hb⟩ := spot_of h10 (by decide)
      rw [ha] at h1
      have hc := cells_at h1
      exact ⟨l, hok, b, o, ha, hb, hc 0 _ rfl, hc 1 _ rfl, hc 2 _ rfl, hc 3 _ rfl⟩)
    refine ⟨_, L, rfl, ⟨some a, cap, by rw [hL], by omega, hm, fun k hk => ?_⟩, fun l hl => ?_⟩
    · obtain ⟨_, b, o, rfl, r⟩ := hp k hk
      exact ⟨b, o, rfl, r⟩
    · obtain ⟨j, hj, rfl⟩ := List.getElem_of_mem hl
      exact (hp j hj).1

set_option maxRecDepth 100000 in
theorem open_md (h : DataW.trod enc Tryz.prog w 0 (fun _ => true) held fuel 86 cs = some x) : ∃ (m : Md) (s : Value), m.ok ∧ cs = [strV m.name, s] ∧ Lns w s m.lines := by
  obtain ⟨y0, y1, n, _, hl, h0, h1⟩ := trod_struct2 Tryz.underlying86 h
  rw [Tryz.cellsOf88] at hl
  obtain ⟨q0, e0, _, hq0⟩ := DataW.trod_string Tryz.underlying9 h0
  obtain ⟨v, L, e1, hL, hLok⟩ := open_lns h1
  match cs, hl with
  | [c0, c1], _ =>
    simp only [Tryz.cellsOf9, Tryz.cellsOf86, List.drop_succ_cons, List.drop_zero, List.take_succ_cons, List.take_zero, List.cons.injEq, and_true] at e0 e1
    subst e0 e1
    refine ⟨⟨q0.data.toList, L⟩, c1, ⟨by simp only []; rw [← size_data]; exact hq0, hLok⟩, ?_, hL⟩
    simp only [strV_data]

set_option maxRecDepth 100000 in
theorem open_mds (h : DataW.trod enc Tryz.prog w 0 (fun _ => true) held fuel 23 cs = some x) : ∃ v M, cs = [v] ∧ Mds w v M ∧ ∀ m ∈ M, m.ok := by
  rcases open_slice Tryz.underlying23 h with ⟨rfl, _⟩ | ⟨a, len, cap, m, n, D, Pl, rfl, _, hl, hm, hmm, _, hx⟩
  · exact ⟨_, [], rfl, ⟨none, 0, rfl, Nat.le_refl _, by decide, fun k hk => absurd hk (by simp)⟩, fun l h => by cases h⟩
  · have hmm' : m = cap := hmm
    obtain ⟨L, hL, hp⟩ := list_of (fun i (l : Md) => l.ok ∧ ∃ b o s, a = ⟨b, o, none⟩ ∧ b < w.heap.size ∧ w.cell? ⟨b, o + i * 2, none⟩ = some (strV l.name) ∧ w.cell? ⟨b, o + i * 2 + 1, none⟩ = some s ∧ Lns w s l.lines) len (fun i hi => by
      obtain ⟨cs', h1, h2⟩ := hx i (by omega)
      obtain ⟨l, s, hok, rfl, hs⟩ := open_md h2
      rw [Tryz.cellsOf88] at h1
      obtain ⟨cs0, h10, _⟩ := hx 0 (by omega)
      rw [Tryz.cellsOf88] at h10
      obtain ⟨b, o, ha, hb⟩ := spot_of h10 (by decide)
      rw [ha] at h1
      have hc := cells_at h1
      exact ⟨l, hok, b, o, s, ha, hb, hc 0 _ rfl, hc 1 _ rfl, hs⟩)
    refine ⟨_, L, rfl, ⟨some a, cap, by rw [hL], by omega, hm, fun k hk => ?_⟩, fun l hl => ?_⟩
    · obtain ⟨_, b, o, s, rfl, r⟩ := hp k hk
      exact ⟨b, o, s, rfl, r⟩
    · obtain ⟨j, hj, rfl⟩ := List.getElem_of_mem hl
      exact (hp j hj).1

set_option maxRecDepth 100000 in
theorem open_wds (h : DataW.trod enc Tryz.prog w 0 (fun _ => true) held fuel 26 cs = some x) : ∃ r m f D, cs = [r, m, f] ∧ Wds w (.agg #[r, m, f]) D ∧ D.ok := by
  obtain ⟨y0, y1, y2, n, _, hl, h0, h1, h2⟩ := trod_struct3 Tryz.underlying26 h
  rw [Tryz.cellsOf26] at hl
  obtain ⟨v0, L0, e0, hL0, hok0⟩ := open_strs' h0
  obtain ⟨v1, L1, e1, hL1, hok1⟩ := open_mds h1
  obtain ⟨v2, L2, e2, hL2⟩ := open_nums h2
  match cs, hl with
  | [c0, c1, c2], _ =>
    simp only [Tryz.cellsOf22, Tryz.cellsOf23, Tryz.cellsOf24, List.drop_succ_cons, List.drop_zero, List.take_succ_cons, List.take_zero, List.cons.injEq, and_true] at e0 e1 e2
    subst e0 e1 e2
    exact ⟨c0, c1, c2, ⟨L0, L1, L2⟩, rfl, ⟨c0, c1, c2, rfl, hL0, hL1, hL2⟩, hok0, hok1⟩
end
end Go.Proofs.YtimgafblpmjajabGreat
