
import Derived.Test.YtimgafblpmjajabGreatWmm

namespace Go.Proofs.YtimgafblpmjajabGreat

open Go.RowKit

/-- An edge as plain data. -/
structure Eg where
  src : Int
  line : Int
  to : Int
def egV (e : Eg) : Value := .agg #[.int .i64 e.src, .int .i64 e.line, .int .i64 e.to]
def egR (e : Eg) : List Value := [.int .i64 e.src, .int .i64 e.line, .int .i64 e.to]
theorem egR_len (L : List Eg) : (L.flatMap egR).length = L.length * 3 := by
  induction L with
  | nil => rfl
  | cons x r ih => simp only [List.flatMap_cons, List.length_append, ih, egR, List.length_cons, List.length_nil]; omega
theorem egR_get : ∀ (L : List Eg) (k : Nat) (h : k < L.length), (L.flatMap egR)[k * 3]? = some (.int .i64 L[k].src) ∧ (L.flatMap egR)[k * 3 + 1]? = some (.int .i64 L[k].line) ∧ (L.flatMap egR)[k * 3 + 2]? = some (.int .i64 L[k].to)
  | [], _, h => absurd h (by simp)
  | x :: r, 0, _ => by simp [egR]
  | x :: r, k + 1, h => by
    have h' : k < r.length := by simpa using h
    obtain ⟨i0, i1, i2⟩ := egR_get r k h'
    have e : ∀ j, ((x :: r).flatMap egR)[j + 3]? = (r.flatMap egR)[j]? := fun j => by
      rw [List.flatMap_cons, List.getElem?_append_right (by simp [egR])]; simp [egR]
    have e0 : (k + 1) * 3 = k * 3 + 3 := by omega
    have e1 : (k + 1) * 3 + 1 = (k * 3 + 1) + 3 := by omega
    have e2 : (k + 1) * 3 + 2 = (k * 3 + 2) + 3 := by omega
    rw [e1, e2, e0, e, e, e]
    simp only [List.getElem_cons_succ]
    exact ⟨i0, i1, i2⟩
/-- A slice of edges that can be read. -/
def Egs (w : World) (v : Value) (L : List Eg) : Prop :=
  ∃ a cap, v = .slice a L.length cap ∧ L.length ≤ cap ∧ cap ≤ maxLen ∧ ∀ k, (hk : k < L.length) → ∃ b o, a = some ⟨b, o, none⟩ ∧ b < w.heap.size ∧
    w.cell? ⟨b, o + k * 3, none⟩ = some (.int .i64 L[k].src) ∧ w.cell? ⟨b, o + k * 3 + 1, none⟩ = some (.int .i64 L[k].line) ∧ w.cell? ⟨b, o + k * 3 + 2, none⟩ = some (.int .i64 L[k].to)
theorem Egs.below {w w' : World} {B : Nat} {v : Value} {L : List Eg} (h : Egs w v L) (hb : Below B w w') (hB : w.heap.size ≤ B) : Egs w' v L := by
  obtain ⟨a, cap, hv, hcap, hmax, hc⟩ := h
  exact ⟨a, cap, hv, hcap, hmax, fun k hk => by
    obtain ⟨b, o, ha, hlt, h0, h1, h2⟩ := hc k hk
    have hl := Nat.lt_of_lt_of_le hlt hB
    exact ⟨b, o, ha, Nat.lt_of_lt_of_le hlt hb.size, (hb.cell (p := ⟨b, o + k * 3, none⟩) hl).trans h0, (hb.cell (p := ⟨b, o + k * 3 + 1, none⟩) hl).trans h1, (hb.cell (p := ⟨b, o + k * 3 + 2, none⟩) hl).trans h2⟩⟩
theorem egs_own {w : World} {base : Nat} {v : Value} {L : List Eg} (h : w.ownsRow base 54 3 v L.length (L.flatMap egR)) : Egs w v L := by
  have hca := fun (g cap : Nat) (hv : v = .slice (some ⟨g, 0, none⟩) L.length cap) => (hv ▸ h : w.ownsRow base 54 3 (.slice (some ⟨g, 0, none⟩) L.length cap) L.length (L.flatMap egR)).cellAt
  rcases h.2 with ⟨hv, hn⟩ | ⟨g, cap, cur, hv, hg, hh, hc, hm, _⟩
  · exact ⟨none, 0, by rw [hv, hn], by omega, by unfold maxLen; omega, fun k hk => by omega⟩
  · have hca := hca g cap hv
    refine ⟨_, cap, hv, hc, hm, fun k hk => ?_⟩
    obtain ⟨i0, i1, i2⟩ := egR_get L k hk
    exact ⟨g, 0, rfl, (Array.getElem?_eq_some_iff.1 hh).1, by rw [Nat.zero_add, hca _ (by omega)]; exact i0, by rw [Nat.zero_add, hca _ (by omega)]; exact i1, by rw [Nat.zero_add, hca _ (by omega)]; exact i2⟩

set_option maxHeartbeats 1000000 in
set_option maxRecDepth 100000 in
theorem eqEdge_any (l : Eg) (w : World) :
    Calls Tryz.prog 31 #[egV l, egV l] w fun e w' => e = .returned (.bool true) ∧ Below w.heap.size w w' := by
  unfold egV
  go_enter Tryz.func31, Tryz.ntmps31
  go_wp2
  go_ret
  exact ⟨rfl, below_alloc2 _ _⟩

set_option maxHeartbeats 2000000 in
set_option maxRecDepth 100000 in
theorem eqEdgeS_any (v v' : Value) (L : List Eg) (w : World) (h : Egs w v L) (h' : Egs w v' L) (hL : L.length ≤ 1048576) :
    Calls Tryz.prog 10 #[v, v'] w fun e w' => e = .returned (.bool true) ∧ Below w.heap.size w w' := by
  obtain ⟨a, cap, rfl, hcap, hmax, hc⟩ := h
  obtain ⟨a', cap', rfl, hcap', hmax', hc'⟩ := h'
  have HC : Hid (∀ k, (hk : k < L.length) → ∃ b o, a = some ⟨b, o, none⟩ ∧ b < w.heap.size ∧
    w.cell? ⟨b, o + k * 3, none⟩ = some (.int .i64 L[k].src) ∧ w.cell? ⟨b, o + k * 3 + 1, none⟩ = some (.int .i64 L[k].line) ∧ w.cell? ⟨b, o + k * 3 + 2, none⟩ = some (.int .i64 L[k].to)) := hc
  have HC' : Hid (∀ k, (hk : k < L.length) → ∃ b o, a' = some ⟨b, o, none⟩ ∧ b < w.heap.size ∧
    w.cell? ⟨b, o + k * 3, none⟩ = some (.int .i64 L[k].src) ∧ w.cell? ⟨b, o + k * 3 + 1, none⟩ = some (.int .i64 L[k].line) ∧ w.cell? ⟨b, o + k * 3 + 2, none⟩ = some (.int .i64 L[k].to)) := hc'
  clear hc hmax hc' hmax'
  go_enter Tryz.func10, Tryz.ntmps10
  go_wp2
  go_loopw [5] (fun i wr => ∃ k : Nat, k ≤ L.length ∧ i = .int .i64 k ∧ Below w.heap.size w wr) (fun i _ => L.length - (intOf i).toNat)
  case atStart => exact ⟨0, Nat.zero_le _, rfl, Below.refl _ _⟩
  case round =>
    obtain ⟨k, hk, rfl, hB⟩ := hrel
    by_cases hlt : k < L.length
    · obtain ⟨b, o, rfl, hb, h0, h1, h2⟩ := HC.out k hlt
      obtain ⟨b', o', rfl, hb', h0', h1', h2'⟩ := HC'.out k hlt
      have c0 := (hB.cell (p := ⟨b, o + k * 3, none⟩) hb).trans h0
      have c1 := (hB.cell (p := ⟨b, o + k * 3 + 1, none⟩) hb).trans h1
      have c2 := (hB.cell (p := ⟨b, o + k * 3 + 2, none⟩) hb).trans h2
      have d0 := (hB.cell (p := ⟨b', o' + k * 3, none⟩) hb').trans h0'
      have d1 := (hB.cell (p := ⟨b', o' + k * 3 + 1, none⟩) hb').trans h1'
      have d2 := (hB.cell (p := ⟨b', o' + k * 3 + 2, none⟩) hb').trans h2'
      have HEQ : Hid (∀ W, Calls Tryz.prog 31 #[egV L[k], egV L[k]] W fun e w' => e = .returned (.bool true) ∧ Below W.heap.size W w') := eqEdge_any L[k]
      unfold egV at HEQ
      clear h0 h1 h2 h0' h1' h2'
      go_wp2
      go_region_with (go_at_call 31; refine (HEQ.out _).mono ?_; rintro e w1 ⟨rfl, hb1⟩)
      all_goals
        have hb2 : Below w.heap.size w w1 := hB.drew.trans (hb1.mono hB.size)
        go_wp2
        go_roundw
        case rel => exact ⟨k + 1, by omega, by go_num, hb2⟩
        case measure => simp [intOf]; omega
    · go_wp2
      go_ret
      exact ⟨rfl, hB⟩

/-- The marks of n edges, from 1 on. -/
def egM (j : Nat) : Eg := ⟨(1 + 3 * j : Nat), (1 + 3 * j + 1 : Nat), (1 + 3 * j + 2 : Nat)⟩
def egMs (n : Nat) : List Eg := (List.range n).map egM
theorem egMs_len (n : Nat) : (egMs n).length = n := by simp [egMs]
theorem egMs_get (n j : Nat) (h : j < (egMs n).length) : (egMs n)[j] = egM j := by simp [egMs]

set_option maxHeartbeats 2000000 in
set_option maxRecDepth 100000 in
theorem markE_any (base : Nat) (v : Value) (n : Nat) (xs : List Value) (w : World) (h : w.ownsRow base 54 3 v n xs) (hn : n ≤ 1048576) :
    Calls Tryz.prog 13 #[v, .int .i64 1] w fun e w' => e = .returned (.int .i64 ((1 + 3 * n : Nat) : Int)) ∧ w'.ownsRow base 54 3 v (egMs n).length ((egMs n).flatMap egR) ∧ w.grownBy w' v.ownBlock := by
  obtain ⟨a, cap, rfl, hcap, ha⟩ := row_form h
  go_enter Tryz.func13, Tryz.ntmps13
  go_wp2
  go_loopw [1, 5] (fun kv i wr => ∃ (j : Nat) (X : List Value), j ≤ n ∧ i = .int .i64 j ∧ kv = .int .i64 ((1 + 3 * j : Nat) : Int) ∧ wr.ownsRow base 54 3 (.slice a n cap) n X ∧ (∀ i, i < j * 3 → X[i]? = ((egMs n).flatMap egR)[i]?) ∧ w.grownBy wr (Value.slice a n cap).ownBlock) (fun _ i _ => n - (intOf i).toNat)
  case atStart => exact ⟨0, xs, Nat.zero_le _, rfl, rfl, h, fun i hi => by omega, World.grownBy.refl _ _⟩
  case round =>
    obtain ⟨j, X, hj, rfl, rfl, hown, hX, hgr⟩ := hrel
    by_cases hlt : j < n
    · obtain ⟨g, rfl⟩ := ha (by omega)
      have hXl : X.length = n * 3 := hown.1
      have HX : Hid (∀ i, i < j * 3 → X[i]? = ((egMs n).flatMap egR)[i]?) := hX
      obtain ⟨kk, hkk⟩ : ∃ kk, kk = 1 + 3 * j := ⟨_, rfl⟩
      rw [← hkk]
      have hkb : kk ≤ 40000000 := by omega
      have HKK : Hid (kk = 1 + 3 * j) := hkk
      clear hkk hX
      obtain ⟨u0, hc0⟩ := row_cell hown (j * 3) (by omega)
      obtain ⟨u1, hc1⟩ := row_cell hown (j * 3 + 1) (by omega)
      obtain ⟨u2, hc2⟩ := row_cell hown (j * 3 + 2) (by omega)
      have hf0 := hown.frozenAt (j * 3)
      have hf1 := hown.frozenAt (j * 3 + 1)
      have hf2 := hown.frozenAt (j * 3 + 2)
      have s1 := hown.stored (j * 3) (.int .i64 (kk : Int))
      have s2 := s1.1.stored (j * 3 + 1) (.int .i64 ((kk : Int) + 1))
      have s3 := s2.1.stored (j * 3 + 2) (.int .i64 ((kk : Int) + 1 + 1))
      go_wp2
      go_roundw
      case rel =>
        refine ⟨j + 1, _, by omega, by go_num, by rw [show 1 + 3 * (j + 1) = kk + 3 by rw [HKK.out]; omega]; go_num, s3.1, fun i hi => ?_, grown_trans (grown_trans (grown_trans hgr s1.2) s2.2) s3.2⟩
        obtain ⟨m0, m1, m2⟩ := egR_get (egMs n) j (by rw [egMs_len]; exact hlt)
        rw [egMs_get] at m0 m1 m2
        have hk0 : (kk : Int) = ((1 + 3 * j : Nat) : Int) := by rw [HKK.out]
        by_cases h0 : i = j * 3
        · subst h0
          rw [List.getElem?_set_ne (by omega), List.getElem?_set_ne (by omega), List.getElem?_set_self (by omega), m0, hk0]; rfl
        · by_cases h1 : i = j * 3 + 1
          · subst h1
            rw [List.getElem?_set_ne (by omega), List.getElem?_set_self (by simp; omega), m1, hk0]; simp [egM]
          · by_cases h2 : i = j * 3 + 2
            · subst h2
              rw [List.getElem?_set_self (by simp; omega), m2, hk0]; simp [egM]; omega
            · rw [List.getElem?_set_ne (by omega), List.getElem?_set_ne (by omega), List.getElem?_set_ne (by omega)]
              exact HX.out i (by omega)
      case measure => simp [intOf]; omega
    · have hjn : j = n := by omega
      subst hjn
      have hXe : X = (egMs j).flatMap egR := by
        have hXl : X.length = j * 3 := hown.1
        apply List.ext_getElem?
        intro i
        by_cases hi : i < j * 3
        · exact hX i hi
        · rw [List.getElem?_eq_none (by omega), List.getElem?_eq_none (by rw [egR_len, egMs_len]; omega)]
      rw [hXe] at hown
      clear hX
      go_wp2
      go_ret
      exact ⟨rfl, by rw [egMs_len]; exact hown, hgr⟩

set_option maxHeartbeats 2000000 in
set_option maxRecDepth 100000 in
theorem heldE_any (v : Value) (n : Nat) (w : World) (h : Egs w v (egMs n)) (hn : n ≤ 1048576) :
    Calls Tryz.prog 14 #[v, .int .i64 1] w fun e w' => e = .returned (.int .i64 ((1 + 3 * n : Nat) : Int)) ∧ w' = w := by
  obtain ⟨a, cap, rfl, hcap, hmax, hc⟩ := h
  have HC : Hid (∀ k, k < n → ∃ b o, a = some ⟨b, o, none⟩ ∧ w.cell? ⟨b, o + k * 3, none⟩ = some (.int .i64 ((1 + 3 * k : Nat) : Int)) ∧ w.cell? ⟨b, o + k * 3 + 1, none⟩ = some (.int .i64 (((1 + 3 * k : Nat) : Int) + 1)) ∧ w.cell? ⟨b, o + k * 3 + 2, none⟩ = some (.int .i64 (((1 + 3 * k : Nat) : Int) + 1 + 1))) := fun k hk => by
    obtain ⟨b, o, ha, _, h0, h1, h2⟩ := hc k (by rw [egMs_len]; exact hk)
    rw [egMs_get] at h0 h1 h2
    refine ⟨b, o, ha, h0, ?_, ?_⟩
    · rw [h1]; simp [egM]
    · rw [h2]; simp [egM]; omega
  rw [egMs_len] at hcap ⊢
  clear hc hmax
  go_enter Tryz.func14, Tryz.ntmps14
  go_wp2
  go_loopw [1, 5] (fun kv i wr => ∃ j : Nat, j ≤ n ∧ i = .int .i64 j ∧ kv = .int .i64 ((1 + 3 * j : Nat) : Int) ∧ wr = w) (fun _ i _ => n - (intOf i).toNat)
  case atStart => exact ⟨0, Nat.zero_le _, rfl, rfl, rfl⟩
  case round =>
    obtain ⟨j, hj, rfl, rfl, rfl⟩ := hrel
    by_cases hlt : j < n
    · obtain ⟨b, o, rfl, c0, c1, c2⟩ := HC.out j hlt
      obtain ⟨kk, hkk⟩ : ∃ kk, kk = 1 + 3 * j := ⟨_, rfl⟩
      rw [← hkk] at c0 c1 c2 ⊢
      have hkb : kk ≤ 40000000 := by omega
      have HKK : Hid (kk = 1 + 3 * j) := hkk
      clear hkk
      go_wp2
      go_roundw
      case rel => exact ⟨j + 1, by omega, by go_num, by rw [show 1 + 3 * (j + 1) = kk + 3 by rw [HKK.out]; omega]; go_num, trivial⟩
      case measure => simp [intOf]; omega
    · have hjn : j = n := by omega
      subst hjn
      go_wp2
      go_ret
      exact ⟨rfl, rfl⟩
end Go.Proofs.YtimgafblpmjajabGreat
