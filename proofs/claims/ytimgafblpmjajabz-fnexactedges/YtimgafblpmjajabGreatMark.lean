
import Derived.Test.YtimgafblpmjajabGreatStrs

namespace Go.Proofs.YtimgafblpmjajabGreat

open Go.RowKit

def markAt (j : Nat) : Value := strV (mkT (1 + j))
def marks (n : Nat) : List Value := (List.range n).map markAt
/-- The first k are marked. -/
def marked (xs : List Value) (k : Nat) : List Value := marks k ++ xs.drop k
theorem marks_length (n : Nat) : (marks n).length = n := by simp [marks]
theorem marked_zero (xs : List Value) : marked xs 0 = xs := by simp [marked, marks]
theorem marked_all (xs : List Value) (k : Nat) (h : xs.length ≤ k) : marked xs k = marks k := by simp [marked, List.drop_of_length_le h]
theorem marked_set (xs : List Value) (k : Nat) (hk : k < xs.length) : (marked xs k).set k (markAt k) = marked xs (k + 1) := by
  unfold marked
  rw [List.set_append_right _ _ (by rw [marks_length]; omega), marks_length, Nat.sub_self, List.drop_eq_getElem_cons hk, List.set_cons_zero]
  simp [marks, List.range_succ]

theorem grown_trans {w w1 w2 : World} {row : Option Nat} (h : w.grownBy w1 row) (k : w1.grownBy w2 row) : w.grownBy w2 row :=
  ⟨k.os.trans h.os, k.tape.trans h.tape, k.output.trans h.output, Nat.le_trans h.size k.size, fun i hi hne => (k.block i (Nat.lt_of_lt_of_le hi h.size) hne).trans (h.block i hi hne)⟩
theorem grown_of_below {w w1 : World} (h : Below w.heap.size w w1) (row : Option Nat) : w.grownBy w1 row :=
  ⟨h.os, h.tape, h.output, h.size, fun i hi _ => h.block i hi⟩

set_option maxHeartbeats 1000000 in
set_option maxRecDepth 100000 in
theorem mark_any (base : Nat) (v : Value) (n : Nat) (xs : List Value) (w : World) (h : w.ownsRow base 9 1 v n xs) (hn : n ≤ 1048576) :
    Calls Tryz.prog 18 #[v, .int .i64 1] w fun e w' => e = .returned (.int .i64 (1 + n)) ∧ w'.ownsRow base 9 1 v n (marks n) ∧ w.grownBy w' v.ownBlock := by
  have hxl : xs.length = n := by have := h.1; omega
  obtain ⟨a, cap, hv, hcap, ha⟩ : ∃ a cap, v = .slice a n cap ∧ n ≤ cap ∧ (0 < n → ∃ g, a = some ⟨g, 0, none⟩) := by
    obtain ⟨_, ⟨rfl, hn0⟩ | ⟨g, cap, cur, rfl, hg, hh, hcap, _⟩⟩ := h
    · exact ⟨none, 0, by rw [hn0], by omega, fun h => by omega⟩
    · exact ⟨_, cap, rfl, hcap, fun _ => ⟨g, rfl⟩⟩
  subst hv
  rw [← marked_zero xs] at h
  have HX : Hid (xs.length = n) := hxl
  clear hxl
  go_enter Tryz.func18, Tryz.ntmps18
  go_wp2
  go_loopw [1, 5] (fun kv i wr => ∃ j : Nat, j ≤ n ∧ i = .int .i64 j ∧ kv = .int .i64 ((1 + j : Nat) : Int) ∧ wr.ownsRow base 9 1 (.slice a n cap) n (marked xs j) ∧ w.grownBy wr (Value.slice a n cap).ownBlock) (fun _ i _ => n - (intOf i).toNat)
  case atStart => exact ⟨0, Nat.zero_le _, rfl, rfl, h, World.grownBy.refl _ _⟩
  case round =>
    obtain ⟨j, hj, rfl, rfl, hown, hgr⟩ := hrel
    by_cases hlt : j < n
    · obtain ⟨g, rfl⟩ := ha (by omega)
      have hmt := markText_any (1 + j) wr (by omega) (by omega)
      have HM : Hid (strV (mkT (1 + j)) = .string ⟨(mkT (1 + j)).toArray⟩) := rfl
      rw [HM.out] at hmt
      have hjx : j < xs.length := by rw [HX.out]; exact hlt
      have hgl := (hown.lt g rfl).2
      go_wp2_with (go_at_call 42; refine hmt.mono ?_; rintro e w1 ⟨rfl, hb⟩; have hown1 := own_below hown hb (Nat.le_refl _); have hf1 := hown1.frozenAt j; have hcj : ∃ u, w1.cell? ⟨g, j, none⟩ = some u := (by rw [hown1.cellAt j (by omega)]; exact ⟨_, List.getElem?_eq_getElem (by unfold marked; rw [List.length_append, marks_length, List.length_drop]; omega)⟩); obtain ⟨u, hcu⟩ := hcj)
      have hst := hown1.stored j (.string ⟨(mkT (1 + j)).toArray⟩)
      rw [show Value.string ⟨(mkT (1 + j)).toArray⟩ = markAt j from rfl, marked_set xs j hjx] at hst
      have hg2 := grown_trans (grown_trans hgr (grown_of_below hb _)) hst.2
      go_roundw
      case rel => exact ⟨j + 1, by omega, by go_num, by go_num, hst.1, hg2⟩
      case measure => simp [intOf]; omega
    · have hjn : j = n := by omega
      subst hjn
      rw [marked_all xs j (by rw [HX.out]; exact Nat.le_refl _)] at hown
      go_wp2
      go_ret
      exact ⟨ret_int (by omega), hown, hgr⟩

set_option maxHeartbeats 1000000 in
set_option maxRecDepth 100000 in
theorem held_any (base : Nat) (v : Value) (n : Nat) (w : World) (h : w.ownsRow base 9 1 v n (marks n)) (hn : n ≤ 1048576) :
    Calls Tryz.prog 19 #[v, .int .i64 1] w fun e w' => e = .returned (.int .i64 (1 + n)) ∧ Below w.heap.size w w' := by
  obtain ⟨a, cap, hv, hcap, ha⟩ : ∃ a cap, v = .slice a n cap ∧ n ≤ cap ∧ (0 < n → ∃ g, a = some ⟨g, 0, none⟩) := by
    obtain ⟨_, ⟨rfl, hn0⟩ | ⟨g, cap, cur, rfl, hg, hh, hcap, _⟩⟩ := h
    · exact ⟨none, 0, by rw [hn0], by omega, fun h => by omega⟩
    · exact ⟨_, cap, rfl, hcap, fun _ => ⟨g, rfl⟩⟩
  subst hv
  go_enter Tryz.func19, Tryz.ntmps19
  go_wp2
  go_loopw [1, 5] (fun kv i wr => ∃ j : Nat, j ≤ n ∧ i = .int .i64 j ∧ kv = .int .i64 ((1 + j : Nat) : Int) ∧ Below w.heap.size w wr) (fun _ i _ => n - (intOf i).toNat)
  case atStart => exact ⟨0, Nat.zero_le _, rfl, rfl, Below.refl _ _⟩
  case round =>
    obtain ⟨j, hj, rfl, rfl, hB⟩ := hrel
    by_cases hlt : j < n
    · obtain ⟨g, rfl⟩ := ha (by omega)
      have hown := own_below h hB (Nat.le_refl _)
      have hgl := (hown.lt g rfl).2
      obtain ⟨q, hq⟩ : ∃ q : ByteArray, q = ⟨(mkT (1 + j)).toArray⟩ := ⟨_, rfl⟩
      have hcj : wr.cell? ⟨g, j, none⟩ = some (.string q) := by
        rw [hown.cellAt j (by omega), hq]; simp [marks, hlt]; rfl
      have hmt : ∀ w1, Calls Tryz.prog 42 #[.int .i64 ((1 + j : Nat) : Int)] w1 fun e w' => e = .returned (.string q) ∧ Below w1.heap.size w1 w' := fun w1 => by
        have := markText_any (1 + j) w1 (by omega) (by omega); rw [hq]; exact this
      have HMT : Hid (∀ w1, Calls Tryz.prog 42 #[.int .i64 ((1 + j : Nat) : Int)] w1 fun e w' => e = .returned (.string q) ∧ Below w1.heap.size w1 w') := hmt
      clear hmt hown hq
      go_wp2
      go_region_with (go_at_call 42; refine (HMT.out _).mono ?_; rintro e w1 ⟨rfl, hb⟩; have hc1 := (hb.cell (p := ⟨g, j, none⟩) hgl).trans hcj)
      all_goals
        have hb2 : Below w.heap.size w w1 := hB.drew.trans (hb.mono hB.size)
        go_wp2
        go_roundw
        case rel => exact ⟨j + 1, by omega, by go_num, by go_num, hb2⟩
        case measure => simp [intOf]; omega
    · have hjn : j = n := by omega
      subst hjn
      go_wp2
      go_ret
      exact ⟨ret_int (by omega), hB⟩

end Go.Proofs.YtimgafblpmjajabGreat
