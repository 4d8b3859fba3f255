
import Derived.Test.YtimgafblpmjajabGreatWem

namespace Go.Proofs.YtimgafblpmjajabGreat

open Go.RowKit

/-- A line as the table says, the i-th of n. -/
def okLn (n i : Nat) (l : Ln) : Bool :=
  if l.op = 1 ∨ l.op = 2 ∨ l.op = 6 then decide (l.name = []) && decide (l.skip = 0)
  else if l.op = 3 ∨ l.op = 4 ∨ l.op = 5 then decide (l.num = 0) && decide (l.name.length ≤ 120) && decide (l.skip = 0)
  else if l.op = 7 then decide (l.num = 0) && decide (l.name.length ≤ 120) && decide (0 ≤ l.skip) && decide (l.skip ≤ (n : Int) - 1 - i)
  else false

theorem str_empty (s : ByteArray) (l : List UInt8) (h : s = ⟨l.toArray⟩) : s.toList.isEmpty = decide (l = []) := by
  rw [h, Go.ByteArray.toList_eq]; cases l <;> simp

theorem toList_nil (s : ByteArray) : s.toList = [] → s.size = 0 := by
  rw [Go.ByteArray.toList_eq]; intro h; rw [size_data, h]; rfl

set_option maxHeartbeats 4000000 in
set_option maxRecDepth 100000 in
theorem l2line_any (n : List UInt8) (a : Option Addr) (N cap i : Nat) (l : Ln) (w : World) (hN : N ≤ 1048576) (hi : i ≤ 1048576) (hl : l.name.length ≤ 1048576) :
    Calls Tryz.prog 63 #[mdV n (.slice a N cap), lnV l, .int .i64 i] w fun e w' => e = .returned (.bool (okLn N i l)) ∧ Below w.heap.size w w' := by
  unfold mdV lnV
  obtain ⟨m, hm⟩ := strV_of n
  rw [hm]
  clear hm
  obtain ⟨s, hs⟩ : ∃ s : ByteArray, s = ⟨l.name.toArray⟩ := ⟨_, rfl⟩
  have hsv : strV l.name = .string s := by rw [hs]; rfl
  have hsz : s.size = l.name.length := by rw [hs]; simp [ByteArray.size]
  have hse := str_empty s l.name hs
  rw [hsv]
  obtain ⟨op, name, num, skip⟩ := l
  simp only [] at *
  clear hs hsv
  obtain ⟨r, hr⟩ : ∃ r, r = okLn N i ⟨op, name, num, skip⟩ := ⟨_, rfl⟩
  rw [← hr]
  by_cases h1 : op = 1
  · subst h1
    simp (config := { decide := true }) only [okLn, if_true, if_false, ← hse, ← hsz] at hr
    have HR : Hid (r = (s.toList.isEmpty && decide (skip = 0))) := hr
    clear hr hse hsz
    go_enter Tryz.func63, Tryz.ntmps63
    go_wp2
    all_goals go_ret
    all_goals refine ⟨ret_bool ?_, below_alloc2 _ _⟩
    all_goals rw [HR.out]
    all_goals (have hE := toList_nil s; simp_all)
    all_goals (first | omega | (rw [Bool.eq_iff_iff]; simp; done) | (rw [Bool.eq_iff_iff]; simp [show s.size ≤ 120 by omega]; done))
  by_cases h2 : op = 2
  · subst h2
    simp (config := { decide := true }) only [okLn, if_true, if_false, ← hse, ← hsz] at hr
    have HR : Hid (r = (s.toList.isEmpty && decide (skip = 0))) := hr
    clear hr hse hsz
    go_enter Tryz.func63, Tryz.ntmps63
    go_wp2
    all_goals go_ret
    all_goals refine ⟨ret_bool ?_, below_alloc2 _ _⟩
    all_goals rw [HR.out]
    all_goals (have hE := toList_nil s; simp_all)
    all_goals (first | omega | (rw [Bool.eq_iff_iff]; simp; done) | (rw [Bool.eq_iff_iff]; simp [show s.size ≤ 120 by omega]; done))
  by_cases h6 : op = 6
  · subst h6
    simp (config := { decide := true }) only [okLn, if_true, if_false, ← hse, ← hsz] at hr
    have HR : Hid (r = (s.toList.isEmpty && decide (skip = 0))) := hr
    clear hr hse hsz
    go_enter Tryz.func63, Tryz.ntmps63
    go_wp2
    all_goals go_ret
    all_goals refine ⟨ret_bool ?_, below_alloc2 _ _⟩
    all_goals rw [HR.out]
    all_goals (have hE := toList_nil s; simp_all)
    all_goals (first | omega | (rw [Bool.eq_iff_iff]; simp; done) | (rw [Bool.eq_iff_iff]; simp [show s.size ≤ 120 by omega]; done))
  by_cases h3 : op = 3
  · subst h3
    simp (config := { decide := true }) only [okLn, if_true, if_false, ← hse, ← hsz] at hr
    have HR : Hid (r = (decide (num = 0) && decide (s.size ≤ 120) && decide (skip = 0))) := hr
    clear hr hse hsz
    go_enter Tryz.func63, Tryz.ntmps63
    go_wp2
    all_goals go_ret
    all_goals refine ⟨ret_bool ?_, below_alloc2 _ _⟩
    all_goals rw [HR.out]
    all_goals (have hE := toList_nil s; simp_all)
    all_goals (first | omega | (rw [Bool.eq_iff_iff]; simp; done) | (rw [Bool.eq_iff_iff]; simp [show s.size ≤ 120 by omega]; done))
  by_cases h4 : op = 4
  · subst h4
    simp (config := { decide := true }) only [okLn, if_true, if_false, ← hse, ← hsz] at hr
    have HR : Hid (r = (decide (num = 0) && decide (s.size ≤ 120) && decide (skip = 0))) := hr
    clear hr hse hsz
    go_enter Tryz.func63, Tryz.ntmps63
    go_wp2
    all_goals go_ret
    all_goals refine ⟨ret_bool ?_, below_alloc2 _ _⟩
    all_goals rw [HR.out]
    all_goals (have hE := toList_nil s; simp_all)
    all_goals (first | omega | (rw [Bool.eq_iff_iff]; simp; done) | (rw [Bool.eq_iff_iff]; simp [show s.size ≤ 120 by omega]; done))
  by_cases h5 : op = 5
  · subst h5
    simp (config := { decide := true }) only [okLn, if_true, if_false, ← hse, ← hsz] at hr
    have HR : Hid (r = (decide (num = 0) && decide (s.size ≤ 120) && decide (skip = 0))) := hr
    clear hr hse hsz
    go_enter Tryz.func63, Tryz.ntmps63
    go_wp2
    all_goals go_ret
    all_goals refine ⟨ret_bool ?_, below_alloc2 _ _⟩
    all_goals rw [HR.out]
    all_goals (have hE := toList_nil s; simp_all)
    all_goals (first | omega | (rw [Bool.eq_iff_iff]; simp; done) | (rw [Bool.eq_iff_iff]; simp [show s.size ≤ 120 by omega]; done))
  by_cases h7 : op = 7
  · subst h7
    simp (config := { decide := true }) only [okLn, if_true, if_false, ← hse, ← hsz] at hr
    have HR : Hid (r = (decide (num = 0) && decide (s.size ≤ 120) && decide (0 ≤ skip) && decide (skip ≤ (N : Int) - 1 - i))) := hr
    clear hr hse hsz
    go_enter Tryz.func63, Tryz.ntmps63
    go_wp2
    all_goals go_ret
    all_goals refine ⟨ret_bool ?_, below_alloc2 _ _⟩
    all_goals rw [HR.out]
    all_goals (have hE := toList_nil s; simp_all)
    all_goals (first | omega | (rw [Bool.eq_iff_iff]; simp; done) | (rw [Bool.eq_iff_iff]; simp [show s.size ≤ 120 by omega]; done))
  have hrf : r = false := by rw [hr, okLn, if_neg (by simp only []; omega), if_neg (by simp only []; omega), if_neg (by simp only []; omega)]
  subst hrf
  have n1 : (op == 1) = false := by simpa using h1
  have n2 : (op == 2) = false := by simpa using h2
  have n3 : (op == 3) = false := by simpa using h3
  have n4 : (op == 4) = false := by simpa using h4
  have n5 : (op == 5) = false := by simpa using h5
  have n6 : (op == 6) = false := by simpa using h6
  have n7 : (op == 7) = false := by simpa using h7
  clear hr hse hsz
  by_cases hlo : op < 1
  · clear h1 h2 h3 h4 h5 h6 h7
    go_enter Tryz.func63, Tryz.ntmps63
    go_wp2
    all_goals go_ret
    all_goals exact ⟨rfl, below_alloc2 _ _⟩
  · have hhi : 7 < op := by omega
    clear h1 h2 h3 h4 h5 h6 h7
    go_enter Tryz.func63, Tryz.ntmps63
    go_wp2
    all_goals go_ret
    all_goals exact ⟨rfl, below_alloc2 _ _⟩

end Go.Proofs.YtimgafblpmjajabGreat
