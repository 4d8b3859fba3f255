
import Derived.Test.YtimgafblpmjajabGreatWia

namespace Go.Proofs.YtimgafblpmjajabGreat

open Go.RowKit

/-- A line as a step. -/
def stepV (op : Int) (s : ByteArray) (num skip : Int) : Value :=
  if op = 1 then .iface 133 (.agg #[.int .i64 num]) else if op = 2 then .iface 134 (.agg #[.int .i64 num])
  else if op = 3 then .iface 130 (.agg #[.string s]) else if op = 4 then .iface 131 (.agg #[.string s]) else if op = 5 then .iface 135 (.agg #[.string s])
  else if op = 6 then .iface 136 (.agg #[.int .i64 num]) else if op = 7 then .iface 138 (.agg #[.string s, .int .i64 skip]) else .nilIface

set_option maxRecDepth 100000 in
set_option maxHeartbeats 4000000 in
theorem stepOf_any (op num skip : Int) (s : ByteArray) (w : World) :
    Calls Tryz.prog 53 #[.agg #[.int .i64 op, .string s, .int .i64 num, .int .i64 skip]] w fun e w' => e = .returned (stepV op s num skip) ∧ Below w.heap.size w w' := by
  unfold stepV
  by_cases h1 : op = 1
  · subst h1
    rw [if_pos rfl]
    go_enter Tryz.func53, Tryz.ntmps53
    go_wp2
    go_ret
    exact ⟨rfl, (Below.refl _ _).alloc (Nat.le_refl _) _⟩
  rw [if_neg h1]
  by_cases h2 : op = 2
  · subst h2
    rw [if_pos rfl]
    go_enter Tryz.func53, Tryz.ntmps53
    go_wp2
    go_ret
    exact ⟨rfl, (Below.refl _ _).alloc (Nat.le_refl _) _⟩
  rw [if_neg h2]
  by_cases h3 : op = 3
  · subst h3
    rw [if_pos rfl]
    go_enter Tryz.func53, Tryz.ntmps53
    go_wp2
    go_ret
    exact ⟨rfl, (Below.refl _ _).alloc (Nat.le_refl _) _⟩
  rw [if_neg h3]
  by_cases h4 : op = 4
  · subst h4
    rw [if_pos rfl]
    go_enter Tryz.func53, Tryz.ntmps53
    go_wp2
    go_ret
    exact ⟨rfl, (Below.refl _ _).alloc (Nat.le_refl _) _⟩
  rw [if_neg h4]
  by_cases h5 : op = 5
  · subst h5
    rw [if_pos rfl]
    go_enter Tryz.func53, Tryz.ntmps53
    go_wp2
    go_ret
    exact ⟨rfl, (Below.refl _ _).alloc (Nat.le_refl _) _⟩
  rw [if_neg h5]
  by_cases h6 : op = 6
  · subst h6
    rw [if_pos rfl]
    go_enter Tryz.func53, Tryz.ntmps53
    go_wp2
    go_ret
    exact ⟨rfl, (Below.refl _ _).alloc (Nat.le_refl _) _⟩
  rw [if_neg h6]
  by_cases h7 : op = 7
  · subst h7
    rw [if_pos rfl]
    go_enter Tryz.func53, Tryz.ntmps53
    go_wp2
    go_ret
    exact ⟨rfl, (Below.refl _ _).alloc (Nat.le_refl _) _⟩
  rw [if_neg h7]
  have n1 : (op == 1) = false := by simpa using h1
  have n2 : (op == 2) = false := by simpa using h2
  have n3 : (op == 3) = false := by simpa using h3
  have n4 : (op == 4) = false := by simpa using h4
  have n5 : (op == 5) = false := by simpa using h5
  have n6 : (op == 6) = false := by simpa using h6
  have n7 : (op == 7) = false := by simpa using h7
  go_enter Tryz.func53, Tryz.ntmps53
  go_wp2
  go_ret
  exact ⟨rfl, (Below.refl _ _).alloc (Nat.le_refl _) _⟩

set_option maxRecDepth 100000 in
set_option maxHeartbeats 4000000 in
theorem isShort_any (s : ByteArray) (w : World) (hs : s.size ≤ 1048576) :
    Calls Tryz.prog 100 #[.string s] w fun e w' => e = .returned (.bool (decide (s.size ≤ 120))) ∧ w' = w := by
  go_enter Tryz.func100, Tryz.ntmps100
  go_wp2
  go_ret
  exact ⟨ret_bool (by rw [Bool.eq_iff_iff]; simp; omega), rfl⟩

/-- Whether a step keeps within its limits. -/
def fitB (op : Int) (s : ByteArray) (skip b : Int) : Bool :=
  if op = 1 ∨ op = 2 ∨ op = 6 then true
  else if op = 3 ∨ op = 4 ∨ op = 5 then decide (s.size ≤ 120)
  else if op = 7 then decide (s.size ≤ 120) && (decide (0 ≤ skip) && decide (skip ≤ b)) else false

theorem as115_115 (v : Value) (W : World) : (Instr.typeAssert (.iface 133 v) 98 133 true).run Tryz.prog W = .ok (.tuple #[v, .bool true]) W := by kernel_rfl
theorem as115_116 (v : Value) (W : World) : (Instr.typeAssert (.iface 133 v) 98 134 true).run Tryz.prog W = .ok (.tuple #[.agg #[.int .i64 0], .bool false]) W := by kernel_rfl
theorem as115_121 (v : Value) (W : World) : (Instr.typeAssert (.iface 133 v) 98 136 true).run Tryz.prog W = .ok (.tuple #[.agg #[.int .i64 0], .bool false]) W := by kernel_rfl
theorem as116_115 (v : Value) (W : World) : (Instr.typeAssert (.iface 134 v) 98 133 true).run Tryz.prog W = .ok (.tuple #[.agg #[.int .i64 0], .bool false]) W := by kernel_rfl
theorem as116_116 (v : Value) (W : World) : (Instr.typeAssert (.iface 134 v) 98 134 true).run Tryz.prog W = .ok (.tuple #[v, .bool true]) W := by kernel_rfl
theorem as116_121 (v : Value) (W : World) : (Instr.typeAssert (.iface 134 v) 98 136 true).run Tryz.prog W = .ok (.tuple #[.agg #[.int .i64 0], .bool false]) W := by kernel_rfl
theorem as121_115 (v : Value) (W : World) : (Instr.typeAssert (.iface 136 v) 98 133 true).run Tryz.prog W = .ok (.tuple #[.agg #[.int .i64 0], .bool false]) W := by kernel_rfl
theorem as121_116 (v : Value) (W : World) : (Instr.typeAssert (.iface 136 v) 98 134 true).run Tryz.prog W = .ok (.tuple #[.agg #[.int .i64 0], .bool false]) W := by kernel_rfl
theorem as121_121 (v : Value) (W : World) : (Instr.typeAssert (.iface 136 v) 98 136 true).run Tryz.prog W = .ok (.tuple #[v, .bool true]) W := by kernel_rfl
theorem as118_115 (v : Value) (W : World) : (Instr.typeAssert (.iface 130 v) 98 133 true).run Tryz.prog W = .ok (.tuple #[.agg #[.int .i64 0], .bool false]) W := by kernel_rfl
theorem as118_116 (v : Value) (W : World) : (Instr.typeAssert (.iface 130 v) 98 134 true).run Tryz.prog W = .ok (.tuple #[.agg #[.int .i64 0], .bool false]) W := by kernel_rfl
theorem as118_121 (v : Value) (W : World) : (Instr.typeAssert (.iface 130 v) 98 136 true).run Tryz.prog W = .ok (.tuple #[.agg #[.int .i64 0], .bool false]) W := by kernel_rfl
theorem as118_118 (v : Value) (W : World) : (Instr.typeAssert (.iface 130 v) 98 130 true).run Tryz.prog W = .ok (.tuple #[v, .bool true]) W := by kernel_rfl
theorem as119_115 (v : Value) (W : World) : (Instr.typeAssert (.iface 131 v) 98 133 true).run Tryz.prog W = .ok (.tuple #[.agg #[.int .i64 0], .bool false]) W := by kernel_rfl
theorem as119_116 (v : Value) (W : World) : (Instr.typeAssert (.iface 131 v) 98 134 true).run Tryz.prog W = .ok (.tuple #[.agg #[.int .i64 0], .bool false]) W := by kernel_rfl
theorem as119_121 (v : Value) (W : World) : (Instr.typeAssert (.iface 131 v) 98 136 true).run Tryz.prog W = .ok (.tuple #[.agg #[.int .i64 0], .bool false]) W := by kernel_rfl
theorem as119_118 (v : Value) (W : World) : (Instr.typeAssert (.iface 131 v) 98 130 true).run Tryz.prog W = .ok (.tuple #[.agg #[.string ⟨#[]⟩], .bool false]) W := by kernel_rfl
theorem as119_119 (v : Value) (W : World) : (Instr.typeAssert (.iface 131 v) 98 131 true).run Tryz.prog W = .ok (.tuple #[v, .bool true]) W := by kernel_rfl
theorem as120_115 (v : Value) (W : World) : (Instr.typeAssert (.iface 135 v) 98 133 true).run Tryz.prog W = .ok (.tuple #[.agg #[.int .i64 0], .bool false]) W := by kernel_rfl
theorem as120_116 (v : Value) (W : World) : (Instr.typeAssert (.iface 135 v) 98 134 true).run Tryz.prog W = .ok (.tuple #[.agg #[.int .i64 0], .bool false]) W := by kernel_rfl
theorem as120_121 (v : Value) (W : World) : (Instr.typeAssert (.iface 135 v) 98 136 true).run Tryz.prog W = .ok (.tuple #[.agg #[.int .i64 0], .bool false]) W := by kernel_rfl
theorem as120_118 (v : Value) (W : World) : (Instr.typeAssert (.iface 135 v) 98 130 true).run Tryz.prog W = .ok (.tuple #[.agg #[.string ⟨#[]⟩], .bool false]) W := by kernel_rfl
theorem as120_119 (v : Value) (W : World) : (Instr.typeAssert (.iface 135 v) 98 131 true).run Tryz.prog W = .ok (.tuple #[.agg #[.string ⟨#[]⟩], .bool false]) W := by kernel_rfl
theorem as120_120 (v : Value) (W : World) : (Instr.typeAssert (.iface 135 v) 98 135 true).run Tryz.prog W = .ok (.tuple #[v, .bool true]) W := by kernel_rfl
theorem as123_115 (v : Value) (W : World) : (Instr.typeAssert (.iface 138 v) 98 133 true).run Tryz.prog W = .ok (.tuple #[.agg #[.int .i64 0], .bool false]) W := by kernel_rfl
theorem as123_116 (v : Value) (W : World) : (Instr.typeAssert (.iface 138 v) 98 134 true).run Tryz.prog W = .ok (.tuple #[.agg #[.int .i64 0], .bool false]) W := by kernel_rfl
theorem as123_121 (v : Value) (W : World) : (Instr.typeAssert (.iface 138 v) 98 136 true).run Tryz.prog W = .ok (.tuple #[.agg #[.int .i64 0], .bool false]) W := by kernel_rfl
theorem as123_118 (v : Value) (W : World) : (Instr.typeAssert (.iface 138 v) 98 130 true).run Tryz.prog W = .ok (.tuple #[.agg #[.string ⟨#[]⟩], .bool false]) W := by kernel_rfl
theorem as123_119 (v : Value) (W : World) : (Instr.typeAssert (.iface 138 v) 98 131 true).run Tryz.prog W = .ok (.tuple #[.agg #[.string ⟨#[]⟩], .bool false]) W := by kernel_rfl
theorem as123_120 (v : Value) (W : World) : (Instr.typeAssert (.iface 138 v) 98 135 true).run Tryz.prog W = .ok (.tuple #[.agg #[.string ⟨#[]⟩], .bool false]) W := by kernel_rfl
theorem as123_123 (v : Value) (W : World) : (Instr.typeAssert (.iface 138 v) 98 138 true).run Tryz.prog W = .ok (.tuple #[v, .bool true]) W := by kernel_rfl
theorem as0_115 (W : World) : (Instr.typeAssert .nilIface 98 133 true).run Tryz.prog W = .ok (.tuple #[.agg #[.int .i64 0], .bool false]) W := by kernel_rfl
theorem as0_116 (W : World) : (Instr.typeAssert .nilIface 98 134 true).run Tryz.prog W = .ok (.tuple #[.agg #[.int .i64 0], .bool false]) W := by kernel_rfl
theorem as0_121 (W : World) : (Instr.typeAssert .nilIface 98 136 true).run Tryz.prog W = .ok (.tuple #[.agg #[.int .i64 0], .bool false]) W := by kernel_rfl
theorem as0_118 (W : World) : (Instr.typeAssert .nilIface 98 130 true).run Tryz.prog W = .ok (.tuple #[.agg #[.string ⟨#[]⟩], .bool false]) W := by kernel_rfl
theorem as0_119 (W : World) : (Instr.typeAssert .nilIface 98 131 true).run Tryz.prog W = .ok (.tuple #[.agg #[.string ⟨#[]⟩], .bool false]) W := by kernel_rfl
theorem as0_120 (W : World) : (Instr.typeAssert .nilIface 98 135 true).run Tryz.prog W = .ok (.tuple #[.agg #[.string ⟨#[]⟩], .bool false]) W := by kernel_rfl
theorem as0_123 (W : World) : (Instr.typeAssert .nilIface 98 138 true).run Tryz.prog W = .ok (.tuple #[.agg #[.string ⟨#[]⟩, .int .i64 0], .bool false]) W := by kernel_rfl

set_option maxRecDepth 100000 in
set_option maxHeartbeats 4000000 in
theorem fits_any (op num skip b : Int) (s : ByteArray) (w : World) (hs : s.size ≤ 1048576) :
    Calls Tryz.prog 88 #[stepV op s num skip, .int .i64 b] w fun e w' => e = .returned (.bool (fitB op s skip b)) ∧ Below w.heap.size w w' := by
  have HSH : Hid (∀ W, Calls Tryz.prog 100 #[.string s] W fun e w' => e = .returned (.bool (decide (s.size ≤ 120))) ∧ w' = W) := fun W => isShort_any s W hs
  obtain ⟨r, hr⟩ : ∃ r, r = fitB op s skip b := ⟨_, rfl⟩
  rw [← hr]
  clear hs
  by_cases h1 : op = 1
  · subst h1
    have hrt : r = true := hr
    subst hrt
    simp (config := { decide := true }) only [stepV, if_true, if_false]
    clear hr
    have t115 := as115_115
    have t116 := as115_116
    have t121 := as115_121
    go_enter Tryz.func88, Tryz.ntmps88
    go_wp2
    go_ret
    exact ⟨rfl, Below.refl _ _⟩
  by_cases h2 : op = 2
  · subst h2
    have hrt : r = true := hr
    subst hrt
    simp (config := { decide := true }) only [stepV, if_true, if_false]
    clear hr
    have t115 := as116_115
    have t116 := as116_116
    have t121 := as116_121
    go_enter Tryz.func88, Tryz.ntmps88
    go_wp2
    go_ret
    exact ⟨rfl, Below.refl _ _⟩
  by_cases h6 : op = 6
  · subst h6
    have hrt : r = true := hr
    subst hrt
    simp (config := { decide := true }) only [stepV, if_true, if_false]
    clear hr
    have t115 := as121_115
    have t116 := as121_116
    have t121 := as121_121
    go_enter Tryz.func88, Tryz.ntmps88
    go_wp2
    go_ret
    exact ⟨rfl, Below.refl _ _⟩
  by_cases h3 : op = 3
  · subst h3
    have HR : Hid (r = decide (s.size ≤ 120)) := hr
    simp (config := { decide := true }) only [stepV, if_true, if_false]
    clear hr
    have t115 := as118_115
    have t116 := as118_116
    have t121 := as118_121
    have t118 := as118_118
    go_enter Tryz.func88, Tryz.ntmps88
    go_wp2_with (go_at_call 100; refine (HSH.out _).mono ?_; rintro e w1 ⟨rfl, rfl⟩)
    all_goals go_ret
    all_goals exact ⟨ret_bool HR.out.symm, (Below.refl _ _).alloc (Nat.le_refl _) _⟩
  by_cases h4 : op = 4
  · subst h4
    have HR : Hid (r = decide (s.size ≤ 120)) := hr
    simp (config := { decide := true }) only [stepV, if_true, if_false]
    clear hr
    have t115 := as119_115
    have t116 := as119_116
    have t121 := as119_121
    have t118 := as119_118
    have t119 := as119_119
    go_enter Tryz.func88, Tryz.ntmps88
    go_wp2_with (go_at_call 100; refine (HSH.out _).mono ?_; rintro e w1 ⟨rfl, rfl⟩)
    all_goals go_ret
    all_goals exact ⟨ret_bool HR.out.symm, (Below.refl _ _).alloc (Nat.le_refl _) _⟩
  by_cases h5 : op = 5
  · subst h5
    have HR : Hid (r = decide (s.size ≤ 120)) := hr
    simp (config := { decide := true }) only [stepV, if_true, if_false]
    clear hr
    have t115 := as120_115
    have t116 := as120_116
    have t121 := as120_121
    have t118 := as120_118
    have t119 := as120_119
    have t120 := as120_120
    go_enter Tryz.func88, Tryz.ntmps88
    go_wp2_with (go_at_call 100; refine (HSH.out _).mono ?_; rintro e w1 ⟨rfl, rfl⟩)
    all_goals go_ret
    all_goals exact ⟨ret_bool HR.out.symm, (Below.refl _ _).alloc (Nat.le_refl _) _⟩
  by_cases h7 : op = 7
  · subst h7
    have HR : Hid (r = (decide (s.size ≤ 120) && (decide (0 ≤ skip) && decide (skip ≤ b)))) := hr
    simp (config := { decide := true }) only [stepV, if_true, if_false]
    clear hr
    have t115 := as123_115
    have t116 := as123_116
    have t121 := as123_121
    have t118 := as123_118
    have t119 := as123_119
    have t120 := as123_120
    have t123 := as123_123
    go_enter Tryz.func88, Tryz.ntmps88
    go_wp2_with (go_at_call 100; refine (HSH.out _).mono ?_; rintro e w1 ⟨rfl, rfl⟩)
    all_goals go_ret
    all_goals refine ⟨ret_bool ?_, (Below.refl _ _).alloc (Nat.le_refl _) _⟩
    all_goals rw [HR.out]
    all_goals (simp_all)
    all_goals (intros; omega)
  have hrf : r = false := by rw [hr, fitB, if_neg (by omega), if_neg (by omega), if_neg (by omega)]
  subst hrf
  rw [stepV, if_neg h1, if_neg h2, if_neg h3, if_neg h4, if_neg h5, if_neg h6, if_neg h7]
  clear hr
  have t115 := as0_115
  have t116 := as0_116
  have t121 := as0_121
  have t118 := as0_118
  have t119 := as0_119
  have t120 := as0_120
  have t123 := as0_123
  go_enter Tryz.func88, Tryz.ntmps88
  go_wp2
  go_ret
  exact ⟨rfl, Below.refl _ _⟩

set_option maxRecDepth 100000 in
set_option maxHeartbeats 4000000 in
theorem line116_any (num : Int) (w : World) :
    Calls Tryz.prog 140 #[.agg #[.int .i64 num]] w fun e w' => e = .returned (.agg #[.int .i64 1, .string ⟨#[]⟩, .int .i64 num, .int .i64 0]) ∧ Below w.heap.size w w' := by
  go_enter Tryz.func140, Tryz.ntmps140
  go_wp2
  exact bodyPost_ret (v := .agg #[.int .i64 1, .string ⟨#[]⟩, .int .i64 num, .int .i64 0]) (by simp [results, Tryz.results140, go_sem]) rfl ⟨rfl, below_alloc2 _ _⟩

set_option maxRecDepth 100000 in
set_option maxHeartbeats 4000000 in
theorem line117_any (num : Int) (w : World) :
    Calls Tryz.prog 141 #[.agg #[.int .i64 num]] w fun e w' => e = .returned (.agg #[.int .i64 2, .string ⟨#[]⟩, .int .i64 num, .int .i64 0]) ∧ Below w.heap.size w w' := by
  go_enter Tryz.func141, Tryz.ntmps141
  go_wp2
  exact bodyPost_ret (v := .agg #[.int .i64 2, .string ⟨#[]⟩, .int .i64 num, .int .i64 0]) (by simp [results, Tryz.results141, go_sem]) rfl ⟨rfl, below_alloc2 _ _⟩

set_option maxRecDepth 100000 in
set_option maxHeartbeats 4000000 in
theorem line121_any (num : Int) (w : World) :
    Calls Tryz.prog 143 #[.agg #[.int .i64 num]] w fun e w' => e = .returned (.agg #[.int .i64 6, .string ⟨#[]⟩, .int .i64 num, .int .i64 0]) ∧ Below w.heap.size w w' := by
  go_enter Tryz.func143, Tryz.ntmps143
  go_wp2
  exact bodyPost_ret (v := .agg #[.int .i64 6, .string ⟨#[]⟩, .int .i64 num, .int .i64 0]) (by simp [results, Tryz.results143, go_sem]) rfl ⟨rfl, below_alloc2 _ _⟩

set_option maxRecDepth 100000 in
set_option maxHeartbeats 4000000 in
theorem line118_any (s : ByteArray) (w : World) :
    Calls Tryz.prog 138 #[.agg #[.string s]] w fun e w' => e = .returned (.agg #[.int .i64 3, .string s, .int .i64 0, .int .i64 0]) ∧ Below w.heap.size w w' := by
  go_enter Tryz.func138, Tryz.ntmps138
  go_wp2
  exact bodyPost_ret (v := .agg #[.int .i64 3, .string s, .int .i64 0, .int .i64 0]) (by simp [results, Tryz.results138, go_sem]) rfl ⟨rfl, below_alloc2 _ _⟩

set_option maxRecDepth 100000 in
set_option maxHeartbeats 4000000 in
theorem line119_any (s : ByteArray) (w : World) :
    Calls Tryz.prog 139 #[.agg #[.string s]] w fun e w' => e = .returned (.agg #[.int .i64 4, .string s, .int .i64 0, .int .i64 0]) ∧ Below w.heap.size w w' := by
  go_enter Tryz.func139, Tryz.ntmps139
  go_wp2
  exact bodyPost_ret (v := .agg #[.int .i64 4, .string s, .int .i64 0, .int .i64 0]) (by simp [results, Tryz.results139, go_sem]) rfl ⟨rfl, below_alloc2 _ _⟩

set_option maxRecDepth 100000 in
set_option maxHeartbeats 4000000 in
theorem line120_any (s : ByteArray) (w : World) :
    Calls Tryz.prog 142 #[.agg #[.string s]] w fun e w' => e = .returned (.agg #[.int .i64 5, .string s, .int .i64 0, .int .i64 0]) ∧ Below w.heap.size w w' := by
  go_enter Tryz.func142, Tryz.ntmps142
  go_wp2
  exact bodyPost_ret (v := .agg #[.int .i64 5, .string s, .int .i64 0, .int .i64 0]) (by simp [results, Tryz.results142, go_sem]) rfl ⟨rfl, below_alloc2 _ _⟩

set_option maxRecDepth 100000 in
set_option maxHeartbeats 4000000 in
theorem line122_any (s : ByteArray) (skip : Int) (w : World) :
    Calls Tryz.prog 144 #[.agg #[.string s, .int .i64 skip]] w fun e w' => e = .returned (.agg #[.int .i64 7, .string s, .int .i64 0, .int .i64 skip]) ∧ Below w.heap.size w w' := by
  go_enter Tryz.func144, Tryz.ntmps144
  go_wp2
  exact bodyPost_ret (v := .agg #[.int .i64 7, .string s, .int .i64 0, .int .i64 skip]) (by simp [results, Tryz.results144, go_sem]) rfl ⟨rfl, below_alloc2 _ _⟩

end Go.Proofs.YtimgafblpmjajabGreat
