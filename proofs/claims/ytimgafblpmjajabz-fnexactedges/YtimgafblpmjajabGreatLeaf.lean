
import Derived.Test.YtimgafblpmjajabGreatChecked

import Derived.Test.YtimgafblpmjajabGreatPlain

import Derived.WalkKit

import Derived.Deep.QuietTactic

import Derived.BigQuiet

namespace Go.Proofs.YtimgafblpmjajabGreat

open Go.RowKit

theorem okB_int (c : UInt8) : Pl.okB c = ((((decide ((97 : Int) ≤ (c.toNat : Int)) && decide ((c.toNat : Int) ≤ 122)) || (decide ((48 : Int) ≤ (c.toNat : Int)) && decide ((c.toNat : Int) ≤ 57))) || ((c.toNat : Int) == 95)) || ((c.toNat : Int) == 45)) := by
  unfold Pl.okB
  have e1 : (97 ≤ c) ↔ ((97 : Int) ≤ (c.toNat : Int)) := by rw [UInt8.le_iff_toNat_le]; simp; omega
  have e2 : (c ≤ 122) ↔ ((c.toNat : Int) ≤ 122) := by rw [UInt8.le_iff_toNat_le]; simp; omega
  have e3 : (48 ≤ c) ↔ ((48 : Int) ≤ (c.toNat : Int)) := by rw [UInt8.le_iff_toNat_le]; simp; omega
  have e4 : (c ≤ 57) ↔ ((c.toNat : Int) ≤ 57) := by rw [UInt8.le_iff_toNat_le]; simp; omega
  have e5 : (c == 95) = ((c.toNat : Int) == 95) := by
    rw [Bool.eq_iff_iff, beq_iff_eq, beq_iff_eq, ← UInt8.toNat_inj]; simp; omega
  have e6 : (c == 45) = ((c.toNat : Int) == 45) := by
    rw [Bool.eq_iff_iff, beq_iff_eq, beq_iff_eq, ← UInt8.toNat_inj]; simp; omega
  rw [e5, e6]
  simp only [e1, e2, e3, e4]

theorem ret_bool {a b : Bool} (h : a = b) : Ending.returned (.bool a) = .returned (.bool b) := by rw [h]
theorem ret_int {k : IntKind} {a b : Int} (h : a = b) : Ending.returned (.int k a) = .returned (.int k b) := by rw [h]

set_option maxHeartbeats 400000 in
set_option maxRecDepth 100000 in
theorem isPlainByte_any (c : UInt8) (w : World) :
    Calls Tryz.prog 104 #[.int .u8 (c.toNat : Int)] w fun e w' => e = .returned (.bool (Pl.okB c)) ∧ w' = w := by
  have h256 : (c.toNat : Int) < 256 := by have := c.toNat_lt; omega
  rw [okB_int]
  go_enter Tryz.func104, Tryz.ntmps104
  go_wp2
  all_goals go_ret
  all_goals refine ⟨ret_bool ?_, rfl⟩
  all_goals (first | rfl | (rw [Bool.eq_iff_iff]; simp; omega))

set_option maxHeartbeats 400000 in
set_option maxRecDepth 100000 in
theorem l1byte_any (c : UInt8) (w : World) :
    Calls Tryz.prog 107 #[.int .u8 (c.toNat : Int)] w fun e w' => e = .returned (.bool (Pl.okB c)) ∧ w' = w := by
  have h256 : (c.toNat : Int) < 256 := by have := c.toNat_lt; omega
  rw [okB_int]
  go_enter Tryz.func107, Tryz.ntmps107
  go_wp2
  all_goals go_ret
  all_goals refine ⟨ret_bool ?_, rfl⟩
  all_goals (first | rfl | (rw [Bool.eq_iff_iff]; simp; omega))

theorem take_snoc (s : ByteArray) (k : Nat) (h : k < s.size) : s.data.toList.take (k + 1) = s.data.toList.take k ++ [s[k]] := by
  rw [List.take_succ_eq_append_getElem (by simpa using h)]; rfl

theorem plain_end (s : ByteArray) (k : Nat) (hk : ¬ k < s.size) (h : (s.data.toList.take k).all Pl.okB = true) : (!s.toList.isEmpty) = Pl.plainP s.data.toList := by
  rw [List.take_of_length_le (by simp; omega)] at h
  unfold Pl.plainP
  rw [h, Bool.and_true, Go.ByteArray.toList_eq]

set_option maxHeartbeats 400000 in
set_option maxRecDepth 100000 in
theorem isPlain_any (s : ByteArray) (w : World) (hs : s.size ≤ maxLen) :
    Calls Tryz.prog 93 #[.string s] w fun e w' => e = .returned (.bool (Pl.plainP s.data.toList)) ∧ w' = w := by
  unfold maxLen at hs
  go_enter Tryz.func93, Tryz.ntmps93
  go_wp2
  go_loop [6] (fun i => ∃ k : Nat, k ≤ s.size ∧ i = .int .i64 k ∧ (s.data.toList.take k).all Pl.okB = true) (fun i => s.size - (intOf i).toNat)
  case atStart => exact ⟨0, Nat.zero_le _, rfl, rfl⟩
  case round =>
    obtain ⟨k, hk, rfl, hall⟩ := hrel
    by_cases hlt : k < s.size
    · cases hok : Pl.okB s[k] with
      | true =>
        have HA : Hid ((s.data.toList.take (k + 1)).all Pl.okB = true) := by unfold Hid; rw [take_snoc s k hlt, List.all_append, hall]; simp [hok]
        clear hall
        go_wp2_with (go_at_call 104; refine (isPlainByte_any _ _).mono ?_; rintro e w' ⟨rfl, rfl⟩)
        go_round
        case rel => exact ⟨k + 1, by omega, by go_num, HA.out⟩
        case measure => simp [intOf]; omega
      | false =>
        have HA : Hid (Pl.plainP s.data.toList = false) := by
          unfold Hid Pl.plainP
          have hm : s[k] ∈ s.data.toList := by
            show s.data[k] ∈ s.data.toList
            simp
          rw [Bool.and_eq_false_iff]; right
          rw [List.all_eq_false]; exact ⟨s[k], hm, by simp [hok]⟩
        clear hall
        go_wp2_with (go_at_call 104; refine (isPlainByte_any _ _).mono ?_; rintro e w' ⟨rfl, rfl⟩)
        go_ret
        exact ⟨ret_bool HA.out.symm, rfl⟩
    · have HE := plain_end s k hlt hall
      have HE' : Hid ((!s.toList.isEmpty) = Pl.plainP s.data.toList) := HE
      clear HE hall
      go_wp2
      go_ret
      exact ⟨ret_bool HE'.out, rfl⟩

end Go.Proofs.YtimgafblpmjajabGreat
