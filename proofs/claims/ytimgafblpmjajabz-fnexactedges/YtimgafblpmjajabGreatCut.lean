
import Derived.Test.YtimgafblpmjajabGreatJoined

import Derived.Test.YtimgafblpmjajabGreatShelf

namespace Go.Proofs.YtimgafblpmjajabGreat

open Go.RowKit

/-- The first slash, if there is one. -/
theorem index47 (l : List UInt8) : (Lib.indexByte l 47 = -1 ∧ ∀ cur, Pl.splitTo cur l = [cur ++ l]) ∨
    ∃ i : Nat, Lib.indexByte l 47 = (i : Int) ∧ i < l.length ∧ ∀ cur, Pl.splitTo cur l = (cur ++ l.take i) :: Pl.split (l.drop (i + 1)) := by
  induction l with
  | nil => left; exact ⟨rfl, fun cur => by simp [Pl.splitTo]⟩
  | cons c r ih =>
    by_cases hc : c = 47
    · right
      refine ⟨0, ?_, by simp, fun cur => ?_⟩
      · simp [Lib.indexByte, hc]
      · simp [Pl.splitTo, hc, Pl.split]
    · have hc' : (c == 47) = false := by simpa using hc
      rcases ih with ⟨h1, h2⟩ | ⟨i, h1, h2, h3⟩
      · left
        refine ⟨?_, fun cur => ?_⟩
        · simp [Lib.indexByte, hc', h1]
        · simp only [Pl.splitTo, hc, if_false]; rw [h2]; simp
      · right
        refine ⟨i + 1, ?_, by simpa using h2, fun cur => ?_⟩
        · have hne : ((i : Int) == -1) = false := by rw [beq_eq_false_iff_ne]; omega
          simp only [Lib.indexByte, hc', h1, hne]; simp
        · simp only [Pl.splitTo, hc, if_false]; rw [h3]; simp

set_option maxHeartbeats 1000000 in
set_option maxRecDepth 100000 in
theorem cut0_miss (s : ByteArray) (w : World) (h : Lib.indexByte s.data.toList 47 = -1) :
    Calls Tryz.prog 101 #[.string s, .string ⟨#[47]⟩] w fun e w' => e = .returned (.tuple #[.string s, .string ⟨#[]⟩, .bool false]) ∧ w' = w := by
  go_enter Tryz.func101, Tryz.ntmps101
  go_wp2_with (go_at_call 108; refine (Tryz.stringslite_Index_one _ _ _).mono ?_; rintro e w' ⟨rfl, rfl⟩; rw [h])
  go_ret3
  exact ⟨rfl, rfl⟩

set_option maxHeartbeats 1000000 in
set_option maxRecDepth 100000 in
theorem cut_miss (s : ByteArray) (w : World) (h : Lib.indexByte s.data.toList 47 = -1) :
    Calls Tryz.prog 90 #[.string s, .string ⟨#[47]⟩] w fun e w' => e = .returned (.tuple #[.string s, .string ⟨#[]⟩, .bool false]) ∧ w' = w := by
  go_enter Tryz.func90, Tryz.ntmps90
  go_wp2_with (go_at_call 101; refine (cut0_miss _ _ h).mono ?_; rintro e w' ⟨rfl, rfl⟩)
  go_ret3
  exact ⟨rfl, rfl⟩

set_option maxHeartbeats 1000000 in
set_option maxRecDepth 100000 in
theorem cut0_hit (s : ByteArray) (i : Nat) (w : World) (h : Lib.indexByte s.data.toList 47 = (i : Int)) (hi : i < s.size) (hs : s.size ≤ 1048576) :
    Calls Tryz.prog 101 #[.string s, .string ⟨#[47]⟩] w fun e w' => e = .returned (.tuple #[.string (s.extract 0 i), .string (s.extract (i + 1) s.size), .bool true]) ∧ w' = w.drew := by
  have c1 : (0 : Int) ≤ ↑i := by omega
  have c2 : (↑i : Int) ≤ ↑s.size := by omega
  have c3 : (0 : Int) ≤ ↑i + 1 := by omega
  have c4 : (↑i + 1 : Int) ≤ ↑s.size := by omega
  go_enter Tryz.func101, Tryz.ntmps101
  go_wp2_with (go_at_call 108; refine (Tryz.stringslite_Index_one _ _ _).mono ?_; rintro e w' ⟨rfl, rfl⟩; rw [h])
  go_region
  all_goals go_wp2
  all_goals go_ret3
  all_goals exact ⟨rfl, rfl⟩

set_option maxHeartbeats 1000000 in
set_option maxRecDepth 100000 in
theorem cut_hit (s : ByteArray) (i : Nat) (w : World) (h : Lib.indexByte s.data.toList 47 = (i : Int)) (hi : i < s.size) (hs : s.size ≤ 1048576) :
    Calls Tryz.prog 90 #[.string s, .string ⟨#[47]⟩] w fun e w' => e = .returned (.tuple #[.string (s.extract 0 i), .string (s.extract (i + 1) s.size), .bool true]) ∧ w' = w.drew := by
  go_enter Tryz.func90, Tryz.ntmps90
  go_wp2_with (go_at_call 101; refine (cut0_hit _ _ _ h hi hs).mono ?_; rintro e w' ⟨rfl, rfl⟩)
  go_ret3
  exact ⟨rfl, rfl⟩

end Go.Proofs.YtimgafblpmjajabGreat
