
import Derived.RangeFuncNested

import Derived.RangeFuncBound

import Derived.RangeFuncCalls

import Derived.RangeFuncLeaves

import Derived.RangeFuncBox

import Derived.Shelf.Abstract

import Derived.Shelf.RegionOpen

import Derived.WalkKit

import Derived.OwnWalkIn

import Derived.TacticsInMore

import Derived.LoopNIn

import Derived.LoopIn

import Derived.Test.YtimgafblpmjajabGreatSpec

import Derived.Test.YtimgafblpmjajabGreatCut

namespace Go.Proofs.YtimgafblpmjajabGreat

open Go.RowKit Go.Shelf

attribute [local go_sem] Oper.semAt_some

abbrev Part := { x : List UInt8 // x.length ≤ 60 }
def vals (l : List Part) : List (List UInt8) := l.map (·.1)
theorem vals_snoc (l : List Part) (x : Part) : vals (l ++ [x]) = vals l ++ [x.1] := by simp [vals]
theorem vals_length (l : List Part) : (vals l).length = l.length := by simp [vals]

/-- For the loop's measure. -/
def leftM : Value → Value → Nat
  | .string r, .bool true => r.size + 1
  | _, _ => 0
theorem leftM_go (r : ByteArray) : leftM (.string r) (.bool true) = r.size + 1 := rfl
theorem leftM_end (v : Value) : leftM v (.bool false) = 0 := by cases v <;> rfl

theorem grown_drew (w : World) (row : Option Nat) : w.grownBy w.drew row := ⟨rfl, rfl, rfl, Nat.le_refl _, fun _ _ _ => rfl⟩

set_option maxRecDepth 100000 in
set_option maxHeartbeats 1000000 in
theorem parts1_in (n : Nat) (hn : 1 ≤ n) (l Bn : Nat) (s : ByteArray) (hs : s.size ≤ 60) (J Jx : List Part → World → Prop) (W : World)
    (hJ : AbidesFrom W.heap.size J)
    (hY : ∀ pre (x : Part) W1, J pre W1 → pre.length < (Pl.split s.data.toList).length → YieldAt Fence.wide (n - 1) Tryz.prog l #[strV x.1] W1 fun e W' =>
      (e = .returned (.bool true) ∧ J (pre ++ [x]) W' ∧ True) ∨ (e = .returned (.bool false) ∧ Jx (pre ++ [x]) W'))
    (hBn : W.cell? ⟨Bn, 0, none⟩ = some (.string s)) (h0 : J [] W) :
    CallsIn Fence.wide n Tryz.prog 103 #[.func (.yield l) #[] #[], .pointer (some ⟨Bn, 0, none⟩)] W fun e W' => (∃ v, e = .returned v) ∧
      ((∃ ys, vals ys = Pl.split s.data.toList ∧ J ys W') ∨ (∃ pre, vals pre <+: Pl.split s.data.toList ∧ Jx pre W')) := by
  have hJd : ∀ pre X, J pre X → J pre X.drew := fun pre X h => hJ pre X X.drew none h (grown_drew X none) (fun r e => by cases e)
  have HJd : Hid (∀ pre X, J pre X → J pre X.drew) := hJd
  have HY := hY
  have HY' : Hid (∀ pre (x : Part) W1, J pre W1 → pre.length < (Pl.split s.data.toList).length → YieldAt Fence.wide (n - 1) Tryz.prog l #[strV x.1] W1 fun e W' =>
      (e = .returned (.bool true) ∧ J (pre ++ [x]) W' ∧ True) ∨ (e = .returned (.bool false) ∧ Jx (pre ++ [x]) W')) := HY
  clear HY hY hJd hJ
  refine callsIn_of_wp Tryz.func103 rfl trivial ?_ rfl
  simp only [Tryz.ntmps103, List.size_toArray, List.length_cons, List.length_nil, Nat.reduceAdd, Nat.reduceSub, Array.replicate_succ, Array.replicate_zero, List.push_toArray, List.append_toArray, List.nil_append, List.cons_append]
  gi_wp2
  gi_loopw [3, 4] (fun rv mv wr => ∃ (pre : List Part) (r : ByteArray) (b : Bool), rv = .string r ∧ mv = .bool b ∧ r.size ≤ 60 ∧ J pre wr ∧ ((b = true ∧ Pl.split s.data.toList = vals pre ++ Pl.split r.data.toList) ∨ (b = false ∧ vals pre = Pl.split s.data.toList)))
    (fun rv mv _ => leftM rv mv)
  case atStart => exact ⟨[], s, true, rfl, rfl, hs, h0, .inl ⟨rfl, rfl⟩⟩
  case round =>
    obtain ⟨pre, r, b, rfl, rfl, hr, hJs, hb⟩ := hrel
    cases b with
    | false =>
      obtain ⟨h, _⟩ | ⟨_, hp⟩ := hb
      · cases h
      · have HP : Hid (vals pre = Pl.split s.data.toList) := hp
        clear hp
        gi_wp2
        go_end0
        exact ⟨⟨_, rfl⟩, .inl ⟨pre, HP.out, hJs⟩⟩
    | true =>
      have hp : Pl.split s.data.toList = vals pre ++ Pl.split r.data.toList := by rcases hb with ⟨_, h⟩ | ⟨h, _⟩; exact h; cases h
      clear hb
      rcases index47 r.data.toList with ⟨hix, hsp⟩ | ⟨i, hix, hil, hsp⟩
      · have hs1 : Pl.split r.data.toList = [r.data.toList] := by have := hsp []; simpa [Pl.split] using this
        obtain ⟨x, hx⟩ : ∃ x : Part, x.1 = r.data.toList := ⟨⟨r.data.toList, by rw [← size_data]; exact hr⟩, rfl⟩
        have HE : Hid (vals (pre ++ [x]) = Pl.split s.data.toList) := by unfold Hid; rw [vals_snoc, hx, hp, hs1]
        obtain ⟨fn, tmps, assign, body, hy, hR⟩ := HY'.out pre x wr hJs (by rw [hp, hs1]; simp [vals_length])
        rw [hx, strV_data] at hy
        clear hp hs1 hsp hx
        gi_wp2_with (refine ⟨trivial, ?_⟩; gi_at_call 90; refine (callsIn_wide.2 (cut_miss r _ hix)).mono ?_; rintro e w' ⟨rfl, rfl⟩)
        refine hR.mono ?_
        rintro e W3 (⟨rfl, hJ3, _⟩ | ⟨rfl, hJx3⟩)
        · gi_wp2
          go_roundw
          case rel => exact ⟨pre ++ [x], _, false, rfl, rfl, by decide, hJ3, .inr ⟨rfl, HE.out⟩⟩
          case measure => simp [leftM]
        · gi_wp2
          refine bodyPost_ret (results_none rfl _ _ _) rfl ?_
          exact ⟨⟨_, rfl⟩, .inr ⟨pre ++ [x], ⟨[], by rw [HE.out]; simp⟩, hJx3⟩⟩
      · have hi : i < r.size := by rw [size_data]; exact hil
        have hs1 : Pl.split r.data.toList = r.data.toList.take i :: Pl.split (r.data.toList.drop (i + 1)) := by have := hsp []; simpa [Pl.split] using this
        have hr2 : (r.extract (i + 1) r.size).data.toList = r.data.toList.drop (i + 1) := by
          rw [ByteArray.data_extract]
          simp
          rw [List.take_of_length_le (by rw [List.length_drop, ← size_data]; exact Nat.le_refl _)]
        obtain ⟨x, hx⟩ : ∃ x : Part, x.1 = r.data.toList.take i := ⟨⟨r.data.toList.take i, by rw [List.length_take]; omega⟩, rfl⟩
        have hxv : strV x.1 = .string (r.extract 0 i) := by rw [hx, strV_extract]; simp
        have HE : Hid (Pl.split s.data.toList = vals (pre ++ [x]) ++ Pl.split (r.extract (i + 1) r.size).data.toList) := by unfold Hid; rw [vals_snoc, hx, hp, hs1, hr2]; simp
        have hrs : (r.extract (i + 1) r.size).size = r.size - (i + 1) := by rw [size_data, hr2, List.length_drop, ← size_data]
        have hr60 : (r.extract (i + 1) r.size).size ≤ 60 := by omega
        have hml : (r.extract (i + 1) r.size).size < r.size := by omega
        obtain ⟨r', hr'⟩ : ∃ r', r' = r.extract (i + 1) r.size := ⟨_, rfl⟩
        obtain ⟨fn, tmps, assign, body, hy, hR⟩ := HY'.out pre x wr.drew (HJd.out _ _ hJs) (by rw [hp, hs1]; simp [vals_length])
        rw [hxv] at hy
        have hcut := cut_hit r i wr hix hi (by omega)
        rw [← hr'] at hcut HE hr60 hml
        clear hp hs1 hsp hx hxv hrs hr2 hr' hil
        gi_wp2_with (refine ⟨trivial, ?_⟩; gi_at_call 90; refine (callsIn_wide.2 hcut).mono ?_; rintro e w' ⟨rfl, rfl⟩)
        refine hR.mono ?_
        rintro e W3 (⟨rfl, hJ3, _⟩ | ⟨rfl, hJx3⟩)
        · gi_wp2
          go_roundw
          case rel => exact ⟨pre ++ [x], r', true, rfl, rfl, hr60, hJ3, .inl ⟨rfl, HE.out⟩⟩
          case measure => simp [leftM]; omega
        · gi_wp2
          refine bodyPost_ret (results_none rfl _ _ _) rfl ?_
          exact ⟨⟨_, rfl⟩, .inr ⟨pre ++ [x], ⟨_, HE.out.symm⟩, hJx3⟩⟩

set_option maxHeartbeats 1000000 in
theorem parts_in (n : Nat) (s : ByteArray) (w : World) :
    CallsIn Fence.wide n Tryz.prog 92 #[.string s] w fun e w' => e = .returned (.func (.func 103) #[] #[.pointer (some ⟨w.heap.size, 0, none⟩)]) ∧ w' = w.alloc (.cells #[.string s] 9) := by
  refine callsIn_of_wp Tryz.func92 rfl trivial ?_ rfl
  simp only [Tryz.ntmps92, List.size_toArray, List.length_cons, List.length_nil, Nat.reduceAdd, Nat.reduceSub, Array.replicate_succ, Array.replicate_zero, List.push_toArray, List.append_toArray, List.nil_append, List.cons_append]
  gi_wp2
  go_ret
  exact ⟨rfl, rfl⟩

theorem parts_stops (n : Nat) (hn : 1 ≤ n) (Bn : Nat) (s : ByteArray) (hs : s.size ≤ 60) (w : World) (hBn : Bn < w.heap.size) (hc : w.cell? ⟨Bn, 0, none⟩ = some (.string s)) :
    SeqStopsK Fence.wide n Tryz.prog 103 #[.pointer (some ⟨Bn, 0, none⟩)] (fun x : Part => #[strV x.1]) (fun _ _ => True) (fun ys => vals ys = Pl.split s.data.toList) (fun pre => vals pre <+: Pl.split s.data.toList) (Pl.split s.data.toList).length w := fun l J Jx W hW hJ _ hY h0 =>
  parts1_in n hn l Bn s hs J Jx W hJ hY ((hW.cell (p := ⟨Bn, 0, none⟩) hBn).trans hc) h0

end Go.Proofs.YtimgafblpmjajabGreat
