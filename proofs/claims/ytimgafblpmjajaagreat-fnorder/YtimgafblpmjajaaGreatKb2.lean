import Derived.RangeFuncNested
import Derived.RangeFuncBound
import Derived.RangeFuncCalls
import Derived.RangeFuncLeaves
import Derived.RangeFuncBox
import Derived.Shelf.Abstract
import Derived.Shelf.RegionOpen
import Derived.WalkKit
import Derived.OwnWalkIn
import Derived.TacticsInMore
import Derived.LoopNIn
import Derived.LoopIn
import Derived.Deep.RegionWith
import Derived.Deep.RegionHeld3
import Derived.Maps.OwnSet
import Derived.DeepKeys4
import Derived.Test.YtimgafblpmjajaaGreatKb1
namespace Go.Proofs.YtimgafblpmjajaaGreat

open Go.RowKit

/-- The first slash, if there is one. -/
theorem index47 (l : List UInt8) : (Lib.indexByte l 47 = -1 ∧ ∀ cur, Pl.splitTo cur l = [cur ++ l]) ∨
    ∃ i : Nat, Lib.indexByte l 47 = (i : Int) ∧ i < l.length ∧ ∀ cur, Pl.splitTo cur l = (cur ++ l.take i) :: Pl.split (l.drop (i + 1)) := by
  induction l with
  | nil => left; exact ⟨rfl, fun cur => by simp [Pl.splitTo]⟩
  | cons c r ih =>
    by_cases hc : c = 47
    · right
      refine ⟨0, ?_, by simp, fun cur => ?_⟩
      · simp [Lib.indexByte, hc]
      · simp [Pl.splitTo, hc, Pl.split]
    · have hc' : (c == 47) = false := by simpa using hc
      rcases ih with ⟨h1, h2⟩ | ⟨i, h1, h2, h3⟩
      · left
        refine ⟨?_, fun cur => ?_⟩
        · simp [Lib.indexByte, hc', h1]
        · simp only [Pl.splitTo, hc, if_false]; rw [h2]; simp
      · right
        refine ⟨i + 1, ?_, by simpa using h2, fun cur => ?_⟩
        · have hne : ((i : Int) == -1) = false := by rw [beq_eq_false_iff_ne]; omega
          simp only [Lib.indexByte, hc', h1, hne]; simp
        · simp only [Pl.splitTo, hc, if_false]; rw [h3]; simp

set_option maxHeartbeats 1000000 in
set_option maxRecDepth 100000 in
theorem cut0_miss (s : ByteArray) (w : World) (h : Lib.indexByte s.data.toList 47 = -1) :
    Calls Tryz.prog 76 #[.string s, .string ⟨#[47]⟩] w fun e w' => e = .returned (.tuple #[.string s, .string ⟨#[]⟩, .bool false]) ∧ w' = w := by
  go_enter Tryz.func76, Tryz.ntmps76
  go_wp2_with (go_at_call 83; refine (Tryz.stringslite_Index_one _ _ _).mono ?_; rintro e w' ⟨rfl, rfl⟩; rw [h])
  go_ret3
  exact ⟨rfl, rfl⟩

set_option maxHeartbeats 1000000 in
set_option maxRecDepth 100000 in
theorem cut_miss (s : ByteArray) (w : World) (h : Lib.indexByte s.data.toList 47 = -1) :
    Calls Tryz.prog 65 #[.string s, .string ⟨#[47]⟩] w fun e w' => e = .returned (.tuple #[.string s, .string ⟨#[]⟩, .bool false]) ∧ w' = w := by
  go_enter Tryz.func65, Tryz.ntmps65
  go_wp2_with (go_at_call 76; refine (cut0_miss _ _ h).mono ?_; rintro e w' ⟨rfl, rfl⟩)
  go_ret3
  exact ⟨rfl, rfl⟩

set_option maxHeartbeats 1000000 in
set_option maxRecDepth 100000 in
theorem cut0_hit (s : ByteArray) (i : Nat) (w : World) (h : Lib.indexByte s.data.toList 47 = (i : Int)) (hi : i < s.size) (hs : s.size ≤ 1048576) :
    Calls Tryz.prog 76 #[.string s, .string ⟨#[47]⟩] w fun e w' => e = .returned (.tuple #[.string (s.extract 0 i), .string (s.extract (i + 1) s.size), .bool true]) ∧ w' = w.drew := by
  have c1 : (0 : Int) ≤ ↑i := by omega
  have c2 : (↑i : Int) ≤ ↑s.size := by omega
  have c3 : (0 : Int) ≤ ↑i + 1 := by omega
  have c4 : (↑i + 1 : Int) ≤ ↑s.size := by omega
  go_enter Tryz.func76, Tryz.ntmps76
  go_wp2_with (go_at_call 83; refine (Tryz.stringslite_Index_one _ _ _).mono ?_; rintro e w' ⟨rfl, rfl⟩; rw [h])
  go_region
  all_goals go_wp2
  all_goals go_ret3
  all_goals exact ⟨rfl, rfl⟩

set_option maxHeartbeats 1000000 in
set_option maxRecDepth 100000 in
theorem cut_hit (s : ByteArray) (i : Nat) (w : World) (h : Lib.indexByte s.data.toList 47 = (i : Int)) (hi : i < s.size) (hs : s.size ≤ 1048576) :
    Calls Tryz.prog 65 #[.string s, .string ⟨#[47]⟩] w fun e w' => e = .returned (.tuple #[.string (s.extract 0 i), .string (s.extract (i + 1) s.size), .bool true]) ∧ w' = w.drew := by
  go_enter Tryz.func65, Tryz.ntmps65
  go_wp2_with (go_at_call 76; refine (cut0_hit _ _ _ h hi hs).mono ?_; rintro e w' ⟨rfl, rfl⟩)
  go_ret3
  exact ⟨rfl, rfl⟩

end Go.Proofs.YtimgafblpmjajaaGreat
namespace Go.Proofs.YtimgafblpmjajaaGreat

open Go.RowKit Go.Shelf

attribute [local go_sem] Oper.semAt_some

abbrev Part := { x : List UInt8 // x.length ≤ 60 }
def vals (l : List Part) : List (List UInt8) := l.map (·.1)
theorem vals_snoc (l : List Part) (x : Part) : vals (l ++ [x]) = vals l ++ [x.1] := by simp [vals]
theorem vals_length (l : List Part) : (vals l).length = l.length := by simp [vals]

/-- For the loop's measure. -/
def leftM : Value → Value → Nat
  | .string r, .bool true => r.size + 1
  | _, _ => 0
theorem leftM_go (r : ByteArray) : leftM (.string r) (.bool true) = r.size + 1 := rfl
theorem leftM_end (v : Value) : leftM v (.bool false) = 0 := by cases v <;> rfl

theorem grown_drew (w : World) (row : Option Nat) : w.grownBy w.drew row := ⟨rfl, rfl, rfl, Nat.le_refl _, fun _ _ _ => rfl⟩

set_option maxRecDepth 100000 in
set_option maxHeartbeats 1000000 in
theorem parts1_in (n : Nat) (hn : 1 ≤ n) (l Bn : Nat) (s : ByteArray) (hs : s.size ≤ 60) (J Jx : List Part → World → Prop) (W : World)
    (hJ : AbidesFrom W.heap.size J)
    (hY : ∀ pre (x : Part) W1, J pre W1 → pre.length < (Pl.split s.data.toList).length → YieldAt Fence.wide (n - 1) Tryz.prog l #[strV x.1] W1 fun e W' =>
      (e = .returned (.bool true) ∧ J (pre ++ [x]) W' ∧ True) ∨ (e = .returned (.bool false) ∧ Jx (pre ++ [x]) W'))
    (hBn : W.cell? ⟨Bn, 0, none⟩ = some (.string s)) (h0 : J [] W) :
    CallsIn Fence.wide n Tryz.prog 78 #[.func (.yield l) #[] #[], .pointer (some ⟨Bn, 0, none⟩)] W fun e W' => (∃ v, e = .returned v) ∧
      ((∃ ys, vals ys = Pl.split s.data.toList ∧ J ys W') ∨ (∃ pre, vals pre <+: Pl.split s.data.toList ∧ Jx pre W')) := by
  have hJd : ∀ pre X, J pre X → J pre X.drew := fun pre X h => hJ pre X X.drew none h (grown_drew X none) (fun r e => by cases e)
  have HJd : Hid (∀ pre X, J pre X → J pre X.drew) := hJd
  have HY := hY
  have HY' : Hid (∀ pre (x : Part) W1, J pre W1 → pre.length < (Pl.split s.data.toList).length → YieldAt Fence.wide (n - 1) Tryz.prog l #[strV x.1] W1 fun e W' =>
      (e = .returned (.bool true) ∧ J (pre ++ [x]) W' ∧ True) ∨ (e = .returned (.bool false) ∧ Jx (pre ++ [x]) W')) := HY
  clear HY hY hJd hJ
  refine callsIn_of_wp Tryz.func78 rfl trivial ?_ rfl
  simp only [Tryz.ntmps78, List.size_toArray, List.length_cons, List.length_nil, Nat.reduceAdd, Nat.reduceSub, Array.replicate_succ, Array.replicate_zero, List.push_toArray, List.append_toArray, List.nil_append, List.cons_append]
  gi_wp2
  gi_loopw [3, 4] (fun rv mv wr => ∃ (pre : List Part) (r : ByteArray) (b : Bool), rv = .string r ∧ mv = .bool b ∧ r.size ≤ 60 ∧ J pre wr ∧ ((b = true ∧ Pl.split s.data.toList = vals pre ++ Pl.split r.data.toList) ∨ (b = false ∧ vals pre = Pl.split s.data.toList)))
    (fun rv mv _ => leftM rv mv)
  case atStart => exact ⟨[], s, true, rfl, rfl, hs, h0, .inl ⟨rfl, rfl⟩⟩
  case round =>
    obtain ⟨pre, r, b, rfl, rfl, hr, hJs, hb⟩ := hrel
    cases b with
    | false =>
      obtain ⟨h, _⟩ | ⟨_, hp⟩ := hb
      · cases h
      · have HP : Hid (vals pre = Pl.split s.data.toList) := hp
        clear hp
        gi_wp2
        go_end0
        exact ⟨⟨_, rfl⟩, .inl ⟨pre, HP.out, hJs⟩⟩
    | true =>
      have hp : Pl.split s.data.toList = vals pre ++ Pl.split r.data.toList := by rcases hb with ⟨_, h⟩ | ⟨h, _⟩; exact h; cases h
      clear hb
      rcases index47 r.data.toList with ⟨hix, hsp⟩ | ⟨i, hix, hil, hsp⟩
      · have hs1 : Pl.split r.data.toList = [r.data.toList] := by have := hsp []; simpa [Pl.split] using this
        obtain ⟨x, hx⟩ : ∃ x : Part, x.1 = r.data.toList := ⟨⟨r.data.toList, by rw [← size_data]; exact hr⟩, rfl⟩
        have HE : Hid (vals (pre ++ [x]) = Pl.split s.data.toList) := by unfold Hid; rw [vals_snoc, hx, hp, hs1]
        obtain ⟨fn, tmps, assign, body, hy, hR⟩ := HY'.out pre x wr hJs (by rw [hp, hs1]; simp [vals_length])
        rw [hx, strV_data] at hy
        clear hp hs1 hsp hx
        gi_wp2_with (refine ⟨trivial, ?_⟩; gi_at_call 65; refine (callsIn_wide.2 (cut_miss r _ hix)).mono ?_; rintro e w' ⟨rfl, rfl⟩)
        refine hR.mono ?_
        rintro e W3 (⟨rfl, hJ3, _⟩ | ⟨rfl, hJx3⟩)
        · gi_wp2
          go_roundw
          case rel => exact ⟨pre ++ [x], _, false, rfl, rfl, by decide, hJ3, .inr ⟨rfl, HE.out⟩⟩
          case measure => simp [leftM]
        · gi_wp2
          refine bodyPost_ret (results_none rfl _ _ _) rfl ?_
          exact ⟨⟨_, rfl⟩, .inr ⟨pre ++ [x], ⟨[], by rw [HE.out]; simp⟩, hJx3⟩⟩
      · have hi : i < r.size := by rw [size_data]; exact hil
        have hs1 : Pl.split r.data.toList = r.data.toList.take i :: Pl.split (r.data.toList.drop (i + 1)) := by have := hsp []; simpa [Pl.split] using this
        have hr2 : (r.extract (i + 1) r.size).data.toList = r.data.toList.drop (i + 1) := by
          rw [ByteArray.data_extract]
          simp
          rw [List.take_of_length_le (by rw [List.length_drop, ← size_data]; exact Nat.le_refl _)]
        obtain ⟨x, hx⟩ : ∃ x : Part, x.1 = r.data.toList.take i := ⟨⟨r.data.toList.take i, by rw [List.length_take]; omega⟩, rfl⟩
        have hxv : strV x.1 = .string (r.extract 0 i) := by rw [hx, strV_extract]; simp
        have HE : Hid (Pl.split s.data.toList = vals (pre ++ [x]) ++ Pl.split (r.extract (i + 1) r.size).data.toList) := by unfold Hid; rw [vals_snoc, hx, hp, hs1, hr2]; simp
        have hrs : (r.extract (i + 1) r.size).size = r.size - (i + 1) := by rw [size_data, hr2, List.length_drop, ← size_data]
        have hr60 : (r.extract (i + 1) r.size).size ≤ 60 := by omega
        have hml : (r.extract (i + 1) r.size).size < r.size := by omega
        obtain ⟨r', hr'⟩ : ∃ r', r' = r.extract (i + 1) r.size := ⟨_, rfl⟩
        obtain ⟨fn, tmps, assign, body, hy, hR⟩ := HY'.out pre x wr.drew (HJd.out _ _ hJs) (by rw [hp, hs1]; simp [vals_length])
        rw [hxv] at hy
        have hcut := cut_hit r i wr hix hi (by omega)
        rw [← hr'] at hcut HE hr60 hml
        clear hp hs1 hsp hx hxv hrs hr2 hr' hil
        gi_wp2_with (refine ⟨trivial, ?_⟩; gi_at_call 65; refine (callsIn_wide.2 hcut).mono ?_; rintro e w' ⟨rfl, rfl⟩)
        refine hR.mono ?_
        rintro e W3 (⟨rfl, hJ3, _⟩ | ⟨rfl, hJx3⟩)
        · gi_wp2
          go_roundw
          case rel => exact ⟨pre ++ [x], r', true, rfl, rfl, hr60, hJ3, .inl ⟨rfl, HE.out⟩⟩
          case measure => simp [leftM]; omega
        · gi_wp2
          refine bodyPost_ret (results_none rfl _ _ _) rfl ?_
          exact ⟨⟨_, rfl⟩, .inr ⟨pre ++ [x], ⟨_, HE.out.symm⟩, hJx3⟩⟩

set_option maxHeartbeats 1000000 in
theorem parts_in (n : Nat) (s : ByteArray) (w : World) :
    CallsIn Fence.wide n Tryz.prog 67 #[.string s] w fun e w' => e = .returned (.func (.func 78) #[] #[.pointer (some ⟨w.heap.size, 0, none⟩)]) ∧ w' = w.alloc (.cells #[.string s] 9) := by
  refine callsIn_of_wp Tryz.func67 rfl trivial ?_ rfl
  simp only [Tryz.ntmps67, List.size_toArray, List.length_cons, List.length_nil, Nat.reduceAdd, Nat.reduceSub, Array.replicate_succ, Array.replicate_zero, List.push_toArray, List.append_toArray, List.nil_append, List.cons_append]
  gi_wp2
  go_ret
  exact ⟨rfl, rfl⟩

theorem parts_stops (n : Nat) (hn : 1 ≤ n) (Bn : Nat) (s : ByteArray) (hs : s.size ≤ 60) (w : World) (hBn : Bn < w.heap.size) (hc : w.cell? ⟨Bn, 0, none⟩ = some (.string s)) :
    SeqStopsK Fence.wide n Tryz.prog 78 #[.pointer (some ⟨Bn, 0, none⟩)] (fun x : Part => #[strV x.1]) (fun _ _ => True) (fun ys => vals ys = Pl.split s.data.toList) (fun pre => vals pre <+: Pl.split s.data.toList) (Pl.split s.data.toList).length w := fun l J Jx W hW hJ _ hY h0 =>
  parts1_in n hn l Bn s hs J Jx W hJ hY ((hW.cell (p := ⟨Bn, 0, none⟩) hBn).trans hc) h0

end Go.Proofs.YtimgafblpmjajaaGreat
namespace Go.Proofs.YtimgafblpmjajaaGreat

open Go.RowKit

theorem join_any (base : Nat) (v : Value) (xs : List (List UInt8)) (w : World) (hrow : w.ownsRow base 9 1 v xs.length (xs.map strV)) (hs : Pl.total xs ≤ 4194304) :
    Calls Tryz.prog 80 #[v, .string ⟨#[47]⟩] w fun e w' => e = .returned (strV (Pl.joinS xs)) ∧ Below w.heap.size w w' := by
  obtain ⟨a, cap, rfl, hcap, hmax, hcell⟩ := row_shape hrow
  have hlen : xs.length ≤ 4194304 := by unfold Pl.total at hs; omega
  have hj := joinS_len xs
  cases xs with
  | nil => exact (Tryz.strings_Join_none a cap _ w).mono fun e w' ⟨he, hw⟩ => ⟨he, hw ▸ Below.refl _ _⟩
  | cons x r =>
    obtain ⟨g, rfl, _, hg, _⟩ := hcell 0 (by simp)
    obtain ⟨ys, hys⟩ : ∃ ys : List ByteArray, ys = (x :: r).map (fun l => (⟨l.toArray⟩ : ByteArray)) := ⟨_, rfl⟩
    have hyl : ys.length = (x :: r).length := by rw [hys, List.length_map]
    have hmap : ys.map (·.data.toList) = x :: r := by
      rw [hys, List.map_map]
      conv => rhs; rw [← List.map_id (x :: r)]
      exact List.map_congr_left (fun l _ => by simp)
    have h := Tryz.strings_Join g 0 cap ys ⟨#[47]⟩ w (fun j y hy => by
      rw [hys] at hy
      rw [List.getElem?_map] at hy
      obtain ⟨l, hl, rfl⟩ := Option.map_eq_some_iff.1 hy
      obtain ⟨hlt, hl'⟩ := List.getElem?_eq_some_iff.1 hl
      obtain ⟨g', hg', _, _, hc⟩ := hcell j hlt
      cases hg'
      rw [Nat.zero_add, hc, hl']; rfl) hg (by omega) (by omega) (by
      rw [hmap]
      have : (Lib.join (x :: r) [47]).length ≤ 4194304 := by unfold Pl.joinS at hj; omega
      exact Nat.le_trans this (by decide))
    rw [hmap, hyl] at h
    exact h

set_option maxHeartbeats 1000000 in
set_option maxRecDepth 100000 in
theorem clone_any (s : ByteArray) (w : World) (hs : s.size ≤ 4194304) :
    Calls Tryz.prog 38 #[.string s] w fun e w' => e = .returned (.string s) ∧ Below w.heap.size w w' := by
  go_enter Tryz.func38, Tryz.ntmps38
  go_wp2_with (go_at_call 57; refine (Tryz.stringslite_Clone s _ (by omega)).mono ?_; rintro e w' ⟨rfl, hb⟩)
  go_ret
  exact ⟨rfl, hb⟩

/-- The answer's cell, made first, behind what was laid since. -/
theorem old_cell {w w2 : World} {o : Obj} {u : Value} {t : TypeId} (ho : o = .cells #[u] t) (hb : Below (w.alloc o).heap.size (w.alloc o) w2) (o' : Obj) : (w2.alloc o').cell? ⟨w.heap.size, 0, none⟩ = some u ∧ (w2.alloc o').frozen? ⟨w.heap.size, 0, none⟩ = false := by
  have hz : w.heap.size < w2.heap.size := by have := hb.size; simp at this; omega
  have hb' : Below (w.alloc o).heap.size (w.alloc o) (w2.alloc o') := hb.trans ((Below.refl _ _).alloc (by simp; omega) o')
  obtain ⟨hc, hf⟩ := bcell hb'
  subst ho
  exact ⟨by rw [hc _ _ (by simp)]; simp, by rw [hf _ _ (by simp)]; simp⟩

theorem old_set {w w2 : World} {o : Obj} {u : Value} {t : TypeId} (ho : o = .cells #[u] t) (hb : Below (w.alloc o).heap.size (w.alloc o) w2) (u' : Value) (o' : Obj) : ((w2.setCell ⟨w.heap.size, 0, none⟩ u').alloc o').cell? ⟨w.heap.size, 0, none⟩ = some u' := by
  have hz : w.heap.size < w2.heap.size := by have := hb.size; simp at this; omega
  obtain ⟨hc, hf⟩ := bcell hb
  subst ho
  rw [World.cell?_alloc_past _ _ _ (by simp [World.setCell]; omega)]
  exact World.cell?_setCell_same' _ _ _ (by rw [hc _ _ (by simp)]; simp)

/-- The one form as a value, with its code. -/
def formV (r : Int × List UInt8) : Value := .tuple #[.agg #[strV r.2], .int .i64 r.1]

set_option maxHeartbeats 1000000 in
set_option maxRecDepth 100000 in
theorem formOf_any (base : Nat) (v : Value) (xs : List (List UInt8)) (w : World) (hrow : w.ownsRow base 9 1 v xs.length (xs.map strV)) (hs : Pl.total xs ≤ 4194304) :
    Calls Tryz.prog 69 #[v] w fun e w' => e = .returned (formV (Pl.fin (xs, 0))) ∧ Below w.heap.size w w' := by
  obtain ⟨t, ht⟩ : ∃ t : ByteArray, t.data.toList = Pl.joinS xs := ⟨⟨(Pl.joinS xs).toArray⟩, by simp⟩
  have HT : Hid (strV (Pl.joinS xs) = .string t) := by unfold Hid; rw [← ht, strV_data]
  have hts : t.size ≤ 4194304 := by rw [size_data, ht]; have := joinS_len xs; omega
  have hrow1 := hrow.alloc (.cells #[.string ⟨#[]⟩] 91)
  by_cases hj : Pl.joinS xs = []
  · have hfin : Pl.fin (xs, 0) = (1, []) := by unfold Pl.fin; rw [if_pos rfl, if_pos hj]
    have hte : t.toList.isEmpty = true := by rw [Go.ByteArray.toList_eq, ht, hj]; rfl
    rw [hfin]
    clear hfin ht hj
    go_enter Tryz.func69, Tryz.ntmps69
    go_wp2_with fail
    refine (join_any base v xs _ hrow1 hs).mono ?_
    rw [HT.out]
    rintro e w1 ⟨rfl, hb⟩
    go_wp2_with (go_at_call 38; refine (clone_any t _ hts).mono ?_; rintro e w2 ⟨rfl, hb2⟩; have hb3 := hb.trans (hb2.mono hb.size); have hA := fun o' => (old_cell rfl hb3 o').1; have hF := fun o' => (old_cell rfl hb3 o').2; have hz : w.heap.size < w2.heap.size := (by have := hb3.size; simp at this; omega))
    exact bodyPost_ret (v := formV (1, [])) (by simp [results, Tryz.results69, go_sem, formV, strV, old_set rfl hb3]) rfl ⟨rfl, ((below_one hb3).setCell (p := ⟨w.heap.size, 0, none⟩) (Nat.le_refl _) _).alloc (by simp [World.setCell]; omega) _⟩
  · have hte : t.toList.isEmpty = false := by rw [Go.ByteArray.toList_eq, ht]; simpa using hj
    by_cases hl' : 60 < (Pl.joinS xs).length
    · have hfin : Pl.fin (xs, 0) = (3, []) := by unfold Pl.fin; rw [if_pos rfl, if_neg hj, if_pos hl']
      have htl : 60 < t.size := by rw [size_data, ht]; exact hl'
      rw [hfin]
      clear hfin ht hj hl'
      go_enter Tryz.func69, Tryz.ntmps69
      go_wp2_with fail
      refine (join_any base v xs _ hrow1 hs).mono ?_
      rw [HT.out]
      rintro e w1 ⟨rfl, hb⟩
      go_wp2_with (go_at_call 38; refine (clone_any t _ hts).mono ?_; rintro e w2 ⟨rfl, hb2⟩; have hb3 := hb.trans (hb2.mono hb.size); have hA := fun o' => (old_cell rfl hb3 o').1; have hF := fun o' => (old_cell rfl hb3 o').2; have hz : w.heap.size < w2.heap.size := (by have := hb3.size; simp at this; omega))
      exact bodyPost_ret (v := formV (3, [])) (by simp [results, Tryz.results69, go_sem, formV, strV, old_set rfl hb3]) rfl ⟨rfl, ((below_one hb3).setCell (p := ⟨w.heap.size, 0, none⟩) (Nat.le_refl _) _).alloc (by simp [World.setCell]; omega) _⟩
    · have hfin : Pl.fin (xs, 0) = (0, Pl.joinS xs) := by unfold Pl.fin; rw [if_pos rfl, if_neg hj, if_neg hl']
      have htl : ¬ 60 < t.size := by rw [size_data, ht]; exact hl'
      rw [hfin]
      clear hfin ht hj hl'
      go_enter Tryz.func69, Tryz.ntmps69
      go_wp2_with fail
      refine (join_any base v xs _ hrow1 hs).mono ?_
      rw [HT.out]
      rintro e w1 ⟨rfl, hb⟩
      go_wp2_with (go_at_call 38; refine (clone_any t _ hts).mono ?_; rintro e w2 ⟨rfl, hb2⟩; have hb3 := hb.trans (hb2.mono hb.size); have hA := fun o' => (old_cell rfl hb3 o').1; have hF := fun o' => (old_cell rfl hb3 o').2; have hz : w.heap.size < w2.heap.size := (by have := hb3.size; simp at this; omega))
      exact bodyPost_ret (v := formV (0, Pl.joinS xs)) (by simp [results, Tryz.results69, go_sem, formV, HT.out, old_set rfl hb3]) rfl ⟨rfl, ((below_one hb3).setCell (p := ⟨w.heap.size, 0, none⟩) (Nat.le_refl _) _).alloc (by simp [World.setCell]; omega) _⟩

end Go.Proofs.YtimgafblpmjajaaGreat
namespace Go.Proofs.YtimgafblpmjajaaGreat

open Go.RowKit Go.Shelf

attribute [local go_sem] Oper.semAt_some

theorem Boxed.below {W W' : World} {B n : Nat} {t : TypeId} {v : Value} (h : Boxed W B t v) (hb : Below n W W') (hn : B < n) : Boxed W' B t v := (hb.block B hn).trans h

/-- Between two rounds: the row so far, the two answers' cells as they were laid. -/
def Mid (n₀ N : Nat) (R : List (List UInt8)) (pre : List Part) (W : World) : Prop :=
  (∃ v, Boxed W N 23 v ∧ W.ownsRow n₀ 9 1 v (Pl.walkP R (vals pre)).1.length ((Pl.walkP R (vals pre)).1.map strV) ∧ (Pl.walkP R (vals pre)).2 = 0)
/-- A round has left. -/
def Left2 (R : List (List UInt8)) (c : Code) (pre : List Part) : Prop := c = .ret ∧ (Pl.walkP R (vals pre)).2 ≠ 0

theorem walkP_snoc (R pre : List (List UInt8)) (p : List UInt8) (h : (Pl.walkP R pre).2 = 0) :
    Pl.walkP R (pre ++ [p]) = if (Pl.stepW (Pl.walkP R pre).1 p).2 = 0 then (Pl.stepW (Pl.walkP R pre).1 p) else ([], (Pl.stepW (Pl.walkP R pre).1 p).2) := by
  rw [Pl.walkP_append, if_pos h]
  simp only [Pl.walkP]
  split
  · rename_i h2; rw [← h2]
  · rfl

theorem total_vals (pre : List Part) : Pl.total (vals pre) ≤ 61 * pre.length := by
  induction pre with
  | nil => simp [vals, Pl.total, Lib.lens]
  | cons x r ih =>
    have := x.2
    simp only [vals, Pl.total, Lib.lens, List.map_cons, List.sum_cons, List.length_cons] at ih ⊢
    omega

set_option maxRecDepth 100000 in
set_option maxHeartbeats 2000000 in
theorem walk_short (n₀ : Nat) (v0 : Value) (R : List (List UInt8)) (s : ByteArray) (w : World) (hrow : w.ownsRow n₀ 9 1 v0 R.length (R.map strV)) (hn₀ : n₀ ≤ w.heap.size) (hR : Pl.total R ≤ 1048576) (hs : s.size ≤ 60) :
    Calls Tryz.prog 55 #[v0, .string s] w fun e w' => e = .returned (formV (Pl.fin (Pl.walkP R (Pl.split s.data.toList)))) ∧ Below n₀ w w' := by
  obtain ⟨i0, hi, hz0, hz1, hz2⟩ := info_parts Tryz.info9
  obtain ⟨a0, cap0, rfl, hcap0, hmax0, _⟩ := row_shape hrow
  have hb60 : (decide ((60 : Int) < (s.size : Int))) = false := by simp; omega
  have hsl : (Pl.split s.data.toList).length ≤ 61 := by have := Pl.length_split s.data.toList; rw [← size_data] at this; omega
  obtain ⟨rc, rx, hfin⟩ : ∃ rc rx, Pl.fin (Pl.walkP R (Pl.split s.data.toList)) = (rc, rx) := ⟨_, _, rfl⟩
  obtain ⟨t, ht⟩ : ∃ t : ByteArray, strV rx = .string t := ⟨_, rfl⟩
  have hfv : formV (Pl.fin (Pl.walkP R (Pl.split s.data.toList))) = .tuple #[.agg #[.string t], .int .i64 rc] := by rw [hfin, formV, ht]
  rw [hfv]
  have HFV : Hid (formV (Pl.fin (Pl.walkP R (Pl.split s.data.toList))) = .tuple #[.agg #[.string t], .int .i64 rc]) := hfv
  clear hfv hfin ht
  refine (callsIn_wide (n := 5)).1 ?_
  refine callsIn_of_wp_marks Tryz.func55 rfl trivial ?_ rfl
  simp only [Tryz.ntmps55, List.size_toArray, List.length_cons, List.length_nil, Nat.reduceAdd, Nat.reduceSub, Array.replicate_succ, Array.replicate_zero, List.push_toArray, List.append_toArray, List.nil_append, List.cons_append]
  gi_wp2_with (refine ⟨trivial, ?_⟩; gi_at_call 67; refine (parts_in _ s _).mono ?_; rintro e w' ⟨rfl, rfl⟩)
  have b0 := Boxed.new w 23 (.slice a0 R.length cap0)
  have b1 := Boxed.new (w.alloc (.cells #[.slice a0 R.length cap0] 23)) 91 (.string ⟨#[]⟩)
  have b2 := Boxed.new ((w.alloc (.cells #[.slice a0 R.length cap0] 23)).alloc (.cells #[.string ⟨#[]⟩] 91)) 3 (.int .i64 0)
  have b3 := Boxed.new (((w.alloc (.cells #[.slice a0 R.length cap0] 23)).alloc (.cells #[.string ⟨#[]⟩] 91)).alloc (.cells #[.int .i64 0] 3)) 9 (.string s)
  simp only [World.size_alloc] at b1 b2 b3
  have hB0 : Below n₀ w ((((w.alloc (.cells #[.slice a0 R.length cap0] 23)).alloc (.cells #[.string ⟨#[]⟩] 91)).alloc (.cells #[.int .i64 0] 3)).alloc (.cells #[.string s] 9)) := ((((Below.refl _ w).alloc hn₀ _).alloc (by simp; omega) _).alloc (by simp; omega) _).alloc (by simp; omega) _
  refine wpIn_rangeFunc_ownG rfl (by omega) (gf := 78) (lb := #[.pointer (some ⟨w.heap.size + 1 + 1 + 1, 0, none⟩)]) rfl trivial (enters_of Tryz.func78 (by kernel_rfl) rfl)
    (parts_stops (5 - 1) (by omega) (w.heap.size + 1 + 1 + 1) s hs _ (by simp) b3.cell) (fun _ _ => trivial) (fun _ _ _ _ _ _ _ _ => trivial) (Below.refl _ _) (fun _ => rfl)
    (fun pre W => Mid n₀ w.heap.size R pre W ∧ Boxed W (w.heap.size + 1) 91 (.string ⟨#[]⟩) ∧ Boxed W (w.heap.size + 1 + 1) 3 (.int .i64 0) ∧ Below n₀ w W)
    (fun c pre W => Left2 R c pre ∧ Boxed W (w.heap.size + 1) 91 (.string ⟨#[]⟩) ∧ Boxed W (w.heap.size + 1 + 1) 3 (.int .i64 (Pl.walkP R (vals pre)).2) ∧ Below n₀ w W)
    (OwnFrom.and (Own.from (holdsRow_own n₀ w.heap.size 23 9 1 (fun pre => (Pl.walkP R (vals pre)).1.length) (fun pre => (Pl.walkP R (vals pre)).1.map strV) (fun pre v => (Pl.walkP R (vals pre)).2 = 0)) _) (OwnFrom.and (Own.from (boxed_own _ _ (fun _ => .string ⟨#[]⟩)) _) (OwnFrom.and (Own.from (boxed_own _ _ (fun _ => .int .i64 0)) _) (ownFrom_below hn₀ (by simp; omega)))))
    (fun c => OwnFrom.and (ownFrom_pure _ (fun pre => Left2 R c pre)) (OwnFrom.and (Own.from (boxed_own _ _ (fun _ => .string ⟨#[]⟩)) _) (OwnFrom.and (Own.from (boxed_own _ _ (fun pre => .int .i64 (Pl.walkP R (vals pre)).2)) _) (ownFrom_below hn₀ (by simp; omega)))))
    ⟨⟨_, ((b0.alloc _).alloc _).alloc _, (((hrow.alloc _).alloc _).alloc _).alloc _, rfl⟩, (b1.alloc _).alloc _, b2.alloc _, hB0⟩
    (fun x => { tmps := #[.slice a0 R.length cap0, .string s, .pointer (some ⟨w.heap.size, 0, none⟩), undef, .pointer (some ⟨w.heap.size + 1, 0, none⟩), .pointer (some ⟨w.heap.size + 1 + 1, 0, none⟩), .string ⟨x.1.toArray⟩, .string s, .int .i64 s.size, .bool false, undef, .string s, .func (.func 78) #[] #[.pointer (some ⟨w.heap.size + 1 + 1 + 1, 0, none⟩)], .string ⟨x.1.toArray⟩, undef, undef, undef, undef, undef, undef, undef, undef, undef, undef, undef, undef, undef, undef, undef, undef, undef, undef, undef, undef, undef, undef, undef, undef, undef, undef, undef, undef, undef, undef, undef, undef], defers := [] }) ?assign ?body ?done ?stop
  case assign =>
    intro l x W K hK
    gi_wp2
    exact hK
  case body =>
    rintro l pre x W ⟨⟨v, hv, hrw, hz⟩, h1, h2, hB⟩ hlt
    have hsz := hB.size
    have hbl : (Pl.walkP R (vals pre)).1.length ≤ 2097153 := by
      have g1 := Pl.total_walkP R (vals pre)
      have g2 := total_vals pre
      have g3 : (Pl.walkP R (vals pre)).1.length ≤ Pl.total (Pl.walkP R (vals pre)).1 := by unfold Pl.total; omega
      omega
    have HS := walkP_snoc R (vals pre) x.1 hz
    rw [← vals_snoc] at HS
    obtain ⟨D, hD⟩ : ∃ D, D = (Pl.walkP R (vals pre)).1 := ⟨_, rfl⟩
    rw [← hD] at hrw hbl HS
    obtain ⟨p, hp⟩ : ∃ p, p = x.1 := ⟨_, rfl⟩
    have hpl := x.2
    rw [← hp] at HS hpl
    have HS' : Hid (Pl.walkP R (vals (pre ++ [x])) = if (Pl.stepW D p).2 = 0 then Pl.stepW D p else ([], (Pl.stepW D p).2)) := HS
    obtain ⟨q, hq⟩ : ∃ q : ByteArray, q = ⟨p.toArray⟩ := ⟨_, rfl⟩
    have hqd : q.data.toList = p := by rw [hq]
    have hqs : q.size ≤ 60 := by rw [size_data, hqd]; exact hpl
    have hql' : q.toList = p := by rw [Go.ByteArray.toList_eq, hqd]
    dsimp only
    rw [← hp, ← hq]
    have hqv : Value.string q = strV p := by rw [hq]; rfl
    clear HS hD hz hq hpl hlt
    obtain ⟨a6, cap6, rfl, hcap6, hmax6, _⟩ := row_shape hrw
    have hc0 := hv.cell
    have hf0 := hv.frozen
    have hc1 := h1.cell
    have hf1 := h1.frozen
    have hc2 := h2.cell
    have hf2 := h2.frozen
    by_cases c1 : p = [46]
    · have t1 : (q.toList == [46]) = true := by rw [hql', c1]; rfl
      have HF : Hid (Pl.walkP R (vals (pre ++ [x])) = (D, 0)) := by unfold Hid; rw [HS'.out]; simp [Pl.stepW, c1]
      clear hql' hqd c1 hqv hp
      gi_wp2
      exact ⟨KeepsFrom.refl _ _, trivial, ⟨_, hv, by rw [HF.out]; exact hrw, by rw [HF.out]⟩, h1, h2, hB⟩
    · have t1 : (q.toList == [46]) = false := by rw [hql']; simpa using c1
      by_cases c2 : p = [46, 46]
      · have t2 : (q.toList == [46, 46]) = true := by rw [hql', c2]; rfl
        by_cases c3 : D = []
        · have t3 : ((D.length : Int) == 0) = true := by rw [c3]; rfl
          have HF : Hid (Pl.walkP R (vals (pre ++ [x])) = ([], 2)) := by unfold Hid; rw [HS'.out]; simp [Pl.stepW, c2, c3]
          clear hql' hqd c1 c2 c3 hqv hp
          gi_wp2
          refine ⟨((KeepsOthers.setCell _ _ _).trans (KeepsOthers.setCell _ _ _)).from _, ⟨rfl, by rw [HF.out]; decide⟩, (h1.set _).other (by omega) _, by rw [HF.out]; exact (h2.other (by omega) _).set _, (hB.setCell (p := ⟨w.heap.size + 1, 0, none⟩) (by simp; omega) _).setCell (p := ⟨w.heap.size + 1 + 1, 0, none⟩) (by simp; omega) _⟩
        · have hDp : 0 < D.length := List.length_pos_iff.2 c3
          have t3 : ((D.length : Int) == 0) = false := by rw [beq_eq_false_iff_ne]; omega
          have HF : Hid (Pl.walkP R (vals (pre ++ [x])) = (D.dropLast, 0)) := by unfold Hid; rw [HS'.out]; simp [Pl.stepW, c2, c3]
          obtain ⟨g6, cap6', hv6, _, hpop⟩ := pop_row c3 hrw
          cases hv6
          clear hql' hqd c1 c2 c3 hqv hp
          gi_wp2
          exact ⟨(KeepsOthers.setCell _ _ _).from _, trivial, ⟨_, hv.set _, by rw [HF.out]; exact hpop.kept (grownBy_setCell' W _ _) (.inr (hv.not_row (by decide) hpop).symm), by rw [HF.out]⟩, h1.other (by omega) _, h2.other (by omega) _, hB.setCell (p := ⟨w.heap.size, 0, none⟩) hn₀ _⟩
      · have t2 : (q.toList == [46, 46]) = false := by rw [hql']; simpa using c2
        cases hpp : Pl.plainP p with
        | false =>
          have HF : Hid (Pl.walkP R (vals (pre ++ [x])) = ([], 1)) := by unfold Hid; rw [HS'.out]; simp [Pl.stepW, c1, c2, hpp]
          have hip := isPlain_any q
          rw [hqd, hpp] at hip
          clear hql' hqd c1 c2 hqv hp hpp
          gi_wp2_with (refine ⟨trivial, ?_⟩; gi_at_call 68; refine (CallsIn.inRound l (callsIn_wide.2 (hip _ (by unfold maxLen; omega)))).mono ?_; rintro e w' ⟨rfl, rfl⟩)
          refine ⟨((KeepsOthers.setCell _ _ _).trans (KeepsOthers.setCell _ _ _)).from _, ⟨rfl, by rw [HF.out]; decide⟩, (h1.set _).other (by omega) _, by rw [HF.out]; exact (h2.other (by omega) _).set _, (hB.setCell (p := ⟨w.heap.size + 1, 0, none⟩) (by simp; omega) _).setCell (p := ⟨w.heap.size + 1 + 1, 0, none⟩) (by simp; omega) _⟩
        | true =>
          have HF : Hid (Pl.walkP R (vals (pre ++ [x])) = (D ++ [p], 0)) := by unfold Hid; rw [HS'.out]; simp [Pl.stepW, c1, c2, hpp]
          have hip := isPlain_any q
          rw [hqd, hpp] at hip
          have HQ : Hid (Value.string q = strV p) := hqv
          clear hql' hqd c1 c2 hqv hp hpp
          gi_wp2_with (first | (refine ⟨trivial, ?_⟩; gi_at_call 68; refine (CallsIn.inRound l (callsIn_wide.2 (hip _ (by unfold maxLen; omega)))).mono ?_; rintro e w' ⟨rfl, rfl⟩) | (gi_at_builtin; refine wpListIn_append_own _ rfl _ _ 23 rfl n₀ 9 i0 (.string ByteArray.empty) 1 16 Tryz.underlying23 hi hz0 hz1 hz2 rfl (by decide) _ _ _ rfl (hrw.alloc _) ⟨_, 0, none⟩ 1 1 [.string q] rfl rfl (cell_one_new _ _ _) (by simp [Value.oneCell']) (by unfold maxLen; omega) (by omega) (by simp; omega) ?_; intro v' w1 hown' hgrow _; obtain ⟨g', cap', rfl⟩ := ownsRow_succ hown'; obtain ⟨hv1, hv2, hr2, hk2, hb2⟩ := hv.appended (by decide) hrw (by omega) hn₀ hown' hgrow; have hc3 := hv1.cell; have hf3 := hv1.frozen))
          refine ⟨hk2.from _, trivial, ⟨_, hv2, ?_, by rw [HF.out]⟩, ((h1.alloc _).kept hgrow (h1.not_row (by decide) hrw)).other (by omega) _, ((h2.alloc _).kept hgrow (h2.not_row (by decide) hrw)).other (by omega) _, hB.trans hb2⟩
          rw [HF.out]; rw [HQ.out] at hr2; simpa using hr2
  case done =>
    rintro D ys W hD hS ⟨⟨v, hv, hrw, hz⟩, h1, h2, hB⟩ hK
    rw [hS] at hrw hz
    have hsz := hB.size
    have hform := formOf_any n₀ v _ W hrw (by
      have g1 := Pl.total_walkP R (Pl.split s.data.toList)
      have g2 := Pl.total_split s.data.toList
      rw [← size_data] at g2
      omega)
    rw [show ((Pl.walkP R (Pl.split s.data.toList)).1, (0 : Int)) = Pl.walkP R (Pl.split s.data.toList) by rw [← hz], HFV.out] at hform
    obtain ⟨a6, cap6, rfl, _, _, _⟩ := row_shape hrw
    have hc0 := hv.cell
    clear hz hrw
    gi_wp2_with (refine ⟨trivial, ?_⟩; gi_at_call 69; refine (callsIn_wide.2 hform).mono ?_; rintro e w2 ⟨rfl, hb⟩; have g1 := Boxed.below h1 hb h1.lt; have g2 := Boxed.below h2 hb h2.lt; have gc1 := g1.cell; have gf1 := g1.frozen; have gc2 := g2.cell; have gf2 := g2.frozen)
    have hK2 : w2.heap[D]? = some (.deferred (some [])) := (hb.block D (Array.getElem?_eq_some_iff.1 hK).1).trans hK
    have hK3 := (KeepsOthers.setCell (w2.setCell ⟨w.heap.size + 1, 0, none⟩ (.string t)) ⟨w.heap.size + 1 + 1, 0, none⟩ (.int .i64 rc)).same D _ ((KeepsOthers.setCell w2 ⟨w.heap.size + 1, 0, none⟩ (.string t)).same D _ hK2 rfl) rfl
    have e1 : Boxed ((w2.setCell ⟨w.heap.size + 1, 0, none⟩ (.string t)).setCell ⟨w.heap.size + 1 + 1, 0, none⟩ (.int .i64 rc)) (w.heap.size + 1) 91 (.string t) := (g1.set _).other (by omega) _
    have e2 : Boxed ((w2.setCell ⟨w.heap.size + 1, 0, none⟩ (.string t)).setCell ⟨w.heap.size + 1 + 1, 0, none⟩ (.int .i64 rc)) (w.heap.size + 1 + 1) 3 (.int .i64 rc) := (g2.other (by omega) _).set _
    refine ⟨by simp, .inl ⟨_, _, rfl, run_takeDeferred hK3, ?_⟩⟩
    have f1 := cell_kept e1.cell (grownBy_putObj' _ D (.deferred none)) (fun r e => by cases e; exact ⟨_, hK3, rfl⟩)
    have f2 := cell_kept e2.cell (grownBy_putObj' _ D (.deferred none)) (fun r e => by cases e; exact ⟨_, hK3, rfl⟩)
    refine ⟨.tuple #[.agg #[.string t], .int .i64 rc], ?_, rfl, (((hB.trans (hb.mono (by omega))).setCell (p := ⟨w.heap.size + 1, 0, none⟩) (by simp; omega) _).setCell (p := ⟨w.heap.size + 1 + 1, 0, none⟩) (by simp; omega) _).trans (belowK_b (w := w) hn₀ _ D _ _ (by simp at hD; omega) hK3 rfl rfl)⟩
    simp [results, Tryz.results55, go_sem, f1, f2]
  case stop =>
    rintro D c pre W hD hpre ⟨⟨rfl, hne⟩, h1, h2, hB⟩ hK
    obtain ⟨rest, hrest⟩ := hpre
    have hw : Pl.walkP R (Pl.split s.data.toList) = Pl.walkP R (vals pre) := by rw [← hrest, Pl.walkP_append, if_neg hne]
    have hv : (Value.tuple #[.agg #[.string t], .int .i64 rc]) = .tuple #[.agg #[.string ⟨#[]⟩], .int .i64 (Pl.walkP R (vals pre)).2] := by
      rw [← HFV.out, hw]; unfold Pl.fin; rw [if_neg hne]; rfl
    have HV : Hid ((Value.tuple #[.agg #[.string t], .int .i64 rc]) = .tuple #[.agg #[.string ⟨#[]⟩], .int .i64 (Pl.walkP R (vals pre)).2]) := hv
    clear hv hw hrest hne
    gi_wp2
    refine ⟨by simp, .inl ⟨_, _, rfl, run_takeDeferred hK, ?_⟩⟩
    have f1 := cell_kept h1.cell (grownBy_putObj' _ D (.deferred none)) (fun r e => by cases e; exact ⟨_, hK, rfl⟩)
    have f2 := cell_kept h2.cell (grownBy_putObj' _ D (.deferred none)) (fun r e => by cases e; exact ⟨_, hK, rfl⟩)
    refine ⟨.tuple #[.agg #[.string ⟨#[]⟩], .int .i64 (Pl.walkP R (vals pre)).2], ?_, by rw [HV.out], hB.trans (belowK_b (w := w) hn₀ W D _ _ (by simp at hD; omega) hK rfl rfl)⟩
    simp [results, Tryz.results55, go_sem, f1, f2]

set_option maxRecDepth 100000 in
set_option maxHeartbeats 2000000 in
theorem walk_any (n₀ : Nat) (v0 : Value) (R : List (List UInt8)) (s : ByteArray) (w : World) (hrow : w.ownsRow n₀ 9 1 v0 R.length (R.map strV)) (hn₀ : n₀ ≤ w.heap.size) (hR : Pl.total R ≤ 1048576) :
    Calls Tryz.prog 55 #[v0, .string s] w fun e w' => e = .returned (formV (Pl.nm R s.data.toList)) ∧ Below n₀ w w' := by
  unfold Pl.nm
  by_cases h60 : 60 < s.data.toList.length
  · rw [if_pos h60]
    rw [← size_data] at h60
    obtain ⟨a0, cap0, rfl, hcap0, hmax0, _⟩ := row_shape hrow
    clear hrow
    go_enter Tryz.func55, Tryz.ntmps55
    go_wp2
    exact bodyPost_ret (v := formV (3, [])) (by simp [results, Tryz.results55, go_sem, formV, strV]) rfl ⟨rfl, (((Below.refl _ w).alloc hn₀ _).alloc (by simp; omega) _).alloc (by simp; omega) _⟩
  · rw [if_neg h60]
    exact walk_short n₀ v0 R s w hrow hn₀ hR (by rw [size_data]; omega)

end Go.Proofs.YtimgafblpmjajaaGreat
namespace Go.Proofs.YtimgafblpmjajaaGreat

open Go.RowKit

/-- What asWritten answers. -/
def writtenV (n : List UInt8) : Value := if isN n then .tuple #[.agg #[strV n], .bool true] else .tuple #[.agg #[strV []], .bool false]

set_option maxRecDepth 100000 in
set_option maxHeartbeats 2000000 in
theorem asWritten_any (s : ByteArray) (w : World) :
    Calls Tryz.prog 47 #[.string s] w fun e w' => e = .returned (writtenV s.data.toList) ∧ Below w.heap.size w w' := by
  obtain ⟨c, x, hn⟩ : ∃ c x, Pl.nm [] s.data.toList = (c, x) := ⟨_, _, rfl⟩
  have HN : Hid (Pl.nm [] s.data.toList = (c, x)) := hn
  have his : isN s.data.toList = (decide (c = 0) && decide (x = s.data.toList)) := by rw [isN, hn]
  obtain ⟨t, ht⟩ : ∃ t : ByteArray, t.data.toList = x := ⟨⟨x.toArray⟩, by simp⟩
  have htv : strV x = .string t := by rw [← ht, strV_data]
  obtain ⟨r, hr⟩ : ∃ r, r = writtenV s.data.toList := ⟨_, rfl⟩
  rw [← hr]
  have HR : Hid (r = writtenV s.data.toList) := hr
  have HIS : Hid (isN s.data.toList = (decide (c = 0) && decide (x = s.data.toList))) := his
  have HTX : Hid (t.data.toList = x) := ht
  have HTV : Hid (strV x = .string t) := htv
  clear hn his hr ht htv
  go_enter Tryz.func47, Tryz.ntmps47
  go_wp2_with fail
  refine (walk_any (w.heap.size + 1) (.slice none 0 0) [] s _ (World.ownsRow_nil _ _ _ _) (by simp) (by decide)).mono ?_
  rw [HN.out]
  unfold formV
  rw [HTV.out]
  rintro e w1 ⟨rfl, hb⟩
  have e0 : w1.cell? ⟨w.heap.size, 0, none⟩ = some (.string ⟨#[]⟩) := below_cell0 hb (by omega) (by simp [go_sem])
  have f0 : w1.frozen? ⟨w.heap.size, 0, none⟩ = false := below_frz hb (by omega) (by simp [go_sem])
  have hz : w.heap.size < w1.heap.size := by have := hb.size; simp at this; omega
  have hB : Below w.heap.size w w1 := ((Below.refl _ w).alloc (Nat.le_refl _) _).trans (hb.mono (by omega))
  clear hb
  by_cases hc : c = 0
  · subst hc
    by_cases hx : x = s.data.toList
    · obtain rfl : t = s := str_eq (HTX.out.trans hx) rfl
      have hrv : r = .tuple #[.agg #[.string t], .bool true] := by rw [HR.out, writtenV, HIS.out, if_pos (by simp [hx]), strV_data]
      subst hrv
      clear hx
      go_wp2
      exact bodyPost_ret (v := .tuple #[.agg #[.string t], .bool true]) (by simp [results, Tryz.results47, go_sem, *]) rfl ⟨rfl, (hB.setCell (p := ⟨w.heap.size, 0, none⟩) (Nat.le_refl _) _).alloc (by simp [World.setCell]; omega) _⟩
    · have hrv : r = .tuple #[.agg #[.string ⟨#[]⟩], .bool false] := by rw [HR.out, writtenV, HIS.out, if_neg (by simp [hx])]; rfl
      subst hrv
      have hne : (t.toList == s.toList) = false := by rw [str_beq HTX.out rfl]; simpa using hx
      clear hx
      go_wp2
      exact bodyPost_ret (v := .tuple #[.agg #[.string ⟨#[]⟩], .bool false]) (by simp [results, Tryz.results47, go_sem, *]) rfl ⟨rfl, (hB.setCell (p := ⟨w.heap.size, 0, none⟩) (Nat.le_refl _) _).alloc (by simp [World.setCell]; omega) _⟩
  · have hrv : r = .tuple #[.agg #[.string ⟨#[]⟩], .bool false] := by rw [HR.out, writtenV, HIS.out, if_neg (by simp [hc])]; rfl
    subst hrv
    have hcb : (c == 0) = false := by simpa using hc
    go_wp2
    exact bodyPost_ret (v := .tuple #[.agg #[.string ⟨#[]⟩], .bool false]) (by simp [results, Tryz.results47, go_sem, *]) rfl ⟨rfl, (hB.setCell (p := ⟨w.heap.size, 0, none⟩) (Nat.le_refl _) _).alloc (by simp [World.setCell]; omega) _⟩

theorem writtenV_shape (n : List UInt8) : ∃ t : ByteArray, writtenV n = .tuple #[.agg #[.string t], .bool (isN n)] := by
  unfold writtenV
  cases isN n
  · exact ⟨_, rfl⟩
  · exact ⟨_, rfl⟩

set_option maxRecDepth 100000 in
set_option maxHeartbeats 2000000 in
theorem isOddRoot_any (s : ByteArray) (w : World) :
    Calls Tryz.prog 44 #[.string s] w fun e w' => e = .returned (.bool (oddRoot s.data.toList)) ∧ Below w.heap.size w w' := by
  obtain ⟨t, hwv⟩ := writtenV_shape s.data.toList
  have HW : Hid (writtenV s.data.toList = .tuple #[.agg #[.string t], .bool (isN s.data.toList)]) := hwv
  have HO : Hid (oddRoot s.data.toList = (!s.toList.isEmpty && !isN s.data.toList)) := by
    unfold Hid oddRoot; rw [str_emp rfl]; simp
  rw [HO.out]
  obtain ⟨q, hq⟩ : ∃ q, q = isN s.data.toList := ⟨_, rfl⟩
  rw [← hq] at HW ⊢
  clear hwv hq
  go_enter Tryz.func44, Tryz.ntmps44
  go_wp2_with fail
  refine (asWritten_any s _).mono ?_
  rw [HW.out]
  rintro e w1 ⟨rfl, hb⟩
  go_wp2
  all_goals go_ret
  all_goals refine ⟨ret_bool ?_, hb.alloc hb.size _⟩
  all_goals first | rfl | (simp_all; done)

set_option maxRecDepth 100000 in
set_option maxHeartbeats 2000000 in
theorem indexFunc_any (v : Value) (L : List (List UInt8)) (w : World) (h : Strs w v L) (hL : L.length ≤ 1048576) :
    Calls Tryz.prog 61 #[v, .func (.func 44) #[] #[]] w fun e w' => ∃ i : Int, e = .returned (.int .i64 i) ∧ (decide (0 ≤ i) = L.any oddRoot) ∧ Below w.heap.size w w' := by
  obtain ⟨a, cap, rfl, hcap, hmax, hc⟩ := h
  have HC : Hid (∀ k, (hk : k < L.length) → ∃ b o, a = some ⟨b, o, none⟩ ∧ b < w.heap.size ∧ w.cell? ⟨b, o + k, none⟩ = some (strV L[k])) := hc
  clear hc hmax
  go_enter Tryz.func61, Tryz.ntmps61
  go_wp2
  go_loopw [8] (fun i wr => ∃ k : Nat, k ≤ L.length ∧ i = .int .i64 k ∧ (∀ j (hj : j < L.length), j < k → oddRoot L[j] = false) ∧ Below w.heap.size w wr) (fun i _ => L.length - (intOf i).toNat)
  case atStart => exact ⟨0, Nat.zero_le _, rfl, fun j _ h => absurd h (by omega), Below.refl _ _⟩
  case round =>
    obtain ⟨k, hk, rfl, hodd, hB⟩ := hrel
    have HODD : Hid (∀ j (hj : j < L.length), j < k → oddRoot L[j] = false) := hodd
    clear hodd
    by_cases hlt : k < L.length
    · obtain ⟨b, o, rfl, hb, h0⟩ := HC.out k hlt
      have c0 := (hB.cell (p := ⟨b, o + k, none⟩) hb).trans h0
      obtain ⟨s, hs⟩ : ∃ s : ByteArray, s.data.toList = L[k] := ⟨⟨L[k].toArray⟩, by simp⟩
      have hsv : strV L[k] = .string s := by rw [← hs, strV_data]
      rw [hsv] at c0
      clear h0 hsv
      go_wp2_with fail
      refine (isOddRoot_any s _).mono ?_
      rw [hs]
      obtain ⟨q, hq⟩ : ∃ q, q = oddRoot L[k] := ⟨_, rfl⟩
      rw [← hq]
      have HQ : Hid (q = oddRoot L[k]) := hq
      clear hq hs
      rintro e w1 ⟨rfl, hb1⟩
      have hB1 := hB.trans (hb1.mono hB.size)
      cases q with
      | true =>
        go_wp2
        go_ret
        exact ⟨k, rfl, by rw [show decide ((0 : Int) ≤ k) = true by simp]; exact (List.any_eq_true.2 ⟨_, List.getElem_mem hlt, HQ.out.symm⟩).symm, hB1⟩
      | false =>
        go_wp2
        go_roundw
        case rel => exact ⟨k + 1, by omega, by go_num, fun j hj hjk => by
          by_cases hjk' : j = k
          · subst hjk'; exact HQ.out.symm
          · exact HODD.out j hj (by omega), hB1⟩
        case measure => simp [intOf]; omega
    · have hroot : L.any oddRoot = false := by
        rw [List.any_eq_false]
        intro r hr
        obtain ⟨j, hj, rfl⟩ := List.getElem_of_mem hr
        rw [HODD.out j hj (by omega)]; decide
      have HROOT : Hid (L.any oddRoot = false) := hroot
      clear hroot
      go_wp2
      go_ret
      exact ⟨-1, rfl, by rw [HROOT.out]; decide, hB⟩

set_option maxRecDepth 100000 in
set_option maxHeartbeats 2000000 in
theorem containsFunc_any (v : Value) (L : List (List UInt8)) (w : World) (h : Strs w v L) (hL : L.length ≤ 1048576) :
    Calls Tryz.prog 43 #[v, .func (.func 44) #[] #[]] w fun e w' => e = .returned (.bool (L.any oddRoot)) ∧ Below w.heap.size w w' := by
  obtain ⟨a, cap, hv⟩ := h.slice
  subst hv
  go_enter Tryz.func43, Tryz.ntmps43
  go_wp2_with fail
  refine (indexFunc_any _ L w h hL).mono ?_
  rintro e w1 ⟨i, rfl, hi, hb⟩
  have HI : Hid (decide (0 ≤ i) = L.any oddRoot) := hi
  clear hi
  go_wp2
  all_goals go_ret
  all_goals exact ⟨ret_bool HI.out, hb⟩

set_option maxRecDepth 100000 in
set_option maxHeartbeats 2000000 in
theorem areReadings_any (v : Value) (L : List Int) (w : World) (h : Nums w v L) (hL : L.length ≤ 1048576) :
    Calls Tryz.prog 45 #[v] w fun e w' => e = .returned (.bool (asc (-1) L)) ∧ w' = w := by
  obtain ⟨a, cap, rfl, hcap, hmax, hc⟩ := h
  have HC : Hid (∀ k, (hk : k < L.length) → ∃ b o, a = some ⟨b, o, none⟩ ∧ b < w.heap.size ∧ w.cell? ⟨b, o + k, none⟩ = some (.int .i64 L[k])) := hc
  clear hc hmax
  go_enter Tryz.func45, Tryz.ntmps45
  go_wp2
  go_loop [3, 8] (fun l i => ∃ (k : Nat) (lst : Int), k ≤ L.length ∧ i = .int .i64 k ∧ l = .int .i64 (lst + 1) ∧ lst = (L.take k).getLastD (-1) ∧ asc (-1) (L.take k) = true ∧ -1 ≤ lst ∧ lst < 400) (fun _ i => L.length - (intOf i).toNat)
  case atStart => exact ⟨0, -1, Nat.zero_le _, rfl, rfl, rfl, rfl, by decide, by decide⟩
  case round =>
    obtain ⟨k, lst, hk, rfl, rfl, hlst, hasc, hlo, hhi⟩ := hrel
    by_cases hlt : k < L.length
    · obtain ⟨b, o, rfl, hb, c0⟩ := HC.out k hlt
      have hstep := asc_take L k hlt hasc
      rw [← hlst] at hstep
      have hlast := take_snoc_last L k hlt (-1)
      obtain ⟨f, hf⟩ : ∃ f, f = L[k] := ⟨_, rfl⟩
      rw [← hf] at c0 hstep hlast
      clear hf hlst hasc
      by_cases hx1 : f ≤ lst
      · have hA : asc (-1) L = false := asc_of_take _ (k + 1) (by rw [hstep, if_pos (.inl hx1)])
        have HA : Hid (asc (-1) L = false) := hA
        clear hA hstep hlast
        go_wp2
        go_ret
        exact ⟨ret_bool HA.out.symm, rfl⟩
      · by_cases hx2 : 400 ≤ f
        · have hA : asc (-1) L = false := asc_of_take _ (k + 1) (by rw [hstep, if_pos (.inr hx2)])
          have HA : Hid (asc (-1) L = false) := hA
          clear hA hstep hlast
          go_wp2
          go_ret
          exact ⟨ret_bool HA.out.symm, rfl⟩
        · rw [if_neg (by omega)] at hstep
          have HST : Hid (asc (-1) (L.take (k + 1)) = true ∧ (L.take (k + 1)).getLastD (-1) = f) := ⟨hstep, hlast⟩
          clear hstep hlast
          go_wp2
          go_round
          case rel => exact ⟨k + 1, f, by omega, by go_num, by go_num, HST.out.2.symm, HST.out.1, by omega, by omega⟩
          case measure => simp [intOf]; omega
    · have hA : asc (-1) L = true := by rwa [List.take_of_length_le (by omega)] at hasc
      have HA : Hid (asc (-1) L = true) := hA
      clear hA hasc hlst
      go_wp2
      go_ret
      exact ⟨ret_bool HA.out.symm, rfl⟩

set_option maxRecDepth 100000 in
set_option maxHeartbeats 2000000 in
theorem hasTooMany_any (a1 a2 a3 : Option Addr) (n1 n2 n3 k1 k2 k3 : Nat) (w : World) (h1 : n1 ≤ 1048576) (h2 : n2 ≤ 1048576) (h3 : n3 ≤ 1048576) :
    Calls Tryz.prog 42 #[.agg #[.slice a1 n1 k1, .slice a2 n2 k2, .slice a3 n3 k3]] w fun e w' => e = .returned (.bool (decide (60 < n2 ∨ 8 < n1 ∨ 400 < n3))) ∧ Below w.heap.size w w' := by
  go_enter Tryz.func42, Tryz.ntmps42
  go_wp2
  all_goals go_ret
  all_goals refine ⟨ret_bool ?_, (Below.refl _ _).alloc (Nat.le_refl _) _⟩
  all_goals (rw [Bool.eq_iff_iff]; simp_all <;> omega)

end Go.Proofs.YtimgafblpmjajaaGreat
namespace Go.Proofs.YtimgafblpmjajaaGreat

open Go.RowKit

/-- A line as a step. -/
def stepV (op : Int) (s : ByteArray) (num skip : Int) : Value :=
  if op = 1 then .iface 111 (.agg #[.int .i64 num]) else if op = 2 then .iface 112 (.agg #[.int .i64 num])
  else if op = 3 then .iface 108 (.agg #[.string s]) else if op = 4 then .iface 109 (.agg #[.string s]) else if op = 5 then .iface 113 (.agg #[.string s])
  else if op = 6 then .iface 114 (.agg #[.int .i64 num]) else if op = 7 then .iface 116 (.agg #[.string s, .int .i64 skip]) else .nilIface

set_option maxRecDepth 100000 in
set_option maxHeartbeats 4000000 in
theorem stepOf_any (op num skip : Int) (s : ByteArray) (w : World) :
    Calls Tryz.prog 33 #[.agg #[.int .i64 op, .string s, .int .i64 num, .int .i64 skip]] w fun e w' => e = .returned (stepV op s num skip) ∧ Below w.heap.size w w' := by
  unfold stepV
  by_cases h1 : op = 1
  · subst h1
    rw [if_pos rfl]
    go_enter Tryz.func33, Tryz.ntmps33
    go_wp2
    go_ret
    exact ⟨rfl, (Below.refl _ _).alloc (Nat.le_refl _) _⟩
  rw [if_neg h1]
  by_cases h2 : op = 2
  · subst h2
    rw [if_pos rfl]
    go_enter Tryz.func33, Tryz.ntmps33
    go_wp2
    go_ret
    exact ⟨rfl, (Below.refl _ _).alloc (Nat.le_refl _) _⟩
  rw [if_neg h2]
  by_cases h3 : op = 3
  · subst h3
    rw [if_pos rfl]
    go_enter Tryz.func33, Tryz.ntmps33
    go_wp2
    go_ret
    exact ⟨rfl, (Below.refl _ _).alloc (Nat.le_refl _) _⟩
  rw [if_neg h3]
  by_cases h4 : op = 4
  · subst h4
    rw [if_pos rfl]
    go_enter Tryz.func33, Tryz.ntmps33
    go_wp2
    go_ret
    exact ⟨rfl, (Below.refl _ _).alloc (Nat.le_refl _) _⟩
  rw [if_neg h4]
  by_cases h5 : op = 5
  · subst h5
    rw [if_pos rfl]
    go_enter Tryz.func33, Tryz.ntmps33
    go_wp2
    go_ret
    exact ⟨rfl, (Below.refl _ _).alloc (Nat.le_refl _) _⟩
  rw [if_neg h5]
  by_cases h6 : op = 6
  · subst h6
    rw [if_pos rfl]
    go_enter Tryz.func33, Tryz.ntmps33
    go_wp2
    go_ret
    exact ⟨rfl, (Below.refl _ _).alloc (Nat.le_refl _) _⟩
  rw [if_neg h6]
  by_cases h7 : op = 7
  · subst h7
    rw [if_pos rfl]
    go_enter Tryz.func33, Tryz.ntmps33
    go_wp2
    go_ret
    exact ⟨rfl, (Below.refl _ _).alloc (Nat.le_refl _) _⟩
  rw [if_neg h7]
  have n1 : (op == 1) = false := by simpa using h1
  have n2 : (op == 2) = false := by simpa using h2
  have n3 : (op == 3) = false := by simpa using h3
  have n4 : (op == 4) = false := by simpa using h4
  have n5 : (op == 5) = false := by simpa using h5
  have n6 : (op == 6) = false := by simpa using h6
  have n7 : (op == 7) = false := by simpa using h7
  go_enter Tryz.func33, Tryz.ntmps33
  go_wp2
  go_ret
  exact ⟨rfl, (Below.refl _ _).alloc (Nat.le_refl _) _⟩

set_option maxRecDepth 100000 in
set_option maxHeartbeats 4000000 in
theorem isShort_any (s : ByteArray) (w : World) (hs : s.size ≤ 1048576) :
    Calls Tryz.prog 73 #[.string s] w fun e w' => e = .returned (.bool (decide (s.size ≤ 120))) ∧ w' = w := by
  go_enter Tryz.func73, Tryz.ntmps73
  go_wp2
  go_ret
  exact ⟨ret_bool (by rw [Bool.eq_iff_iff]; simp; omega), rfl⟩

/-- Whether a step keeps within its limits. -/
def fitB (op : Int) (s : ByteArray) (skip b : Int) : Bool :=
  if op = 1 ∨ op = 2 ∨ op = 6 then true
  else if op = 3 ∨ op = 4 ∨ op = 5 then decide (s.size ≤ 120)
  else if op = 7 then decide (s.size ≤ 120) && (decide (0 ≤ skip) && decide (skip ≤ b)) else false

theorem as115_115 (v : Value) (W : World) : (Instr.typeAssert (.iface 111 v) 84 111 true).run Tryz.prog W = .ok (.tuple #[v, .bool true]) W := by kernel_rfl
theorem as115_116 (v : Value) (W : World) : (Instr.typeAssert (.iface 111 v) 84 112 true).run Tryz.prog W = .ok (.tuple #[.agg #[.int .i64 0], .bool false]) W := by kernel_rfl
theorem as115_121 (v : Value) (W : World) : (Instr.typeAssert (.iface 111 v) 84 114 true).run Tryz.prog W = .ok (.tuple #[.agg #[.int .i64 0], .bool false]) W := by kernel_rfl
theorem as116_115 (v : Value) (W : World) : (Instr.typeAssert (.iface 112 v) 84 111 true).run Tryz.prog W = .ok (.tuple #[.agg #[.int .i64 0], .bool false]) W := by kernel_rfl
theorem as116_116 (v : Value) (W : World) : (Instr.typeAssert (.iface 112 v) 84 112 true).run Tryz.prog W = .ok (.tuple #[v, .bool true]) W := by kernel_rfl
theorem as116_121 (v : Value) (W : World) : (Instr.typeAssert (.iface 112 v) 84 114 true).run Tryz.prog W = .ok (.tuple #[.agg #[.int .i64 0], .bool false]) W := by kernel_rfl
theorem as121_115 (v : Value) (W : World) : (Instr.typeAssert (.iface 114 v) 84 111 true).run Tryz.prog W = .ok (.tuple #[.agg #[.int .i64 0], .bool false]) W := by kernel_rfl
theorem as121_116 (v : Value) (W : World) : (Instr.typeAssert (.iface 114 v) 84 112 true).run Tryz.prog W = .ok (.tuple #[.agg #[.int .i64 0], .bool false]) W := by kernel_rfl
theorem as121_121 (v : Value) (W : World) : (Instr.typeAssert (.iface 114 v) 84 114 true).run Tryz.prog W = .ok (.tuple #[v, .bool true]) W := by kernel_rfl
theorem as118_115 (v : Value) (W : World) : (Instr.typeAssert (.iface 108 v) 84 111 true).run Tryz.prog W = .ok (.tuple #[.agg #[.int .i64 0], .bool false]) W := by kernel_rfl
theorem as118_116 (v : Value) (W : World) : (Instr.typeAssert (.iface 108 v) 84 112 true).run Tryz.prog W = .ok (.tuple #[.agg #[.int .i64 0], .bool false]) W := by kernel_rfl
theorem as118_121 (v : Value) (W : World) : (Instr.typeAssert (.iface 108 v) 84 114 true).run Tryz.prog W = .ok (.tuple #[.agg #[.int .i64 0], .bool false]) W := by kernel_rfl
theorem as118_118 (v : Value) (W : World) : (Instr.typeAssert (.iface 108 v) 84 108 true).run Tryz.prog W = .ok (.tuple #[v, .bool true]) W := by kernel_rfl
theorem as119_115 (v : Value) (W : World) : (Instr.typeAssert (.iface 109 v) 84 111 true).run Tryz.prog W = .ok (.tuple #[.agg #[.int .i64 0], .bool false]) W := by kernel_rfl
theorem as119_116 (v : Value) (W : World) : (Instr.typeAssert (.iface 109 v) 84 112 true).run Tryz.prog W = .ok (.tuple #[.agg #[.int .i64 0], .bool false]) W := by kernel_rfl
theorem as119_121 (v : Value) (W : World) : (Instr.typeAssert (.iface 109 v) 84 114 true).run Tryz.prog W = .ok (.tuple #[.agg #[.int .i64 0], .bool false]) W := by kernel_rfl
theorem as119_118 (v : Value) (W : World) : (Instr.typeAssert (.iface 109 v) 84 108 true).run Tryz.prog W = .ok (.tuple #[.agg #[.string ⟨#[]⟩], .bool false]) W := by kernel_rfl
theorem as119_119 (v : Value) (W : World) : (Instr.typeAssert (.iface 109 v) 84 109 true).run Tryz.prog W = .ok (.tuple #[v, .bool true]) W := by kernel_rfl
theorem as120_115 (v : Value) (W : World) : (Instr.typeAssert (.iface 113 v) 84 111 true).run Tryz.prog W = .ok (.tuple #[.agg #[.int .i64 0], .bool false]) W := by kernel_rfl
theorem as120_116 (v : Value) (W : World) : (Instr.typeAssert (.iface 113 v) 84 112 true).run Tryz.prog W = .ok (.tuple #[.agg #[.int .i64 0], .bool false]) W := by kernel_rfl
theorem as120_121 (v : Value) (W : World) : (Instr.typeAssert (.iface 113 v) 84 114 true).run Tryz.prog W = .ok (.tuple #[.agg #[.int .i64 0], .bool false]) W := by kernel_rfl
theorem as120_118 (v : Value) (W : World) : (Instr.typeAssert (.iface 113 v) 84 108 true).run Tryz.prog W = .ok (.tuple #[.agg #[.string ⟨#[]⟩], .bool false]) W := by kernel_rfl
theorem as120_119 (v : Value) (W : World) : (Instr.typeAssert (.iface 113 v) 84 109 true).run Tryz.prog W = .ok (.tuple #[.agg #[.string ⟨#[]⟩], .bool false]) W := by kernel_rfl
theorem as120_120 (v : Value) (W : World) : (Instr.typeAssert (.iface 113 v) 84 113 true).run Tryz.prog W = .ok (.tuple #[v, .bool true]) W := by kernel_rfl
theorem as123_115 (v : Value) (W : World) : (Instr.typeAssert (.iface 116 v) 84 111 true).run Tryz.prog W = .ok (.tuple #[.agg #[.int .i64 0], .bool false]) W := by kernel_rfl
theorem as123_116 (v : Value) (W : World) : (Instr.typeAssert (.iface 116 v) 84 112 true).run Tryz.prog W = .ok (.tuple #[.agg #[.int .i64 0], .bool false]) W := by kernel_rfl
theorem as123_121 (v : Value) (W : World) : (Instr.typeAssert (.iface 116 v) 84 114 true).run Tryz.prog W = .ok (.tuple #[.agg #[.int .i64 0], .bool false]) W := by kernel_rfl
theorem as123_118 (v : Value) (W : World) : (Instr.typeAssert (.iface 116 v) 84 108 true).run Tryz.prog W = .ok (.tuple #[.agg #[.string ⟨#[]⟩], .bool false]) W := by kernel_rfl
theorem as123_119 (v : Value) (W : World) : (Instr.typeAssert (.iface 116 v) 84 109 true).run Tryz.prog W = .ok (.tuple #[.agg #[.string ⟨#[]⟩], .bool false]) W := by kernel_rfl
theorem as123_120 (v : Value) (W : World) : (Instr.typeAssert (.iface 116 v) 84 113 true).run Tryz.prog W = .ok (.tuple #[.agg #[.string ⟨#[]⟩], .bool false]) W := by kernel_rfl
theorem as123_123 (v : Value) (W : World) : (Instr.typeAssert (.iface 116 v) 84 116 true).run Tryz.prog W = .ok (.tuple #[v, .bool true]) W := by kernel_rfl
theorem as0_115 (W : World) : (Instr.typeAssert .nilIface 84 111 true).run Tryz.prog W = .ok (.tuple #[.agg #[.int .i64 0], .bool false]) W := by kernel_rfl
theorem as0_116 (W : World) : (Instr.typeAssert .nilIface 84 112 true).run Tryz.prog W = .ok (.tuple #[.agg #[.int .i64 0], .bool false]) W := by kernel_rfl
theorem as0_121 (W : World) : (Instr.typeAssert .nilIface 84 114 true).run Tryz.prog W = .ok (.tuple #[.agg #[.int .i64 0], .bool false]) W := by kernel_rfl
theorem as0_118 (W : World) : (Instr.typeAssert .nilIface 84 108 true).run Tryz.prog W = .ok (.tuple #[.agg #[.string ⟨#[]⟩], .bool false]) W := by kernel_rfl
theorem as0_119 (W : World) : (Instr.typeAssert .nilIface 84 109 true).run Tryz.prog W = .ok (.tuple #[.agg #[.string ⟨#[]⟩], .bool false]) W := by kernel_rfl
theorem as0_120 (W : World) : (Instr.typeAssert .nilIface 84 113 true).run Tryz.prog W = .ok (.tuple #[.agg #[.string ⟨#[]⟩], .bool false]) W := by kernel_rfl
theorem as0_123 (W : World) : (Instr.typeAssert .nilIface 84 116 true).run Tryz.prog W = .ok (.tuple #[.agg #[.string ⟨#[]⟩, .int .i64 0], .bool false]) W := by kernel_rfl

set_option maxRecDepth 100000 in
set_option maxHeartbeats 4000000 in
theorem fits_any (op num skip b : Int) (s : ByteArray) (w : World) (hs : s.size ≤ 1048576) :
    Calls Tryz.prog 62 #[stepV op s num skip, .int .i64 b] w fun e w' => e = .returned (.bool (fitB op s skip b)) ∧ Below w.heap.size w w' := by
  have HSH : Hid (∀ W, Calls Tryz.prog 73 #[.string s] W fun e w' => e = .returned (.bool (decide (s.size ≤ 120))) ∧ w' = W) := fun W => isShort_any s W hs
  obtain ⟨r, hr⟩ : ∃ r, r = fitB op s skip b := ⟨_, rfl⟩
  rw [← hr]
  clear hs
  by_cases h1 : op = 1
  · subst h1
    have hrt : r = true := hr
    subst hrt
    simp (config := { decide := true }) only [stepV, if_true, if_false]
    clear hr
    have t115 := as115_115
    have t116 := as115_116
    have t121 := as115_121
    go_enter Tryz.func62, Tryz.ntmps62
    go_wp2
    go_ret
    exact ⟨rfl, Below.refl _ _⟩
  by_cases h2 : op = 2
  · subst h2
    have hrt : r = true := hr
    subst hrt
    simp (config := { decide := true }) only [stepV, if_true, if_false]
    clear hr
    have t115 := as116_115
    have t116 := as116_116
    have t121 := as116_121
    go_enter Tryz.func62, Tryz.ntmps62
    go_wp2
    go_ret
    exact ⟨rfl, Below.refl _ _⟩
  by_cases h6 : op = 6
  · subst h6
    have hrt : r = true := hr
    subst hrt
    simp (config := { decide := true }) only [stepV, if_true, if_false]
    clear hr
    have t115 := as121_115
    have t116 := as121_116
    have t121 := as121_121
    go_enter Tryz.func62, Tryz.ntmps62
    go_wp2
    go_ret
    exact ⟨rfl, Below.refl _ _⟩
  by_cases h3 : op = 3
  · subst h3
    have HR : Hid (r = decide (s.size ≤ 120)) := hr
    simp (config := { decide := true }) only [stepV, if_true, if_false]
    clear hr
    have t115 := as118_115
    have t116 := as118_116
    have t121 := as118_121
    have t118 := as118_118
    go_enter Tryz.func62, Tryz.ntmps62
    go_wp2_with (go_at_call 73; refine (HSH.out _).mono ?_; rintro e w1 ⟨rfl, rfl⟩)
    all_goals go_ret
    all_goals exact ⟨ret_bool HR.out.symm, (Below.refl _ _).alloc (Nat.le_refl _) _⟩
  by_cases h4 : op = 4
  · subst h4
    have HR : Hid (r = decide (s.size ≤ 120)) := hr
    simp (config := { decide := true }) only [stepV, if_true, if_false]
    clear hr
    have t115 := as119_115
    have t116 := as119_116
    have t121 := as119_121
    have t118 := as119_118
    have t119 := as119_119
    go_enter Tryz.func62, Tryz.ntmps62
    go_wp2_with (go_at_call 73; refine (HSH.out _).mono ?_; rintro e w1 ⟨rfl, rfl⟩)
    all_goals go_ret
    all_goals exact ⟨ret_bool HR.out.symm, (Below.refl _ _).alloc (Nat.le_refl _) _⟩
  by_cases h5 : op = 5
  · subst h5
    have HR : Hid (r = decide (s.size ≤ 120)) := hr
    simp (config := { decide := true }) only [stepV, if_true, if_false]
    clear hr
    have t115 := as120_115
    have t116 := as120_116
    have t121 := as120_121
    have t118 := as120_118
    have t119 := as120_119
    have t120 := as120_120
    go_enter Tryz.func62, Tryz.ntmps62
    go_wp2_with (go_at_call 73; refine (HSH.out _).mono ?_; rintro e w1 ⟨rfl, rfl⟩)
    all_goals go_ret
    all_goals exact ⟨ret_bool HR.out.symm, (Below.refl _ _).alloc (Nat.le_refl _) _⟩
  by_cases h7 : op = 7
  · subst h7
    have HR : Hid (r = (decide (s.size ≤ 120) && (decide (0 ≤ skip) && decide (skip ≤ b)))) := hr
    simp (config := { decide := true }) only [stepV, if_true, if_false]
    clear hr
    have t115 := as123_115
    have t116 := as123_116
    have t121 := as123_121
    have t118 := as123_118
    have t119 := as123_119
    have t120 := as123_120
    have t123 := as123_123
    go_enter Tryz.func62, Tryz.ntmps62
    go_wp2_with (go_at_call 73; refine (HSH.out _).mono ?_; rintro e w1 ⟨rfl, rfl⟩)
    all_goals go_ret
    all_goals refine ⟨ret_bool ?_, (Below.refl _ _).alloc (Nat.le_refl _) _⟩
    all_goals rw [HR.out]
    all_goals (simp_all)
    all_goals (intros; omega)
  have hrf : r = false := by rw [hr, fitB, if_neg (by omega), if_neg (by omega), if_neg (by omega)]
  subst hrf
  rw [stepV, if_neg h1, if_neg h2, if_neg h3, if_neg h4, if_neg h5, if_neg h6, if_neg h7]
  clear hr
  have t115 := as0_115
  have t116 := as0_116
  have t121 := as0_121
  have t118 := as0_118
  have t119 := as0_119
  have t120 := as0_120
  have t123 := as0_123
  go_enter Tryz.func62, Tryz.ntmps62
  go_wp2
  go_ret
  exact ⟨rfl, Below.refl _ _⟩

set_option maxRecDepth 100000 in
set_option maxHeartbeats 4000000 in
theorem line116_any (num : Int) (w : World) :
    Calls Tryz.prog 116 #[.agg #[.int .i64 num]] w fun e w' => e = .returned (.agg #[.int .i64 1, .string ⟨#[]⟩, .int .i64 num, .int .i64 0]) ∧ Below w.heap.size w w' := by
  go_enter Tryz.func116, Tryz.ntmps116
  go_wp2
  exact bodyPost_ret (v := .agg #[.int .i64 1, .string ⟨#[]⟩, .int .i64 num, .int .i64 0]) (by simp [results, Tryz.results116, go_sem]) rfl ⟨rfl, below_alloc2 _ _⟩

set_option maxRecDepth 100000 in
set_option maxHeartbeats 4000000 in
theorem line117_any (num : Int) (w : World) :
    Calls Tryz.prog 117 #[.agg #[.int .i64 num]] w fun e w' => e = .returned (.agg #[.int .i64 2, .string ⟨#[]⟩, .int .i64 num, .int .i64 0]) ∧ Below w.heap.size w w' := by
  go_enter Tryz.func117, Tryz.ntmps117
  go_wp2
  exact bodyPost_ret (v := .agg #[.int .i64 2, .string ⟨#[]⟩, .int .i64 num, .int .i64 0]) (by simp [results, Tryz.results117, go_sem]) rfl ⟨rfl, below_alloc2 _ _⟩

set_option maxRecDepth 100000 in
set_option maxHeartbeats 4000000 in
theorem line121_any (num : Int) (w : World) :
    Calls Tryz.prog 119 #[.agg #[.int .i64 num]] w fun e w' => e = .returned (.agg #[.int .i64 6, .string ⟨#[]⟩, .int .i64 num, .int .i64 0]) ∧ Below w.heap.size w w' := by
  go_enter Tryz.func119, Tryz.ntmps119
  go_wp2
  exact bodyPost_ret (v := .agg #[.int .i64 6, .string ⟨#[]⟩, .int .i64 num, .int .i64 0]) (by simp [results, Tryz.results119, go_sem]) rfl ⟨rfl, below_alloc2 _ _⟩

set_option maxRecDepth 100000 in
set_option maxHeartbeats 4000000 in
theorem line118_any (s : ByteArray) (w : World) :
    Calls Tryz.prog 114 #[.agg #[.string s]] w fun e w' => e = .returned (.agg #[.int .i64 3, .string s, .int .i64 0, .int .i64 0]) ∧ Below w.heap.size w w' := by
  go_enter Tryz.func114, Tryz.ntmps114
  go_wp2
  exact bodyPost_ret (v := .agg #[.int .i64 3, .string s, .int .i64 0, .int .i64 0]) (by simp [results, Tryz.results114, go_sem]) rfl ⟨rfl, below_alloc2 _ _⟩

set_option maxRecDepth 100000 in
set_option maxHeartbeats 4000000 in
theorem line119_any (s : ByteArray) (w : World) :
    Calls Tryz.prog 115 #[.agg #[.string s]] w fun e w' => e = .returned (.agg #[.int .i64 4, .string s, .int .i64 0, .int .i64 0]) ∧ Below w.heap.size w w' := by
  go_enter Tryz.func115, Tryz.ntmps115
  go_wp2
  exact bodyPost_ret (v := .agg #[.int .i64 4, .string s, .int .i64 0, .int .i64 0]) (by simp [results, Tryz.results115, go_sem]) rfl ⟨rfl, below_alloc2 _ _⟩

set_option maxRecDepth 100000 in
set_option maxHeartbeats 4000000 in
theorem line120_any (s : ByteArray) (w : World) :
    Calls Tryz.prog 118 #[.agg #[.string s]] w fun e w' => e = .returned (.agg #[.int .i64 5, .string s, .int .i64 0, .int .i64 0]) ∧ Below w.heap.size w w' := by
  go_enter Tryz.func118, Tryz.ntmps118
  go_wp2
  exact bodyPost_ret (v := .agg #[.int .i64 5, .string s, .int .i64 0, .int .i64 0]) (by simp [results, Tryz.results118, go_sem]) rfl ⟨rfl, below_alloc2 _ _⟩

set_option maxRecDepth 100000 in
set_option maxHeartbeats 4000000 in
theorem line122_any (s : ByteArray) (skip : Int) (w : World) :
    Calls Tryz.prog 120 #[.agg #[.string s, .int .i64 skip]] w fun e w' => e = .returned (.agg #[.int .i64 7, .string s, .int .i64 0, .int .i64 skip]) ∧ Below w.heap.size w w' := by
  go_enter Tryz.func120, Tryz.ntmps120
  go_wp2
  exact bodyPost_ret (v := .agg #[.int .i64 7, .string s, .int .i64 0, .int .i64 skip]) (by simp [results, Tryz.results120, go_sem]) rfl ⟨rfl, below_alloc2 _ _⟩

end Go.Proofs.YtimgafblpmjajaaGreat
namespace Go.Proofs.YtimgafblpmjajaaGreat

open Go.RowKit

theorem keep4 {B n : Nat} {W W' : World} {u0 u1 u2 u3 : Value} (hb : Below B W W') (hz : n < B) (m0 : W.cell? ⟨n, 0, none⟩ = some u0) (m1 : W.cell? ⟨n, 1, none⟩ = some u1) (m2 : W.cell? ⟨n, 2, none⟩ = some u2) (m3 : W.cell? ⟨n, 3, none⟩ = some u3) :
    W'.cell? ⟨n, 0, none⟩ = some u0 ∧ W'.cell? ⟨n, 1, none⟩ = some u1 ∧ W'.cell? ⟨n, 2, none⟩ = some u2 ∧ W'.cell? ⟨n, 3, none⟩ = some u3 ∧ W.heap.size ≤ W'.heap.size :=
  ⟨below_cell0 hb hz m0, below_cell0 hb hz m1, below_cell0 hb hz m2, below_cell0 hb hz m3, hb.size⟩

set_option maxRecDepth 100000 in
theorem step_ex (op num skip : Int) (s : ByteArray) (name : List UInt8) (hs : s.data.toList = name) (hop : 1 ≤ op ∧ op ≤ 7) :
    ∃ (T : TypeId) (P : Value) (fid : FuncId) (sA : ByteArray) (nA kA : Int), stepV op s num skip = .iface T P ∧ (∀ W : World, (method 289 T P "loop.example/bobbin/impl.line").run Tryz.prog W = .ok (fid, P) W) ∧ (∀ W : World, (callFunc fid #[P]).run Tryz.prog W = .ok (.enter fid #[P]) W) ∧
      (∀ W : World, Calls Tryz.prog fid #[P] W fun e w' => e = .returned (.agg #[.int .i64 op, .string sA, .int .i64 nA, .int .i64 kA]) ∧ Below W.heap.size W w') ∧
      ∀ (N k : Nat), okLn N k ⟨op, name, num, skip⟩ = (fitB op s skip ((N : Int) - k - 1) && ((sA.toList == s.toList) && ((nA == num) && (kA == skip)))) := by
  by_cases h1 : op = 1
  · subst h1
    refine ⟨111, .agg #[.int .i64 num], 116, ⟨#[]⟩, num, 0, rfl, fun _ => by kernel_rfl, fun _ => by kernel_rfl, line116_any num, fun N k => ?_⟩
    simp (config := { decide := true }) only [okLn, fitB, if_true, if_false]
    rw [str_beq (s := ⟨#[]⟩) (a := []) rfl hs]
    rw [Bool.eq_iff_iff]; simp; try omega
  by_cases h2 : op = 2
  · subst h2
    refine ⟨112, .agg #[.int .i64 num], 117, ⟨#[]⟩, num, 0, rfl, fun _ => by kernel_rfl, fun _ => by kernel_rfl, line117_any num, fun N k => ?_⟩
    simp (config := { decide := true }) only [okLn, fitB, if_true, if_false]
    rw [str_beq (s := ⟨#[]⟩) (a := []) rfl hs]
    rw [Bool.eq_iff_iff]; simp; try omega
  by_cases h3 : op = 3
  · subst h3
    refine ⟨108, .agg #[.string s], 114, s, 0, 0, rfl, fun _ => by kernel_rfl, fun _ => by kernel_rfl, line118_any s, fun N k => ?_⟩
    simp (config := { decide := true }) only [okLn, fitB, if_true, if_false]
    rw [size_data, hs]
    rw [Bool.eq_iff_iff]; simp; try omega
  by_cases h4 : op = 4
  · subst h4
    refine ⟨109, .agg #[.string s], 115, s, 0, 0, rfl, fun _ => by kernel_rfl, fun _ => by kernel_rfl, line119_any s, fun N k => ?_⟩
    simp (config := { decide := true }) only [okLn, fitB, if_true, if_false]
    rw [size_data, hs]
    rw [Bool.eq_iff_iff]; simp; try omega
  by_cases h5 : op = 5
  · subst h5
    refine ⟨113, .agg #[.string s], 118, s, 0, 0, rfl, fun _ => by kernel_rfl, fun _ => by kernel_rfl, line120_any s, fun N k => ?_⟩
    simp (config := { decide := true }) only [okLn, fitB, if_true, if_false]
    rw [size_data, hs]
    rw [Bool.eq_iff_iff]; simp; try omega
  by_cases h6 : op = 6
  · subst h6
    refine ⟨114, .agg #[.int .i64 num], 119, ⟨#[]⟩, num, 0, rfl, fun _ => by kernel_rfl, fun _ => by kernel_rfl, line121_any num, fun N k => ?_⟩
    simp (config := { decide := true }) only [okLn, fitB, if_true, if_false]
    rw [str_beq (s := ⟨#[]⟩) (a := []) rfl hs]
    rw [Bool.eq_iff_iff]; simp; try omega
  by_cases h7 : op = 7
  · subst h7
    refine ⟨116, .agg #[.string s, .int .i64 skip], 120, s, 0, skip, rfl, fun _ => by kernel_rfl, fun _ => by kernel_rfl, line122_any s skip, fun N k => ?_⟩
    simp (config := { decide := true }) only [okLn, fitB, if_true, if_false]
    rw [size_data, hs]
    rw [Bool.eq_iff_iff]; simp; try omega
  omega
theorem step_no (op num skip : Int) (s : ByteArray) (name : List UInt8) (N k : Nat) (b : Int) (hop : ¬ (1 ≤ op ∧ op ≤ 7)) : okLn N k ⟨op, name, num, skip⟩ = false ∧ fitB op s skip b = false := by
  constructor
  · rw [okLn, if_neg (by simp only []; omega), if_neg (by simp only []; omega), if_neg (by simp only []; omega)]
  · rw [fitB, if_neg (by omega), if_neg (by omega), if_neg (by omega)]

set_option maxRecDepth 100000 in
set_option maxHeartbeats 8000000 in
theorem firstOddLine_any (v : Value) (L : List Ln) (w : World) (h : Lns w v L) (hL : L.length ≤ 1048576) (hLL : ∀ l ∈ L, l.name.length ≤ 1048576) :
    Calls Tryz.prog 46 #[v] w fun e w' => e = .returned (.int .i64 (firstN (badLn L) L.length 0 : Nat)) ∧ Below w.heap.size w w' := by
  obtain ⟨a, cap, rfl, hcap, hmax, hc⟩ := h
  have HC : Hid (∀ k, (hk : k < L.length) → ∃ b o, a = some ⟨b, o, none⟩ ∧ b < w.heap.size ∧
    w.cell? ⟨b, o + k * 4, none⟩ = some (.int .i64 L[k].op) ∧ w.cell? ⟨b, o + k * 4 + 1, none⟩ = some (strV L[k].name) ∧ w.cell? ⟨b, o + k * 4 + 2, none⟩ = some (.int .i64 L[k].num) ∧ w.cell? ⟨b, o + k * 4 + 3, none⟩ = some (.int .i64 L[k].skip)) := hc
  have HLL : Hid (∀ l ∈ L, l.name.length ≤ 1048576) := hLL
  clear hc hmax hLL
  go_enter Tryz.func46, Tryz.ntmps46
  go_wp2
  go_loopw [9] (fun i wr => ∃ k : Nat, k ≤ L.length ∧ i = .int .i64 k ∧ (∀ j, j < k → badLn L j = false) ∧ Below w.heap.size w wr) (fun i _ => L.length - (intOf i).toNat)
  case atStart => exact ⟨0, Nat.zero_le _, rfl, fun j h => absurd h (by omega), Below.refl _ _⟩
  case round =>
    obtain ⟨k, hk, rfl, hbad, hB⟩ := hrel
    have HBAD : Hid (∀ j, j < k → badLn L j = false) := hbad
    clear hbad
    by_cases hlt : k < L.length
    · obtain ⟨b, o, rfl, hb, h0, h1, h2, h3⟩ := HC.out k hlt
      have c0 := (hB.cell (p := ⟨b, o + k * 4, none⟩) hb).trans h0
      have c1 := (hB.cell (p := ⟨b, o + k * 4 + 1, none⟩) hb).trans h1
      have c2 := (hB.cell (p := ⟨b, o + k * 4 + 2, none⟩) hb).trans h2
      have c3 := (hB.cell (p := ⟨b, o + k * 4 + 3, none⟩) hb).trans h3
      have hsz := HLL.out _ (List.getElem_mem hlt)
      have hbl := badLn_at hlt
      obtain ⟨l, hl⟩ : ∃ l, l = L[k] := ⟨_, rfl⟩
      rw [← hl] at c0 c1 c2 c3 hsz hbl
      obtain ⟨op, name, num, skip⟩ := l
      simp only [] at c0 c1 c2 c3 hsz
      obtain ⟨s, hs⟩ : ∃ s : ByteArray, s.data.toList = name := ⟨⟨name.toArray⟩, by simp⟩
      have hsv : strV name = .string s := by rw [← hs, strV_data]
      rw [hsv] at c1
      rw [← hs, ← size_data] at hsz
      have HBL : Hid (badLn L k = !okLn L.length k ⟨op, name, num, skip⟩) := hbl
      have HS : Hid (s.data.toList = name) := hs
      have HF : Hid (∀ (bb : Int) W, Calls Tryz.prog 62 #[stepV op s num skip, .int .i64 bb] W fun e w' => e = .returned (.bool (fitB op s skip bb)) ∧ Below W.heap.size W w') := fun bb W => fits_any op num skip bb s W hsz
      clear h0 h1 h2 h3 hbl hl hs hsv
      go_wp2_with fail
      refine (stepOf_any op num skip s _).mono ?_
      rintro e w1 ⟨rfl, hb1⟩
      have m0 : w1.cell? ⟨wr.heap.size, 0, none⟩ = some (.int .i64 op) := below_cell0 hb1 (by simp) (by simp [go_sem])
      have m1 : w1.cell? ⟨wr.heap.size, 1, none⟩ = some (.string s) := below_cell0 hb1 (by simp) (by simp [go_sem])
      have m2 : w1.cell? ⟨wr.heap.size, 2, none⟩ = some (.int .i64 num) := below_cell0 hb1 (by simp) (by simp [go_sem])
      have m3 : w1.cell? ⟨wr.heap.size, 3, none⟩ = some (.int .i64 skip) := below_cell0 hb1 (by simp) (by simp [go_sem])
      have hB1 : Below w.heap.size w w1 := (hB.alloc hB.size _).trans (hb1.mono (by have := hB.size; simp; omega))
      have hz1 : wr.heap.size < w1.heap.size := by have := hb1.size; simp at this; omega
      clear c0 c1 c2 c3 hb1
      obtain ⟨f, hf⟩ : ∃ f, f = fitB op s skip ((L.length : Int) - k - 1) := ⟨_, rfl⟩
      have HF1 : Hid (∀ W, Calls Tryz.prog 62 #[stepV op s num skip, .int .i64 ((L.length : Int) - k - 1)] W fun e w' => e = .returned (.bool f) ∧ Below W.heap.size W w') := fun W => by rw [hf]; exact HF.out _ W
      have HFF : Hid (f = fitB op s skip ((L.length : Int) - k - 1)) := hf
      clear hf
      cases f with
      | false =>
        have HODD : Hid (badLn L k = true) := by
          unfold Hid
          rw [HBL.out]
          by_cases hop : 1 ≤ op ∧ op ≤ 7
          · obtain ⟨T, P, fid, sA, nA, kA, _, _, _, _, hok⟩ := step_ex op num skip s name HS.out hop
            rw [hok, ← HFF.out]; rfl
          · rw [(step_no op num skip s name L.length k 0 hop).1]; rfl
        obtain ⟨V, hV⟩ : ∃ V, V = stepV op s num skip := ⟨_, rfl⟩
        rw [← hV] at HF1 ⊢
        clear hV
        go_wp2
        first | (go_region_with (first | (go_at_call 62; refine (HF1.out _).mono ?_; rintro e w2 ⟨rfl, hb2⟩; obtain ⟨x0, x1, x2, x3, xz⟩ := keep4 (W := w1.drew) hb2 hz1 m0 m1 m2 m3))) | fail
        all_goals
          go_wp2
          go_ret
          exact ⟨ret_int (by rw [firstN_hit hlt HBAD.out HODD.out]), hB1.drew.trans (hb2.mono hB1.size)⟩
      | true =>
        have hop : 1 ≤ op ∧ op ≤ 7 := by
          by_cases hop : 1 ≤ op ∧ op ≤ 7
          · exact hop
          · have := (step_no op num skip s name L.length k ((L.length : Int) - k - 1) hop).2
            rw [← HFF.out] at this; cases this
        obtain ⟨T, P, fid, sA, nA, kA, hst, hm, hcf, hln, hok⟩ := step_ex op num skip s name HS.out hop
        rw [hst] at HF1 ⊢
        have HLN : Hid (∀ W : World, Calls Tryz.prog fid #[P] W fun e w' => e = .returned (.agg #[.int .i64 op, .string sA, .int .i64 nA, .int .i64 kA]) ∧ Below W.heap.size W w') := hln
        have HOK : Hid (badLn L k = !((sA.toList == s.toList) && ((nA == num) && (kA == skip)))) := by unfold Hid; rw [HBL.out, hok, ← HFF.out, Bool.true_and]
        clear hst hln hok hop
        by_cases q1 : (sA.toList == s.toList) = true
        · by_cases q2 : nA = num
          · by_cases q3 : kA = skip
            · have HGOOD : Hid (badLn L k = false) := by unfold Hid; rw [HOK.out, q1, q2, q3]; simp
              subst q2 q3
              go_wp2
              go_region_with (first | (go_at_call 62; refine (HF1.out _).mono ?_; rintro e w2 ⟨rfl, hb2⟩; obtain ⟨x0, x1, x2, x3, xz⟩ := keep4 (W := w1.drew) hb2 hz1 m0 m1 m2 m3) | (refine (HLN.out _).mono ?_; rintro e w3 ⟨rfl, hb3⟩; obtain ⟨y0, y1, y2, y3, yz⟩ := keep4 hb3 (Nat.lt_of_lt_of_le hz1 xz) x0 x1 x2 x3))
              all_goals
                go_wp2
                go_roundw
                case rel => exact ⟨k + 1, by omega, by go_num, fun j hjk => by
                  by_cases hjk' : j = k
                  · subst hjk'; exact HGOOD.out
                  · exact HBAD.out j (by omega), hB1.drew.trans ((hb2.trans (hb3.mono hb2.size)).mono hB1.size)⟩
                case measure => simp [intOf]; omega
            · have q3' : (kA == skip) = false := by simpa using q3
              have HODD : Hid (badLn L k = true) := by unfold Hid; rw [HOK.out]; rw [q3']; simp
              go_wp2
              go_region_with (first | (go_at_call 62; refine (HF1.out _).mono ?_; rintro e w2 ⟨rfl, hb2⟩; obtain ⟨x0, x1, x2, x3, xz⟩ := keep4 (W := w1.drew) hb2 hz1 m0 m1 m2 m3) | (refine (HLN.out _).mono ?_; rintro e w3 ⟨rfl, hb3⟩; obtain ⟨y0, y1, y2, y3, yz⟩ := keep4 hb3 (Nat.lt_of_lt_of_le hz1 xz) x0 x1 x2 x3))
              all_goals
                go_wp2
                go_ret
                exact ⟨ret_int (by rw [firstN_hit hlt HBAD.out HODD.out]), hB1.drew.trans ((hb2.trans (hb3.mono hb2.size)).mono hB1.size)⟩
          · have q2' : (nA == num) = false := by simpa using q2
            have HODD : Hid (badLn L k = true) := by unfold Hid; rw [HOK.out]; rw [q2']; simp
            go_wp2
            go_region_with (first | (go_at_call 62; refine (HF1.out _).mono ?_; rintro e w2 ⟨rfl, hb2⟩; obtain ⟨x0, x1, x2, x3, xz⟩ := keep4 (W := w1.drew) hb2 hz1 m0 m1 m2 m3) | (refine (HLN.out _).mono ?_; rintro e w3 ⟨rfl, hb3⟩; obtain ⟨y0, y1, y2, y3, yz⟩ := keep4 hb3 (Nat.lt_of_lt_of_le hz1 xz) x0 x1 x2 x3))
            all_goals
              go_wp2
              go_ret
              exact ⟨ret_int (by rw [firstN_hit hlt HBAD.out HODD.out]), hB1.drew.trans ((hb2.trans (hb3.mono hb2.size)).mono hB1.size)⟩
        · have q1' : (sA.toList == s.toList) = false := by simpa using q1
          clear q1
          have HODD : Hid (badLn L k = true) := by unfold Hid; rw [HOK.out]; rw [q1']; simp
          go_wp2
          go_region_with (first | (go_at_call 62; refine (HF1.out _).mono ?_; rintro e w2 ⟨rfl, hb2⟩; obtain ⟨x0, x1, x2, x3, xz⟩ := keep4 (W := w1.drew) hb2 hz1 m0 m1 m2 m3) | (refine (HLN.out _).mono ?_; rintro e w3 ⟨rfl, hb3⟩; obtain ⟨y0, y1, y2, y3, yz⟩ := keep4 hb3 (Nat.lt_of_lt_of_le hz1 xz) x0 x1 x2 x3))
          all_goals
            go_wp2
            go_ret
            exact ⟨ret_int (by rw [firstN_hit hlt HBAD.out HODD.out]), hB1.drew.trans ((hb2.trans (hb3.mono hb2.size)).mono hB1.size)⟩
    · have HNONE : Hid (firstN (badLn L) L.length 0 = L.length) := firstN_none (fun j hj => HBAD.out j (by omega))
      go_wp2
      go_ret
      exact ⟨ret_int (by rw [HNONE.out]), hB⟩
end Go.Proofs.YtimgafblpmjajaaGreat
namespace Go.Proofs.YtimgafblpmjajaaGreat

open Go.RowKit Go.Maps

theorem Tryz.laidOut0 : laidOutB Tryz.prog = true := by kernel_rfl
theorem Tryz.row93 : 91 < Tryz.prog.types.size := of_decide_eq_true (by kernel_rfl)
theorem Tryz.wide93 : (match Tryz.prog.underlying 91 with | some (.array _ _) | some (.struct _) => true | _ => false) = true := by kernel_rfl
theorem Tryz.key93 : Tryz.prog.keyTypeAt 3 91 = true := by kernel_rfl
set_option maxRecDepth 100000 in
theorem lawK : Keyed Tryz.prog 91 := Keyed.of_law (deep_law_laid Tryz.laidOut0 (m := 3) (by omega) Tryz.row93 Tryz.key93 Tryz.wide93)

/-- What a name in its one form reads as, as a key. -/
def keyL (l : List UInt8) : Lit := .string (keyBytes [.string l])
theorem key_form (s : ByteArray) : keyOf Tryz.prog 91 (.agg #[.string s]) = (if s.size ≤ maxLen then some (keyL s.data.toList) else none) := by
  have h : keyOf Tryz.prog 91 (.agg #[.string s]) = ((((if s.size ≤ maxLen then some [Lit.string s.data.toList] else none : Option (List Lit)).bind fun a => some [a]).map List.flatten).map fun ls => Lit.string (keyBytes ls)) := by kernel_rfl
  rw [h]
  split <;> rfl
theorem key_mk {s : ByteArray} {l : List UInt8} (hs : s.data.toList = l) (h : s.size ≤ maxLen) : keyOf Tryz.prog 91 (.agg #[.string s]) = some (keyL l) := by rw [key_form, if_pos h, hs]
theorem keyL_ne {s t : ByteArray} (hs : s.size ≤ maxLen) (ht : t.size ≤ maxLen) (h : s.data.toList ≠ t.data.toList) : keyL s.data.toList ≠ keyL t.data.toList := fun e => by
  have h1 := key_mk (s := s) rfl hs
  have h2 := key_mk (s := t) rfl ht
  rw [e] at h1
  have := lawK.inj h1 h2
  injection this with h3
  have h4 : (Value.string s) = .string t := by simpa using h3
  injection h4 with h5
  exact h (by rw [h5])
theorem zero3 (w : World) : (zeroValue 3).run Tryz.prog w = .ok (.int .i64 0) w := by kernel_rfl

theorem map_below {w w' : World} {B b n : Nat} {D : DataW Unit} (h : w.ownsMap Tryz.prog 91 (plainElem Tryz.prog 3) b n D) (hb : Below B w w') (hB : b < B) : w'.ownsMap Tryz.prog 91 (plainElem Tryz.prog 3) b n D := by
  obtain ⟨es, clock, hh, r⟩ := h
  exact ⟨es, clock, (hb.block b hB).trans hh, r⟩

/-- The shelf holds just the names of the first k. -/
def Shelved (M : List Md) (k : Nat) (D : DataW Unit) : Prop := IsMap D ∧ ∀ l : List UInt8, l.length ≤ 1048576 → Maps.has D (keyL l) = (M.take k).any (fun m => decide (m.name = l))
theorem shelved_zero (M : List Md) : Shelved M 0 (.map []) := ⟨isMap_empty, fun _ _ => rfl⟩
theorem arr_of (l : List UInt8) (h : l.length ≤ 1048576) : ∃ s : ByteArray, s.data.toList = l ∧ s.size ≤ maxLen := ⟨⟨l.toArray⟩, by simp, by rw [size_data]; simp; unfold maxLen; omega⟩
theorem shelved_put {M : List Md} {k : Nat} {D : DataW Unit} (h : Shelved M k D) (hk : k < M.length) (hn : M[k].name.length ≤ 1048576) (d : DataW Unit) : Shelved M (k + 1) (D.put (keyL M[k].name) d) := by
  refine ⟨h.1.put _ _, fun l hl => ?_⟩
  obtain ⟨s, hs, hsz⟩ := arr_of l hl
  obtain ⟨t, ht, htz⟩ := arr_of M[k].name hn
  rw [List.take_succ_eq_append_getElem hk, List.any_append]
  by_cases he : M[k].name = l
  · rw [he, has_put_same h.1 (lawK.key (key_mk hs hsz))]
    simp [he]
  · have hne : keyL l ≠ keyL M[k].name := by
      have := keyL_ne hsz htz (by rw [hs, ht]; exact fun e => he e.symm)
      rwa [hs, ht] at this
    rw [has_put_other hne, h.2 l hl]
    simp [he]

set_option maxRecDepth 100000 in
set_option maxHeartbeats 8000000 in
theorem shelve_any (v : Value) (M : List Md) (w : World) (h : Mds w v M) (hM : M.length ≤ 1048576) (hMM : ∀ m ∈ M, m.t ≤ 1048576) :
    Calls Tryz.prog 31 #[v] w fun e w' => ∃ mv, e = .returned (.tuple #[mv, .int .i64 (firstN (badMd M) M.length 0 : Nat)]) ∧ Below w.heap.size w w' := by
  have hmm := @run_makeMap Tryz.prog
  obtain ⟨a, cap, rfl, hcap, hmax, hc⟩ := h
  have HC : Hid (∀ k, (hk : k < M.length) → ∃ b o s, a = some ⟨b, o, none⟩ ∧ b < w.heap.size ∧
    w.cell? ⟨b, o + k * 2, none⟩ = some (strV M[k].name) ∧ w.cell? ⟨b, o + k * 2 + 1, none⟩ = some s ∧ Lns w s M[k].lines) := hc
  have HMM : Hid (∀ m ∈ M, m.t ≤ 1048576) := hMM
  clear hc hmax hMM
  go_enter Tryz.func31, Tryz.ntmps31
  go_wp2
  go_loopw [14] (fun i wr => ∃ (k : Nat) (D : DataW Unit), k ≤ M.length ∧ i = .int .i64 k ∧ (∀ j, j < k → badMd M j = false) ∧ wr.ownsMap Tryz.prog 91 (plainElem Tryz.prog 3) w.heap.size k D ∧ Shelved M k D ∧ Below w.heap.size w wr) (fun i _ => M.length - (intOf i).toNat)
  case atStart => exact ⟨0, _, Nat.zero_le _, rfl, fun j h => absurd h (by omega), World.ownsMap_made _ _ _ _, shelved_zero M, (Below.refl _ _).alloc (Nat.le_refl _) _⟩
  case round =>
    obtain ⟨k, D, hk, rfl, hbad, hown, hsh, hB⟩ := hrel
    have HBAD : Hid (∀ j, j < k → badMd M j = false) := hbad
    have HSH : Hid (Shelved M k D) := hsh
    have hwB := hown.lt
    clear hbad hsh hmm
    by_cases hlt : k < M.length
    · obtain ⟨b, o, s, rfl, hb, h0, h1, h2⟩ := HC.out k hlt
      obtain ⟨hs1, hs2, hs3⟩ := Md.small (HMM.out _ (List.getElem_mem hlt))
      obtain ⟨asl, cs, rfl⟩ := h2.slice
      obtain ⟨N, hN⟩ : ∃ N, N = M[k].lines.length := ⟨_, rfl⟩
      obtain ⟨ns, hns⟩ : ∃ ns : ByteArray, ns.data.toList = M[k].name := ⟨⟨M[k].name.toArray⟩, by simp⟩
      have hnv : strV M[k].name = .string ns := by rw [← hns, strV_data]
      rw [hnv] at h0
      rw [← hN] at h1 hs2
      have c0 := (hB.cell (p := ⟨b, o + k * 2, none⟩) hb).trans h0
      have c1 := (hB.cell (p := ⟨b, o + k * 2 + 1, none⟩) hb).trans h1
      have hbm := badMd_at hlt
      rw [← hN] at hbm
      have HBM : Hid (badMd M k = (!isN M[k].name || decide (60 < N) || (M.take k).any (fun m => decide (m.name = M[k].name)))) := hbm
      have HNS : Hid (ns.data.toList = M[k].name) := hns
      have HSZ : Hid (M[k].name.length ≤ 1048576) := hs1
      have HNV : Hid (strV M[k].name = .string ns) := hnv
      clear h0 h1 h2 hs3 hs1 hbm hns hnv hN
      go_wp2_with fail
      refine (asWritten_any ns _).mono ?_
      rw [HNS.out]
      clear c0 c1
      by_cases hi : isN M[k].name = true
      · have hwv : writtenV M[k].name = .tuple #[.agg #[.string ns], .bool true] := by rw [writtenV, if_pos hi, HNV.out]
        rw [hwv]
        have HI : Hid (isN M[k].name = true) := hi
        clear hwv hi
        rintro e w1 ⟨rfl, hb1⟩
        have m0 : w1.cell? ⟨wr.heap.size, 0, none⟩ = some (.string ns) := below_cell0 hb1 (by simp) (by simp [go_sem])
        have m1 : w1.cell? ⟨wr.heap.size, 1, none⟩ = some (.slice asl N cs) := below_cell0 hb1 (by simp) (by simp [go_sem])
        have hB1 : Below w.heap.size w w1 := (hB.alloc hB.size _).trans (hb1.mono (by have := hB.size; simp; omega))
        have hz1 : wr.heap.size < w1.heap.size := by have := hb1.size; simp at this; omega
        have hz2 : w.heap.size < w1.heap.size := by omega
        have hown1 := map_below (hown.alloc _) hb1 (by simp; omega)
        have hkey := key_mk HNS.out (by rw [size_data, HNS.out]; have := HSZ.out; unfold maxLen; omega)
        have HHAS : Hid (Maps.has D (keyL M[k].name) = (M.take k).any (fun m => decide (m.name = M[k].name))) := HSH.out.2 _ HSZ.out
        clear hb1 hown
        obtain ⟨kl, hkl⟩ : ∃ kl, kl = keyL M[k].name := ⟨_, rfl⟩
        rw [← hkl] at hkey HHAS
        have HKL : Hid (kl = keyL M[k].name) := hkl
        clear hkl
        obtain ⟨tk, htk⟩ : ∃ tk, Maps.has D kl = tk := ⟨_, rfl⟩
        have HTK : Hid (Maps.has D kl = tk) := htk
        clear htk
        cases tk with
        | true =>
          have HODD : Hid (badMd M k = true) := by unfold Hid; rw [HBM.out, ← HHAS.out, HTK.out]; simp
          go_wp2_with (first
            | (at_lookup; refine wpList_lookup_own_ok_int _ rfl _ _ 48 rfl 91 3 .i64 lawK Tryz.underlying48 Tryz.underlying3 (zero3 _) w.heap.size k D rfl (hown1.alloc _) _ kl rfl hkey ?_; intro c hat hwc; rw [HTK.out]; clear hat hwc))
          exact bodyPost_ret (v := .tuple #[.map (some w.heap.size), .int .i64 k]) (by simp [results, Tryz.results31, go_sem]) rfl ⟨_, by rw [firstN_hit hlt HBAD.out HODD.out], hB1.alloc (by omega) _⟩
        | false =>
          by_cases h60 : 60 < N
          · have HODD : Hid (badMd M k = true) := by unfold Hid; rw [HBM.out]; simp [h60]
            go_wp2_with (first | (at_lookup; refine wpList_lookup_own_ok_int _ rfl _ _ 48 rfl 91 3 .i64 lawK Tryz.underlying48 Tryz.underlying3 (zero3 _) w.heap.size k D rfl (hown1.alloc _) _ kl rfl hkey ?_; intro c hat hwc; rw [HTK.out]; clear hat hwc))
            exact bodyPost_ret (v := .tuple #[.map (some w.heap.size), .int .i64 k]) (by simp [results, Tryz.results31, go_sem]) rfl ⟨_, by rw [firstN_hit hlt HBAD.out HODD.out], hB1.alloc (by omega) _⟩
          · have HGOOD : Hid (badMd M k = false) := by unfold Hid; rw [HBM.out, HI.out, ← HHAS.out, HTK.out]; simp; omega
            have hzz : w.heap.size < (w1.alloc (Obj.cells #[Value.string ns] 91)).heap.size := by simp; omega
            go_wp2_with (first | (at_lookup; refine wpList_lookup_own_ok_int _ rfl _ _ 48 rfl 91 3 .i64 lawK Tryz.underlying48 Tryz.underlying3 (zero3 _) w.heap.size k D rfl (hown1.alloc _) _ kl rfl hkey ?_; intro c hat hwc; rw [HTK.out]; clear hat hwc) | (at_mapUpdate; refine wpList_mapUpdate_own _ rfl _ _ _ 48 rfl 91 3 lawK Tryz.underlying48 (plainElem (H := Unit) Tryz.prog 3) w.heap.size k D rfl (hown1.alloc _) (by unfold maxLen; omega) _ _ kl rfl rfl hkey _ [] (plainElem_int Tryz.underlying3 (WalkArith.wf_i64 (by omega))) ?_; intro w2 hown2 hgrow2))
            have hB2 : Below w.heap.size w w2 := (hB1.alloc (by omega) _).grown hgrow2 (by simp; omega) (fun j hj => by cases hj; exact Nat.le_refl _)
            go_roundw
            case rel => exact ⟨k + 1, _, by omega, by go_num, fun j hjk => by
              by_cases hjk' : j = k
              · subst hjk'; exact HGOOD.out
              · exact HBAD.out j (by omega), hown2, by rw [HKL.out]; exact shelved_put HSH.out hlt HSZ.out _, hB2⟩
            case measure => simp [intOf]; omega
      · have hi' : isN M[k].name = false := by simpa using hi
        have hwv : writtenV M[k].name = .tuple #[.agg #[.string ⟨#[]⟩], .bool false] := by rw [writtenV, if_neg hi]; rfl
        rw [hwv]
        have HODD : Hid (badMd M k = true) := by unfold Hid; rw [HBM.out, hi']; simp
        clear hwv hi hi'
        rintro e w1 ⟨rfl, hb1⟩
        have m0 : w1.cell? ⟨wr.heap.size, 0, none⟩ = some (.string ns) := below_cell0 hb1 (by simp) (by simp [go_sem])
        have m1 : w1.cell? ⟨wr.heap.size, 1, none⟩ = some (.slice asl N cs) := below_cell0 hb1 (by simp) (by simp [go_sem])
        have hB1 : Below w.heap.size w w1 := (hB.alloc hB.size _).trans (hb1.mono (by have := hB.size; simp; omega))
        have hz1 : wr.heap.size < w1.heap.size := by have := hb1.size; simp at this; omega
        have hz2 : w.heap.size < w1.heap.size := by omega
        have hown1 := map_below (hown.alloc _) hb1 (by simp; omega)
        have hkey : keyOf Tryz.prog 91 (.agg #[.string ⟨#[]⟩]) = some (keyL []) := key_mk (s := ⟨#[]⟩) rfl (by decide)
        obtain ⟨kl, hkl⟩ : ∃ kl, kl = keyL [] := ⟨_, rfl⟩
        rw [← hkl] at hkey
        clear hkl hb1 hown
        obtain ⟨tk, htk⟩ : ∃ tk, Maps.has D kl = tk := ⟨_, rfl⟩
        have HTK : Hid (Maps.has D kl = tk) := htk
        clear htk
        go_wp2_with (first | (at_lookup; refine wpList_lookup_own_ok_int _ rfl _ _ 48 rfl 91 3 .i64 lawK Tryz.underlying48 Tryz.underlying3 (zero3 _) w.heap.size k D rfl (hown1.alloc _) _ kl rfl hkey ?_; intro c hat hwc; rw [HTK.out]; clear hat hwc))
        exact bodyPost_ret (v := .tuple #[.map (some w.heap.size), .int .i64 k]) (by simp [results, Tryz.results31, go_sem]) rfl ⟨_, by rw [firstN_hit hlt HBAD.out HODD.out], hB1.alloc (by omega) _⟩
    · have HNONE : Hid (firstN (badMd M) M.length 0 = M.length) := firstN_none (fun j hj => HBAD.out j (by omega))
      go_wp2
      exact bodyPost_ret (v := .tuple #[.map (some w.heap.size), .int .i64 M.length]) (by simp [results, Tryz.results31, go_sem]) rfl ⟨_, by rw [HNONE.out], hB⟩
end Go.Proofs.YtimgafblpmjajaaGreat
namespace Go.Proofs.YtimgafblpmjajaaGreat

open Go.RowKit

theorem firstN_le (p : Nat → Bool) : ∀ f i, firstN p f i ≤ i + f
  | 0, i => by rw [firstN]; omega
  | f + 1, i => by
    rw [firstN]
    split
    · omega
    · have := firstN_le p f (i + 1); omega

set_option maxHeartbeats 8000000 in
set_option maxRecDepth 100000 in
theorem implWorldOk_any (v : Value) (D : Wd) (w : World) (h : Wds w v D) (hD : D.t ≤ 1048576) :
    Calls Tryz.prog 30 #[v] w fun e w' => e = .returned (wrongV (wok D)) ∧ Below w.heap.size w w' := by
  obtain ⟨vr, vm, vf, rfl, h1, h2, h3⟩ := h
  have hr1 : D.roots.length ≤ 1048576 := by have : D.roots.length ≤ Pl.total D.roots := by unfold Pl.total; omega
                                            unfold Wd.t at hD; omega
  have hm1 : D.mods.length ≤ 1048576 := by unfold Wd.t mdsT at hD; omega
  have hm2 : ∀ m ∈ D.mods, m.t ≤ 1048576 := fun m hm => by
    have h1 : m.t ≤ (D.mods.map Md.t).sum := mem_le_sum _ _ (List.mem_map.2 ⟨m, hm, rfl⟩)
    unfold Wd.t mdsT at hD; omega
  have hf1 : D.faults.length ≤ 1048576 := by unfold Wd.t at hD; omega
  obtain ⟨R, hR⟩ : ∃ R, R = wok D := ⟨_, rfl⟩
  rw [← hR]
  have HR : Hid (R = wok D) := hR
  clear hR
  obtain ⟨a1, k1, rfl⟩ := h1.slice
  obtain ⟨a2, k2, rfl⟩ := h2.slice
  obtain ⟨a3, k3, rfl⟩ := h3.slice
  obtain ⟨W, hW⟩ : ∃ W, W = (w.alloc (.cells #[.slice a1 D.roots.length k1, .slice a2 D.mods.length k2, .slice a3 D.faults.length k3] 27)).alloc (.cells #[.int .i64 0, .int .i64 0, .int .i64 0] 77) := ⟨_, rfl⟩
  have hWB : Below w.heap.size w W := by rw [hW]; exact below_alloc2 _ _
  have hWs : W.heap.size = w.heap.size + 2 := by rw [hW]; simp
  have hBx : Bx w.heap.size W (.slice a1 D.roots.length k1) (.slice a2 D.mods.length k2) (.slice a3 D.faults.length k3) := by
    rw [hW]; constructor <;> simp [go_sem]
  have HW : Hid (W = (w.alloc (.cells #[.slice a1 D.roots.length k1, .slice a2 D.mods.length k2, .slice a3 D.faults.length k3] 27)).alloc (.cells #[.int .i64 0, .int .i64 0, .int .i64 0] 77)) := hW
  have HM2 : Hid (∀ m ∈ D.mods, m.t ≤ 1048576) := hm2
  have H1 : Hid (Strs w (.slice a1 D.roots.length k1) D.roots) := h1
  have H2 : Hid (Mds w (.slice a2 D.mods.length k2) D.mods) := h2
  have H3 : Hid (Nums w (.slice a3 D.faults.length k3) D.faults) := h3
  clear hW hm2 h1 h2 h3 hD
  go_enter Tryz.func30, Tryz.ntmps30
  go_wp2_with fail
  rw [← HW.out]
  refine (hasTooMany_any _ _ _ _ _ _ _ _ _ _ hr1 hm1 hf1).mono ?_
  by_cases hbig : 60 < D.mods.length ∨ 8 < D.roots.length ∨ 400 < D.faults.length
  · have hR1 : R = (1, 0, 0) := by rw [HR.out, wok_1 hbig]
    subst hR1
    rw [decide_eq_true hbig]
    rintro e w1 ⟨rfl, hb1⟩
    have hB1 : Below (w.heap.size + 2) W w1 := hb1.mono (by omega)
    obtain ⟨p0, p1, p2, q0, q1, q2, f0, f1, f2⟩ := hBx.below hB1 (Nat.le_refl _)
    clear hbig hb1
    go_wp2
    exact bodyPost_ret (v := wrongV (1, 0, 0)) (by simp [results, Tryz.results30, go_sem, wrongV, *]) rfl ⟨rfl, below_ret hWB hB1 _ _ _⟩
  rw [decide_eq_false hbig]
  have HBIG : Hid (¬ (60 < D.mods.length ∨ 8 < D.roots.length ∨ 400 < D.faults.length)) := hbig
  clear hbig
  rintro e w1 ⟨rfl, hb1⟩
  have hB1 : Below (w.heap.size + 2) W w1 := hb1.mono (by omega)
  clear hb1
  obtain ⟨p0, p1, p2, q0, q1, q2, f0, f1, f2⟩ := hBx.below hB1 (Nat.le_refl _)
  go_wp2_with fail
  refine (containsFunc_any _ D.roots w1 (H1.out.below (hWB.trans (hB1.mono (by omega))) (Nat.le_refl _)) hr1).mono ?_
  obtain ⟨rt, hrt⟩ : ∃ rt, D.roots.any oddRoot = rt := ⟨_, rfl⟩
  rw [hrt]
  have HRT : Hid (D.roots.any oddRoot = rt) := hrt
  clear hrt p0 p1 p2 q0 q1 q2 f0 f1 f2
  rintro e w2 ⟨rfl, hb2⟩
  have hB2 : Below (w.heap.size + 2) W w2 := hB1.trans (hb2.mono (by have := hB1.size; omega))
  clear hb2 hB1
  obtain ⟨p0, p1, p2, q0, q1, q2, f0, f1, f2⟩ := hBx.below hB2 (Nat.le_refl _)
  cases rt with
  | true =>
    have hR2 : R = (2, 0, 0) := by rw [HR.out, wok_2 HBIG.out HRT.out]
    subst hR2
    go_wp2
    exact bodyPost_ret (v := wrongV (2, 0, 0)) (by simp [results, Tryz.results30, go_sem, wrongV, *]) rfl ⟨rfl, below_ret hWB hB2 _ _ _⟩
  | false =>
    go_wp2_with fail
    refine (areReadings_any _ D.faults w2 (H3.out.below (hWB.trans (hB2.mono (by omega))) (Nat.le_refl _)) hf1).mono ?_
    obtain ⟨fa, hfa⟩ : ∃ fa, asc (-1) D.faults = fa := ⟨_, rfl⟩
    rw [hfa]
    have HFA : Hid (asc (-1) D.faults = fa) := hfa
    clear hfa
    rintro e w3 ⟨rfl, rfl⟩
    cases fa with
    | false =>
      have hR3 : R = (3, 0, 0) := by rw [HR.out, wok_3 HBIG.out HRT.out HFA.out]
      subst hR3
      go_wp2
      exact bodyPost_ret (v := wrongV (3, 0, 0)) (by simp [results, Tryz.results30, go_sem, wrongV, *]) rfl ⟨rfl, below_ret hWB hB2 _ _ _⟩
    | true =>
      go_wp2_with fail
      refine (shelve_any _ D.mods _ (H2.out.below (hWB.trans (hB2.mono (by omega))) (Nat.le_refl _)) hm1 HM2.out).mono ?_
      obtain ⟨sv, hsv⟩ : ∃ sv, firstN (badMd D.mods) D.mods.length 0 = sv := ⟨_, rfl⟩
      rw [hsv]
      have HSV : Hid (firstN (badMd D.mods) D.mods.length 0 = sv) := hsv
      clear hsv p0 p1 p2 q0 q1 q2 f0 f1 f2
      rintro e w4 ⟨mv, rfl, hb4⟩
      have hB4 : Below (w.heap.size + 2) W w4 := hB2.trans (hb4.mono (by have := hB2.size; omega))
      clear hb4 hB2
      obtain ⟨p0, p1, p2, q0, q1, q2, f0, f1, f2⟩ := hBx.below hB4 (Nat.le_refl _)
      by_cases hsl : sv < D.mods.length
      · have hR4 : R = (4, (sv : Int), 0) := by rw [HR.out, wok_4 HBIG.out HRT.out HFA.out hsl HSV.out]
        subst hR4
        go_wp2
        exact bodyPost_ret (v := wrongV (4, (sv : Int), 0)) (by simp [results, Tryz.results30, go_sem, wrongV, *]) rfl ⟨rfl, below_ret hWB hB4 _ _ _⟩
      · have hsl' : sv = D.mods.length := by have := firstN_le (badMd D.mods) D.mods.length 0; rw [HSV.out] at this; omega
        have HR5 : Hid (∀ k, (hk : k < D.mods.length) → firstN (badLns D.mods) D.mods.length 0 = k → R = (5, (k : Int), ((firstN (badLn D.mods[k].lines) D.mods[k].lines.length 0 : Nat) : Int))) := fun k hk h => by rw [HR.out, wok_5 HBIG.out HRT.out HFA.out (HSV.out.trans hsl') hk h]
        have HR6 : Hid (firstN (badLns D.mods) D.mods.length 0 = D.mods.length → R = (0, 0, 0)) := fun h => by rw [HR.out, wok_0 HBIG.out HRT.out HFA.out (HSV.out.trans hsl') h]
        clear hsl'
        obtain ⟨_, _, _, _, _, hc2⟩ := H2.out
        rename_i a2' cap2' hv2' _ _
        have HC2 : Hid (∀ k, (hk : k < D.mods.length) → ∃ b o s, a2 = some ⟨b, o, none⟩ ∧ b < w.heap.size ∧
          w.cell? ⟨b, o + k * 2, none⟩ = some (strV D.mods[k].name) ∧ w.cell? ⟨b, o + k * 2 + 1, none⟩ = some s ∧ Lns w s D.mods[k].lines) := fun k hk => by
            obtain ⟨b, o, s, ha, r⟩ := hc2 k hk
            injection hv2' with e1 e2 e3
            exact ⟨b, o, s, e1.trans ha, r⟩
        clear hc2 hv2'
        go_wp2
        go_loopw [39] (fun i wr => ∃ k : Nat, k ≤ D.mods.length ∧ i = .int .i64 k ∧ (∀ j, j < k → badLns D.mods j = false) ∧ Below (w.heap.size + 2) W wr) (fun i _ => D.mods.length - (intOf i).toNat)
        case atStart => exact ⟨0, Nat.zero_le _, rfl, fun j h => absurd h (by omega), hB4⟩
        case round =>
          obtain ⟨k, hk, rfl, hbad, hB8⟩ := hrel
          have HBAD : Hid (∀ j, j < k → badLns D.mods j = false) := hbad
          clear hbad hB4 p0 p1 p2 q0 q1 q2 f0 f1 f2
          rename World => w8
          have hBr8 : w.heap.size + 2 ≤ w8.heap.size := by have := hB8.size; omega
          obtain ⟨p0, p1, p2, q0, q1, q2, f0, f1, f2⟩ := hBx.below hB8 (Nat.le_refl _)
          by_cases hlt : k < D.mods.length
          · obtain ⟨b, o, s, rfl, hb, h0, h1, h2⟩ := HC2.out k hlt
            obtain ⟨hs1, hs2, hs3⟩ := Md.small (HM2.out _ (List.getElem_mem hlt))
            obtain ⟨asl, cs, rfl⟩ := h2.slice
            obtain ⟨ns, hns⟩ : ∃ ns : ByteArray, ns.data.toList = D.mods[k].name := ⟨⟨D.mods[k].name.toArray⟩, by simp⟩
            have hnv : strV D.mods[k].name = .string ns := by rw [← hns, strV_data]
            rw [hnv] at h0
            have c0 := (hB8.cell (p := ⟨b, o + k * 2, none⟩) (by simp only []; omega)).trans ((hWB.cell (p := ⟨b, o + k * 2, none⟩) hb).trans h0)
            have c1 := (hB8.cell (p := ⟨b, o + k * 2 + 1, none⟩) (by simp only []; omega)).trans ((hWB.cell (p := ⟨b, o + k * 2 + 1, none⟩) hb).trans h1)
            have hln : Lns (w8.alloc (Obj.cells #[Value.string ns, Value.slice asl D.mods[k].lines.length cs] 39)) (.slice asl D.mods[k].lines.length cs) D.mods[k].lines :=
              h2.below ((hWB.trans (hB8.mono (by omega))).alloc (by omega) _) (Nat.le_refl _)
            have hfo := firstOddLine_any _ D.mods[k].lines _ hln hs2 hs3
            have HBK : Hid (badLns D.mods k = decide (firstN (badLn D.mods[k].lines) D.mods[k].lines.length 0 < D.mods[k].lines.length)) := badLns_at hlt
            obtain ⟨N, hN⟩ : ∃ N, N = D.mods[k].lines.length := ⟨_, rfl⟩
            obtain ⟨q, hq⟩ : ∃ q, q = firstN (badLn D.mods[k].lines) D.mods[k].lines.length 0 := ⟨_, rfl⟩
            have hqn : q ≤ N := by rw [hq, hN]; have := firstN_le (badLn D.mods[k].lines) D.mods[k].lines.length 0; omega
            rw [← hq] at hfo HBK
            rw [← hN] at hfo HBK c1 hs2
            have HQ : Hid (q = firstN (badLn D.mods[k].lines) D.mods[k].lines.length 0) := hq
            have HFO : Hid (Calls Tryz.prog 46 #[.slice asl N cs] (w8.alloc (Obj.cells #[Value.string ns, Value.slice asl N cs] 39)) fun e w' => e = .returned (.int .i64 (q : Nat)) ∧ Below (w8.alloc (Obj.cells #[Value.string ns, Value.slice asl N cs] 39)).heap.size (w8.alloc (Obj.cells #[Value.string ns, Value.slice asl N cs] 39)) w') := hfo
            clear h0 h1 h2 hs3 hs1 hns hnv hN hq hln hfo
            go_wp2_with fail
            refine HFO.out.mono ?_
            rintro e w9 ⟨rfl, hb9⟩
            have m1 : w9.cell? ⟨w8.heap.size, 1, none⟩ = some (.slice asl N cs) := below_cell0 hb9 (by simp) (by simp [go_sem])
            have hB9 : Below (w.heap.size + 2) W w9 := (hB8.alloc hBr8 _).trans (hb9.mono (by simp; omega))
            clear hb9 p0 p1 p2 q0 q1 q2 f0 f1 f2 c0 c1
            obtain ⟨p0, p1, p2, q0, q1, q2, f0, f1, f2⟩ := hBx.below hB9 (Nat.le_refl _)
            by_cases hqN : q < N
            · have hR5 : R = (5, (k : Int), (q : Int)) := by
                rw [HR5.out k hlt (firstN_hit hlt HBAD.out (by rw [HBK.out]; simpa using hqN)), ← HQ.out]
              subst hR5
              go_wp2
              exact bodyPost_ret (v := wrongV (5, (k : Int), (q : Int))) (by simp [results, Tryz.results30, go_sem, wrongV, *]) rfl ⟨rfl, below_ret hWB hB9 _ _ _⟩
            · have HGOOD : Hid (badLns D.mods k = false) := by unfold Hid; rw [HBK.out]; simpa using hqN
              go_wp2
              go_roundw
              case rel => exact ⟨k + 1, by omega, by go_num, fun j hjk => by
                by_cases hjk' : j = k
                · subst hjk'; exact HGOOD.out
                · exact HBAD.out j (by omega), hB9⟩
              case measure => simp [intOf]; omega
          · have hR0 : R = (0, 0, 0) := HR6.out (firstN_none (fun j hj => HBAD.out j (by omega)))
            subst hR0
            go_wp2
            exact bodyPost_ret (v := wrongV (0, 0, 0)) (by simp [results, Tryz.results30, go_sem, wrongV, *]) rfl ⟨rfl, below_ret hWB hB8 _ _ _⟩
end Go.Proofs.YtimgafblpmjajaaGreat
namespace Go.Proofs.YtimgafblpmjajaaGreat

open Go.RowKit

def lnR (l : Ln) : List Value := [.int .i64 l.op, strV l.name, .int .i64 l.num, .int .i64 l.skip]
theorem lnR_len (L : List Ln) : (L.flatMap lnR).length = L.length * 4 := by
  induction L with
  | nil => rfl
  | cons x r ih => simp only [List.flatMap_cons, List.length_append, ih, lnR, List.length_cons, List.length_nil]; omega
theorem lnR_get : ∀ (L : List Ln) (k : Nat) (h : k < L.length), (L.flatMap lnR)[k * 4]? = some (.int .i64 L[k].op) ∧ (L.flatMap lnR)[k * 4 + 1]? = some (strV L[k].name) ∧ (L.flatMap lnR)[k * 4 + 2]? = some (.int .i64 L[k].num) ∧ (L.flatMap lnR)[k * 4 + 3]? = some (.int .i64 L[k].skip)
  | [], _, h => absurd h (by simp)
  | x :: r, 0, _ => by simp [lnR]
  | x :: r, k + 1, h => by
    have h' : k < r.length := by simpa using h
    obtain ⟨i0, i1, i2, i3⟩ := lnR_get r k h'
    have e : ∀ j, ((x :: r).flatMap lnR)[j + 4]? = (r.flatMap lnR)[j]? := fun j => by
      rw [List.flatMap_cons, List.getElem?_append_right (by simp [lnR])]; simp [lnR]
    have e0 : (k + 1) * 4 = k * 4 + 4 := by omega
    have e1 : (k + 1) * 4 + 1 = (k * 4 + 1) + 4 := by omega
    have e2 : (k + 1) * 4 + 2 = (k * 4 + 2) + 4 := by omega
    have e3 : (k + 1) * 4 + 3 = (k * 4 + 3) + 4 := by omega
    rw [e1, e2, e3, e0, e, e, e, e]
    simp only [List.getElem_cons_succ]
    exact ⟨i0, i1, i2, i3⟩
theorem lnR_eq {X : List Value} {L : List Ln} (hX : X.length = L.length * 4) (h : ∀ j (hj : j < L.length), X[j * 4]? = some (.int .i64 L[j].op) ∧ X[j * 4 + 1]? = some (strV L[j].name) ∧ X[j * 4 + 2]? = some (.int .i64 L[j].num) ∧ X[j * 4 + 3]? = some (.int .i64 L[j].skip)) : X = L.flatMap lnR := by
  apply List.ext_getElem?
  intro i
  by_cases hi : i / 4 < L.length
  · obtain ⟨a0, a1, a2, a3⟩ := h _ hi
    obtain ⟨b0, b1, b2, b3⟩ := lnR_get L _ hi
    have hm : i % 4 = 0 ∨ i % 4 = 1 ∨ i % 4 = 2 ∨ i % 4 = 3 := by omega
    rcases hm with hm | hm | hm | hm
    · rw [show i = i / 4 * 4 by omega, a0, b0]
    · rw [show i = i / 4 * 4 + 1 by omega]; exact a1.trans b1.symm
    · rw [show i = i / 4 * 4 + 2 by omega]; exact a2.trans b2.symm
    · rw [show i = i / 4 * 4 + 3 by omega]; exact a3.trans b3.symm
  · rw [List.getElem?_eq_none (by omega), List.getElem?_eq_none (by rw [lnR_len]; omega)]
theorem lns_own {w : World} {base : Nat} {v : Value} {L : List Ln} (h : w.ownsRow base 56 4 v L.length (L.flatMap lnR)) : Lns w v L := by
  rcases h.2 with ⟨hv, hn⟩ | ⟨g, cap, cur, hv, hg, hh, hc, hm, _⟩
  · exact ⟨none, 0, by rw [hv, hn], by omega, by unfold maxLen; omega, fun k hk => by omega⟩
  · subst hv
    exact lns_of_row h hm (fun j hj => lnR_get L j hj)
theorem nums_own {w : World} {base : Nat} {v : Value} {L : List Int} (h : w.ownsRow base 3 1 v L.length (L.map i64V)) : Nums w v L := by
  rcases h.2 with ⟨hv, hn⟩ | ⟨g, cap, cur, hv, hg, hh, hc, hm, _⟩
  · exact ⟨none, 0, by rw [hv, hn], by omega, by unfold maxLen; omega, fun k hk => by omega⟩
  · subst hv
    exact nums_of_row h hm (fun j hj => by simp [hj]; rfl)
theorem own_block {w w' : World} {base : Nat} {e : TypeId} {size : Nat} {v : Value} {n : Nat} {xs : List Value} (h : w.ownsRow base e size v n xs) (hk : ∀ b, v.ownBlock = some b → w'.heap[b]? = w.heap[b]?) : w'.ownsRow base e size v n xs := by
  obtain ⟨h1, h2 | ⟨g, cap, cur, hv, hg, hh, r⟩⟩ := h
  · exact ⟨h1, .inl h2⟩
  · exact ⟨h1, .inr ⟨g, cap, cur, hv, hg, by rw [hk g (by rw [hv]; rfl)]; exact hh, r⟩⟩
theorem own_set {w : World} {base : Nat} {e : TypeId} {size : Nat} {v : Value} {n : Nat} {xs : List Value} {B : Nat} (h : w.ownsRow base e size v n xs) (hB : B < base) (o : Nat) (u : Value) : (w.setCell ⟨B, o, none⟩ u).ownsRow base e size v n xs :=
  own_block h (fun b hb => by
    have := (h.lt b hb).1
    exact Below.heap_setCell _ _ _ _ (by show b ≠ B; omega))

/-- A row of modules, each with a row of lines, all of a call's own. -/
def Mrow (base : Nat) (w : World) (v : Value) (M : List Md) (X : List Value) : Prop :=
  w.ownsRow base 39 2 v M.length X ∧ ∀ j (hj : j < M.length), ∃ ls, X[j * 2]? = some (strV M[j].name) ∧ X[j * 2 + 1]? = some ls ∧ w.ownsRow base 56 4 ls M[j].lines.length (M[j].lines.flatMap lnR)
theorem Mrow.below {base B : Nat} {w w' : World} {v : Value} {M : List Md} {X : List Value} (h : Mrow base w v M X) (hb : Below B w w') (hB : w.heap.size ≤ B) : Mrow base w' v M X :=
  ⟨own_below h.1 hb hB, fun j hj => by obtain ⟨ls, h1, h2, h3⟩ := h.2 j hj; exact ⟨ls, h1, h2, own_below h3 hb hB⟩⟩
theorem Mrow.set {base B : Nat} {w : World} {v : Value} {M : List Md} {X : List Value} (h : Mrow base w v M X) (hB : B < base) (o : Nat) (u : Value) : Mrow base (w.setCell ⟨B, o, none⟩ u) v M X :=
  ⟨own_set h.1 hB _ _, fun j hj => by obtain ⟨ls, h1, h2, h3⟩ := h.2 j hj; exact ⟨ls, h1, h2, own_set h3 hB _ _⟩⟩
theorem Mrow.mono {base base' : Nat} {w : World} {v : Value} {M : List Md} {X : List Value} (h : Mrow base w v M X) (hb : base' ≤ base) : Mrow base' w v M X :=
  ⟨own_mono h.1 hb, fun j hj => by obtain ⟨ls, h1, h2, h3⟩ := h.2 j hj; exact ⟨ls, h1, h2, own_mono h3 hb⟩⟩
theorem Mrow.mds {base : Nat} {w : World} {v : Value} {M : List Md} {X : List Value} (h : Mrow base w v M X) : Mds w v M := by
  rcases h.1.2 with ⟨hv, hn⟩ | ⟨g, cap, cur, hv, hg, hh, hc, hm, _⟩
  · exact ⟨none, 0, by rw [hv, hn], by omega, by unfold maxLen; omega, fun k hk => by omega⟩
  · subst hv
    have hca := h.1.cellAt
    refine ⟨_, cap, rfl, hc, hm, fun k hk => ?_⟩
    obtain ⟨ls, h1, h2, h3⟩ := h.2 k hk
    exact ⟨g, 0, ls, rfl, (Array.getElem?_eq_some_iff.1 hh).1, by rw [Nat.zero_add, hca _ (by omega)]; exact h1, by rw [Nat.zero_add, hca _ (by omega)]; exact h2, lns_own h3⟩
/-- A world all of whose rows are a call's own. -/
def Wdo (base : Nat) (w : World) (v : Value) (D : Wd) : Prop :=
  ∃ r m f X, v = .agg #[r, m, f] ∧ w.ownsRow base 9 1 r D.roots.length (D.roots.map strV) ∧ Mrow base w m D.mods X ∧ w.ownsRow base 3 1 f D.faults.length (D.faults.map i64V)
theorem Wdo.wds {base : Nat} {w : World} {v : Value} {D : Wd} (h : Wdo base w v D) : Wds w v D := by
  obtain ⟨r, m, f, X, rfl, h1, h2, h3⟩ := h
  exact ⟨r, m, f, rfl, Strs.of_row h1, h2.mds, nums_own h3⟩
theorem Wdo.below {base : Nat} {w w' : World} {v : Value} {D : Wd} {B : Nat} (h : Wdo base w v D) (hb : Below B w w') (hB : w.heap.size ≤ B) : Wdo base w' v D := by
  obtain ⟨r, m, f, X, rfl, h1, h2, h3⟩ := h
  exact ⟨r, m, f, X, rfl, own_below h1 hb hB, h2.below hb hB, own_below h3 hb hB⟩

end Go.Proofs.YtimgafblpmjajaaGreat
namespace Go.Proofs.YtimgafblpmjajaaGreat

open Go.RowKit

def markAt (j : Nat) : Value := strV (mkT (1 + j))
def marks (n : Nat) : List Value := (List.range n).map markAt
/-- The first k are marked. -/
def marked (xs : List Value) (k : Nat) : List Value := marks k ++ xs.drop k
theorem marks_length (n : Nat) : (marks n).length = n := by simp [marks]
theorem marked_zero (xs : List Value) : marked xs 0 = xs := by simp [marked, marks]
theorem marked_all (xs : List Value) (k : Nat) (h : xs.length ≤ k) : marked xs k = marks k := by simp [marked, List.drop_of_length_le h]
theorem marked_set (xs : List Value) (k : Nat) (hk : k < xs.length) : (marked xs k).set k (markAt k) = marked xs (k + 1) := by
  unfold marked
  rw [List.set_append_right _ _ (by rw [marks_length]; omega), marks_length, Nat.sub_self, List.drop_eq_getElem_cons hk, List.set_cons_zero]
  simp [marks, List.range_succ]

theorem grown_trans {w w1 w2 : World} {row : Option Nat} (h : w.grownBy w1 row) (k : w1.grownBy w2 row) : w.grownBy w2 row :=
  ⟨k.os.trans h.os, k.tape.trans h.tape, k.output.trans h.output, Nat.le_trans h.size k.size, fun i hi hne => (k.block i (Nat.lt_of_lt_of_le hi h.size) hne).trans (h.block i hi hne)⟩
theorem grown_of_below {w w1 : World} (h : Below w.heap.size w w1) (row : Option Nat) : w.grownBy w1 row :=
  ⟨h.os, h.tape, h.output, h.size, fun i hi _ => h.block i hi⟩

end Go.Proofs.YtimgafblpmjajaaGreat
namespace Go.Proofs.YtimgafblpmjajaaGreat

open Go.RowKit
theorem row_form {w : World} {base : Nat} {e : TypeId} {size n : Nat} {v : Value} {xs : List Value} (h : w.ownsRow base e size v n xs) : ∃ a cap, v = .slice a n cap ∧ n ≤ cap ∧ (0 < n → ∃ g, a = some ⟨g, 0, none⟩) := by
  obtain ⟨_, ⟨rfl, hn0⟩ | ⟨g, cap, cur, rfl, hg, hh, hcap, _⟩⟩ := h
  · exact ⟨none, 0, by rw [hn0], by omega, fun h => by omega⟩
  · exact ⟨_, cap, rfl, hcap, fun _ => ⟨g, rfl⟩⟩
theorem row_cell {w : World} {base : Nat} {e : TypeId} {size n cap g : Nat} {xs : List Value} (h : w.ownsRow base e size (.slice (some ⟨g, 0, none⟩) n cap) n xs) (i : Nat) (hi : i < n * size) : ∃ u, w.cell? ⟨g, i, none⟩ = some u := by
  have := h.1
  rw [h.cellAt i (by omega)]; exact ⟨_, List.getElem?_eq_getElem (by omega)⟩

end Go.Proofs.YtimgafblpmjajaaGreat
namespace Go.Proofs.YtimgafblpmjajaaGreat

open Go.RowKit

/-- Only what lies from one block to another is turned. -/
structure Btw (lo hi : Nat) (w w' : World) : Prop where
  os : w'.os = w.os
  tape : w'.tape = w.tape
  output : w'.output = w.output
  size : w.heap.size ≤ w'.heap.size
  block : ∀ b, b < w.heap.size → b < lo ∨ hi ≤ b → w'.heap[b]? = w.heap[b]?
theorem Btw.refl (lo hi : Nat) (w : World) : Btw lo hi w w := ⟨rfl, rfl, rfl, Nat.le_refl _, fun _ _ _ => rfl⟩
theorem Btw.trans {lo hi : Nat} {w w1 w2 : World} (h : Btw lo hi w w1) (k : Btw lo hi w1 w2) : Btw lo hi w w2 :=
  ⟨k.os.trans h.os, k.tape.trans h.tape, k.output.trans h.output, Nat.le_trans h.size k.size, fun b hb hn => (k.block b (Nat.lt_of_lt_of_le hb h.size) hn).trans (h.block b hb hn)⟩
theorem Btw.of_below {lo hi : Nat} {w w1 : World} (h : Below w.heap.size w w1) : Btw lo hi w w1 := ⟨h.os, h.tape, h.output, h.size, fun b hb _ => h.block b hb⟩
theorem Btw.of_grown {lo hi : Nat} {w w1 : World} {row : Option Nat} (h : w.grownBy w1 row) (hr : ∀ b, row = some b → lo ≤ b ∧ b < hi) : Btw lo hi w w1 :=
  ⟨h.os, h.tape, h.output, h.size, fun b hb hn => h.block b hb (fun e => by have := hr b e.symm; omega)⟩
theorem Btw.below {lo hi : Nat} {w w1 : World} (h : Btw lo hi w w1) (hlo : lo ≤ w.heap.size) : Below lo w w1 :=
  ⟨h.os, h.tape, h.output, h.size, fun b hb => h.block b (by omega) (.inl hb)⟩
theorem Btw.own {lo hi base n size : Nat} {w w1 : World} {e : TypeId} {v : Value} {xs : List Value} (h : Btw lo hi w w1) (ho : w.ownsRow base e size v n xs) (hb : hi ≤ base) : w1.ownsRow base e size v n xs :=
  own_block ho (fun b hv => h.block b (ho.lt b hv).2 (.inr (Nat.le_trans hb (ho.lt b hv).1)))
theorem Btw.own_old {lo hi base n size : Nat} {w w1 : World} {e : TypeId} {v : Value} {xs : List Value} (h : Btw lo hi w w1) (ho : w.ownsRow base e size v n xs) (hb : ∀ b, v.ownBlock = some b → b < lo) : w1.ownsRow base e size v n xs :=
  own_block ho (fun b hv => h.block b (ho.lt b hv).2 (.inl (hb b hv)))

theorem own_twin {w w' : World} {lo lo' : Nat} {e : TypeId} {size n n' : Nat} {v v' : Value} {xs ys xs' : List Value} (h : w.ownsRow lo e size v n xs) (h1 : w'.ownsRow lo e size v n ys) (h' : w.ownsRow lo' e size v' n' xs') (hg : w.grownBy w' v.ownBlock) : ∃ zs, w'.ownsRow lo' e size v' n' zs := by
  obtain ⟨k1, h2 | ⟨g, cap, cur, rfl, hlo, hh, hc, hm, hs, ht⟩⟩ := h'
  · exact ⟨xs', k1, .inl h2⟩
  · by_cases hv : v.ownBlock = some g
    · obtain ⟨j1, j2 | ⟨ga, capa, cura, rfl, _, hha, _, _, hsa, _⟩⟩ := h
      · rw [j2.1] at hv; cases hv
      · simp [Value.ownBlock] at hv
        subst hv
        obtain ⟨i1, i2 | ⟨gb, capb, curb, hvb, _, hhb, _, _, hsb, _⟩⟩ := h1
        · cases i2.1
        · cases hvb
          rw [hh] at hha
          have hcc : cur = cura := by simpa using hha
          subst hcc
          refine ⟨curb.toList.take (n' * size), ?_, .inr ⟨ga, cap, curb, rfl, hlo, hhb, hc, hm, by omega, rfl⟩⟩
          rw [List.length_take, Array.length_toList, hsb, ← hsa, hs]
          exact Nat.min_eq_left (Nat.mul_le_mul_right _ hc)
    · exact ⟨xs', k1, .inr ⟨g, cap, cur, rfl, hlo, by rw [hg.block g (Array.getElem?_eq_some_iff.1 hh).1 (fun e => hv (by rw [e]))]; exact hh, hc, hm, hs, ht⟩⟩

theorem rows_apart' {w : World} {b1 b2 : Nat} {e1 e2 : TypeId} {s1 s2 n1 n2 : Nat} {v1 v2 : Value} {x1 x2 : List Value} (he : e1 ≠ e2) (h1 : w.ownsRow b1 e1 s1 v1 n1 x1) (h2 : w.ownsRow b2 e2 s2 v2 n2 x2) : ∀ b, v2.ownBlock = some b → v1.ownBlock ≠ some b := by
  intro b hb hb1
  obtain ⟨_, j2 | ⟨g, cap, cur, rfl, _, hg, _⟩⟩ := h2
  · rw [j2.1] at hb; cases hb
  · obtain ⟨_, i2 | ⟨g', cap', cur', rfl, _, hg', _⟩⟩ := h1
    · rw [i2.1] at hb1; cases hb1
    · simp [Value.ownBlock] at hb hb1
      subst hb hb1
      rw [hg] at hg'
      simp at hg'
      exact he hg'.2.symm

/-- Blocks of other types than a module's and a line's stand. -/
def Kt (w w' : World) : Prop := ∀ (b : Nat) (cs : Array Value) (t : TypeId) (fr : Nat × Nat), w.heap[b]? = some (.cells cs t fr) → t ≠ 39 → t ≠ 56 → w'.heap[b]? = w.heap[b]?
theorem Kt.refl (w : World) : Kt w w := fun _ _ _ _ _ _ _ => rfl
theorem Kt.trans {w w1 w2 : World} (h : Kt w w1) (k : Kt w1 w2) : Kt w w2 := fun b cs t fr hb h1 h2 => (k b cs t fr ((h b cs t fr hb h1 h2).trans hb) h1 h2).trans (h b cs t fr hb h1 h2)
theorem Kt.of_below {w w1 : World} (h : Below w.heap.size w w1) : Kt w w1 := fun b _ _ _ hb _ _ => h.block b (Array.getElem?_eq_some_iff.1 hb).1
theorem Kt.of_grown {w w1 : World} {lo : Nat} {e : TypeId} {size n : Nat} {v : Value} {xs : List Value} (h : w.grownBy w1 v.ownBlock) (hr : w.ownsRow lo e size v n xs) (he : e = 39 ∨ e = 56) : Kt w w1 := fun b cs t fr hb h1 h2 =>
  h.block b (Array.getElem?_eq_some_iff.1 hb).1 (fun ev => by
    obtain ⟨_, j2 | ⟨g, cap, cur, rfl, _, hg, _⟩⟩ := hr
    · rw [j2.1] at ev; cases ev
    · simp [Value.ownBlock] at ev
      subst ev
      rw [hb] at hg
      have : t = e := by simp at hg; exact hg.2.1
      rcases he with he | he
      · exact h1 (this.trans he)
      · exact h2 (this.trans he))
theorem Kt.own {w w1 : World} {lo : Nat} {e : TypeId} {size n : Nat} {v : Value} {xs : List Value} (h : Kt w w1) (hr : w.ownsRow lo e size v n xs) (h1 : e ≠ 39) (h2 : e ≠ 56) : w1.ownsRow lo e size v n xs := by
  obtain ⟨k, j2 | ⟨g, cap, cur, hv, hlo, hg, r⟩⟩ := hr
  · exact ⟨k, .inl j2⟩
  · exact ⟨k, .inr ⟨g, cap, cur, hv, hlo, (h g _ _ _ hg h1 h2).trans hg, r⟩⟩
theorem Mrow.grown {lo b : Nat} {w w' : World} {v u : Value} {M : List Md} {X : List Value} {e : TypeId} {size n : Nat} {xs : List Value} (h : Mrow lo w v M X) (hr : w.ownsRow b e size u n xs) (h1 : e ≠ 39) (h2 : e ≠ 56) (hg : w.grownBy w' u.ownBlock) : Mrow lo w' v M X :=
  ⟨own_block h.1 (fun b hb => hg.block b (h.1.lt b hb).2 (rows_apart' h1 hr h.1 b hb).symm), fun j hj => by
    obtain ⟨ls, k1, k2, k3⟩ := h.2 j hj
    exact ⟨ls, k1, k2, own_block k3 (fun b hb => hg.block b (k3.lt b hb).2 (rows_apart' h2 hr k3 b hb).symm)⟩⟩

def lineN (M : List Md) : Nat := (M.map (fun m => m.lines.length)).sum
theorem lineN_take (M : List Md) (j : Nat) (hj : j < M.length) : lineN (M.take (j + 1)) = lineN (M.take j) + M[j].lines.length := by
  unfold lineN; rw [List.take_succ_eq_append_getElem hj, List.map_append, List.sum_append]; simp
theorem lineN_le (M : List Md) : M.length + lineN M ≤ mdsT M := by
  unfold lineN mdsT
  have : ∀ L : List Md, (L.map (fun m => m.lines.length)).sum ≤ (L.map Md.t).sum := fun L => by
    induction L with
    | nil => simp
    | cons x r ih => simp only [List.map_cons, List.sum_cons]; have : x.lines.length ≤ x.t := by unfold Md.t lnsT; omega
                     omega
  have := this M; omega
theorem lineN_mono (M : List Md) (j : Nat) : lineN (M.take j) ≤ lineN M := by
  have h : lineN M = lineN (M.take j) + lineN (M.drop j) := by unfold lineN; rw [← List.sum_append, ← List.map_append, List.take_append_drop]
  omega

end Go.Proofs.YtimgafblpmjajaaGreat
namespace Go.Proofs.YtimgafblpmjajaaGreat

open Go.RowKit

/-- An edge as plain data. -/
structure Eg where
  src : Int
  line : Int
  to : Int
def egV (e : Eg) : Value := .agg #[.int .i64 e.src, .int .i64 e.line, .int .i64 e.to]
def egR (e : Eg) : List Value := [.int .i64 e.src, .int .i64 e.line, .int .i64 e.to]
theorem egR_len (L : List Eg) : (L.flatMap egR).length = L.length * 3 := by
  induction L with
  | nil => rfl
  | cons x r ih => simp only [List.flatMap_cons, List.length_append, ih, egR, List.length_cons, List.length_nil]; omega
theorem egR_get : ∀ (L : List Eg) (k : Nat) (h : k < L.length), (L.flatMap egR)[k * 3]? = some (.int .i64 L[k].src) ∧ (L.flatMap egR)[k * 3 + 1]? = some (.int .i64 L[k].line) ∧ (L.flatMap egR)[k * 3 + 2]? = some (.int .i64 L[k].to)
  | [], _, h => absurd h (by simp)
  | x :: r, 0, _ => by simp [egR]
  | x :: r, k + 1, h => by
    have h' : k < r.length := by simpa using h
    obtain ⟨i0, i1, i2⟩ := egR_get r k h'
    have e : ∀ j, ((x :: r).flatMap egR)[j + 3]? = (r.flatMap egR)[j]? := fun j => by
      rw [List.flatMap_cons, List.getElem?_append_right (by simp [egR])]; simp [egR]
    have e0 : (k + 1) * 3 = k * 3 + 3 := by omega
    have e1 : (k + 1) * 3 + 1 = (k * 3 + 1) + 3 := by omega
    have e2 : (k + 1) * 3 + 2 = (k * 3 + 2) + 3 := by omega
    rw [e1, e2, e0, e, e, e]
    simp only [List.getElem_cons_succ]
    exact ⟨i0, i1, i2⟩
/-- A slice of edges that can be read. -/
def Egs (w : World) (v : Value) (L : List Eg) : Prop :=
  ∃ a cap, v = .slice a L.length cap ∧ L.length ≤ cap ∧ cap ≤ maxLen ∧ ∀ k, (hk : k < L.length) → ∃ b o, a = some ⟨b, o, none⟩ ∧ b < w.heap.size ∧
    w.cell? ⟨b, o + k * 3, none⟩ = some (.int .i64 L[k].src) ∧ w.cell? ⟨b, o + k * 3 + 1, none⟩ = some (.int .i64 L[k].line) ∧ w.cell? ⟨b, o + k * 3 + 2, none⟩ = some (.int .i64 L[k].to)
theorem Egs.below {w w' : World} {B : Nat} {v : Value} {L : List Eg} (h : Egs w v L) (hb : Below B w w') (hB : w.heap.size ≤ B) : Egs w' v L := by
  obtain ⟨a, cap, hv, hcap, hmax, hc⟩ := h
  exact ⟨a, cap, hv, hcap, hmax, fun k hk => by
    obtain ⟨b, o, ha, hlt, h0, h1, h2⟩ := hc k hk
    have hl := Nat.lt_of_lt_of_le hlt hB
    exact ⟨b, o, ha, Nat.lt_of_lt_of_le hlt hb.size, (hb.cell (p := ⟨b, o + k * 3, none⟩) hl).trans h0, (hb.cell (p := ⟨b, o + k * 3 + 1, none⟩) hl).trans h1, (hb.cell (p := ⟨b, o + k * 3 + 2, none⟩) hl).trans h2⟩⟩
theorem egs_own {w : World} {base : Nat} {v : Value} {L : List Eg} (h : w.ownsRow base 33 3 v L.length (L.flatMap egR)) : Egs w v L := by
  have hca := fun (g cap : Nat) (hv : v = .slice (some ⟨g, 0, none⟩) L.length cap) => (hv ▸ h : w.ownsRow base 33 3 (.slice (some ⟨g, 0, none⟩) L.length cap) L.length (L.flatMap egR)).cellAt
  rcases h.2 with ⟨hv, hn⟩ | ⟨g, cap, cur, hv, hg, hh, hc, hm, _⟩
  · exact ⟨none, 0, by rw [hv, hn], by omega, by unfold maxLen; omega, fun k hk => by omega⟩
  · have hca := hca g cap hv
    refine ⟨_, cap, hv, hc, hm, fun k hk => ?_⟩
    obtain ⟨i0, i1, i2⟩ := egR_get L k hk
    exact ⟨g, 0, rfl, (Array.getElem?_eq_some_iff.1 hh).1, by rw [Nat.zero_add, hca _ (by omega)]; exact i0, by rw [Nat.zero_add, hca _ (by omega)]; exact i1, by rw [Nat.zero_add, hca _ (by omega)]; exact i2⟩

/-- The marks of n edges, from 1 on. -/
def egM (j : Nat) : Eg := ⟨(1 + 3 * j : Nat), (1 + 3 * j + 1 : Nat), (1 + 3 * j + 2 : Nat)⟩
def egMs (n : Nat) : List Eg := (List.range n).map egM
theorem egMs_len (n : Nat) : (egMs n).length = n := by simp [egMs]
theorem egMs_get (n j : Nat) (h : j < (egMs n).length) : (egMs n)[j] = egM j := by simp [egMs]

end Go.Proofs.YtimgafblpmjajaaGreat
namespace Go.Proofs.YtimgafblpmjajaaGreat

open Go.RowKit

theorem below_set2' {B : Nat} {w w1 : World} (hb : Below B w w1) (hB : B ≤ w.heap.size) (u0 u1 : Value) : Below B w ((w1.setCell ⟨w.heap.size, 0, none⟩ u0).setCell ⟨w.heap.size, 1, none⟩ u1) :=
  (hb.setCell (p := ⟨w.heap.size, 0, none⟩) hB _).setCell (p := ⟨w.heap.size, 1, none⟩) hB _

/-- A struct of two cells that was laid first, behind what was laid since. -/
theorem old_two {w1 w2 : World} {u0 u1 : Value} {t : TypeId} (hb : Below (w1.alloc (.cells #[u0, u1] t)).heap.size (w1.alloc (.cells #[u0, u1] t)) w2) (o' : Obj) :
    (w2.alloc o').cell? ⟨w1.heap.size, 0, none⟩ = some u0 ∧ (w2.alloc o').cell? ⟨w1.heap.size, 1, none⟩ = some u1 := by
  have hz : w1.heap.size < w2.heap.size := by have := hb.size; simp at this; omega
  have hb' : Below (w1.alloc (.cells #[u0, u1] t)).heap.size (w1.alloc (.cells #[u0, u1] t)) (w2.alloc o') := hb.trans ((Below.refl _ _).alloc (by simp; omega) o')
  obtain ⟨hc, hf⟩ := bcell hb'
  exact ⟨by rw [hc _ _ (by simp)]; simp, by rw [hc _ _ (by simp)]; simp⟩

end Go.Proofs.YtimgafblpmjajaaGreat
namespace Go.Proofs.YtimgafblpmjajaaGreat

open Go.RowKit Go.Shelf

attribute [local go_sem] Oper.semAt_some

set_option maxRecDepth 100000 in
set_option maxHeartbeats 2000000 in
theorem appendSeq_any (Bn : Nat) (s : ByteArray) (w : World) (hs : s.size ≤ 60) (hBn : Bn < w.heap.size) (hc : w.cell? ⟨Bn, 0, none⟩ = some (.string s)) :
    Calls Tryz.prog 84 #[.slice none 0 0, .func (.func 78) #[] #[.pointer (some ⟨Bn, 0, none⟩)]] w fun e w' => ∃ v, e = .returned v ∧ w'.ownsRow w.heap.size 9 1 v (Pl.split s.data.toList).length ((Pl.split s.data.toList).map strV) ∧ Below w.heap.size w w' := by
  obtain ⟨i0, hi, hz0, hz1, hz2⟩ := info_parts Tryz.info9
  have hsl : (Pl.split s.data.toList).length ≤ 61 := by have := Pl.length_split s.data.toList; rw [← size_data] at this; omega
  refine (callsIn_wide (n := 5)).1 ?_
  refine callsIn_of_wp_marks Tryz.func84 rfl trivial ?_ rfl
  simp only [Tryz.ntmps84, List.size_toArray, List.length_cons, List.length_nil, Nat.reduceAdd, Nat.reduceSub, Array.replicate_succ, Array.replicate_zero, List.push_toArray, List.append_toArray, List.nil_append, List.cons_append]
  gi_wp2
  have b0 := Boxed.new w 23 (.slice none 0 0)
  have hB0 : Below w.heap.size w (w.alloc (.cells #[.slice none 0 0] 23)) := (Below.refl _ w).alloc (Nat.le_refl _) _
  have hc1 : (w.alloc (.cells #[.slice none 0 0] 23)).cell? ⟨Bn, 0, none⟩ = some (.string s) := (World.cell?_alloc_past _ _ _ hBn).trans hc
  refine wpIn_rangeFunc_ownG rfl (by omega) (gf := 78) (lb := #[.pointer (some ⟨Bn, 0, none⟩)]) rfl trivial (enters_of Tryz.func78 (by kernel_rfl) rfl)
    (parts_stops (5 - 1) (by omega) Bn s hs _ (by simp; omega) hc1) (fun _ _ => trivial) (fun _ _ _ _ _ _ _ _ => trivial) (Below.refl _ _) (fun _ => rfl)
    (fun pre W => (∃ v, Boxed W w.heap.size 23 v ∧ W.ownsRow w.heap.size 9 1 v (vals pre).length ((vals pre).map strV) ∧ True) ∧ Below w.heap.size w W)
    (fun _ _ _ => False)
    (OwnFrom.and (Own.from (holdsRow_own w.heap.size w.heap.size 23 9 1 (fun pre => (vals pre).length) (fun pre => (vals pre).map strV) (fun _ _ => True)) _) (ownFrom_below (Nat.le_refl _) (by simp)))
    (fun _ _ _ _ _ hs _ _ => hs)
    ⟨⟨_, b0, World.ownsRow_nil _ _ _ _, trivial⟩, hB0⟩
    (fun x => { tmps := #[.slice none 0 0, .func (.func 78) #[] #[.pointer (some ⟨Bn, 0, none⟩)], .pointer (some ⟨w.heap.size, 0, none⟩), undef, .slice none 0 0, .string ⟨x.1.toArray⟩, .func (.func 78) #[] #[.pointer (some ⟨Bn, 0, none⟩)], .string ⟨x.1.toArray⟩, undef, undef, undef, undef, undef], defers := [] }) ?assign ?body ?done ?stop
  case assign =>
    intro l x W K hK
    gi_wp2
    exact hK
  case body =>
    rintro l pre x W ⟨⟨v, hv, hrw, _⟩, hB⟩ hlt
    have hsz := hB.size
    have hpl : (vals pre).length ≤ 61 := by rw [vals_length]; omega
    have hc0 := hv.cell
    obtain ⟨a6, cap6, rfl, hcap6, hmax6, _⟩ := row_shape hrw
    gi_wp2_with (gi_at_builtin; refine wpListIn_append_own _ rfl _ _ 23 rfl w.heap.size 9 i0 (.string ByteArray.empty) 1 16 Tryz.underlying23 hi hz0 hz1 hz2 rfl (by decide) _ _ _ rfl (hrw.alloc _) ⟨_, 0, none⟩ 1 1 [.string ⟨x.1.toArray⟩] rfl rfl (cell_one_new _ _ _) (by simp [Value.oneCell']) (by unfold maxLen; omega) (by omega) (by simp; omega) ?_; intro v' w1 hown' hgrow _; obtain ⟨g', cap', rfl⟩ := ownsRow_succ hown'; obtain ⟨hv1, hv2, hr2, hk2, hb2⟩ := hv.appended (by decide) hrw hsz (Nat.le_refl _) hown' hgrow; have hc3 := hv1.cell; have hf3 := hv1.frozen)
    refine ⟨hk2.from _, trivial, ⟨_, hv2, ?_, trivial⟩, hB.trans hb2⟩
    rw [vals_snoc]
    exact row_snoc (p := x.1) rfl hr2
  case done =>
    rintro D ys W hD hS ⟨⟨v, hv, hrow, _⟩, hB⟩ hK
    rw [hS] at hrow
    have hc := hv.cell
    obtain ⟨a6, cap6, rfl, hcap6, hmax6, _⟩ := row_shape hrow
    gi_wp2
    refine ⟨by simp, .inl ⟨_, _, rfl, run_takeDeferred hK, ?_⟩⟩
    exact ⟨_, results_tmp rfl _ _ _, _, rfl, ownsRow_putObj hrow _ hK rfl, hB.trans (belowK_b (w := w) (Nat.le_refl _) W D _ _ (by simp at hD; omega) hK rfl rfl)⟩
  case stop =>
    rintro D c pre W _ _ h _
    exact h.elim

set_option maxRecDepth 100000 in
set_option maxHeartbeats 1000000 in
theorem collect_any (Bn : Nat) (s : ByteArray) (w : World) (hs : s.size ≤ 60) (hBn : Bn < w.heap.size) (hc : w.cell? ⟨Bn, 0, none⟩ = some (.string s)) :
    Calls Tryz.prog 77 #[.func (.func 78) #[] #[.pointer (some ⟨Bn, 0, none⟩)]] w fun e w' => ∃ v, e = .returned v ∧ w'.ownsRow w.heap.size 9 1 v (Pl.split s.data.toList).length ((Pl.split s.data.toList).map strV) ∧ Below w.heap.size w w' := by
  go_enter Tryz.func77, Tryz.ntmps77
  go_wp2_with (go_at_call 84; refine (appendSeq_any Bn s _ hs hBn hc).mono ?_; rintro e w' ⟨v, rfl, hr, hb⟩)
  go_ret
  exact ⟨_, rfl, hr, hb⟩

set_option maxRecDepth 100000 in
set_option maxHeartbeats 1000000 in
theorem folder_any (t : ByteArray) (w : World) (hs : t.size ≤ 60) :
    Calls Tryz.prog 66 #[.agg #[.string t]] w fun e w' => ∃ v, e = .returned v ∧ w'.ownsRow w.heap.size 9 1 v (Pl.split t.data.toList).dropLast.length ((Pl.split t.data.toList).dropLast.map strV) ∧ Below w.heap.size w w' := by
  go_enter Tryz.func66, Tryz.ntmps66
  go_wp2_with (go_at_call 67; refine (callsIn_wide.1 (parts_in 3 t _)).mono ?_; rintro e w' ⟨rfl, rfl⟩)
  refine (collect_any (w.heap.size + 1) t _ hs (by simp) (by simp)).mono ?_
  rintro e w1 ⟨v, rfl, hr, hb⟩
  have hsne : Pl.split t.data.toList ≠ [] := Pl.splitTo_ne _ _
  have hpos : 0 < (Pl.split t.data.toList).length := List.length_pos_iff.2 hsne
  have hsl : (Pl.split t.data.toList).length ≤ 61 := by have := Pl.length_split t.data.toList; rw [← size_data] at this; omega
  obtain ⟨g, cap, rfl, hcap, hpop⟩ := pop_row hsne hr
  have hpop2 := own_mono (base' := w.heap.size) hpop (by simp; omega)
  clear hr hpop hsne
  go_wp2
  go_ret
  exact ⟨_, rfl, hpop2, (((Below.refl _ w).alloc (Nat.le_refl _) _).alloc (by simp) _).trans (hb.mono (by simp; omega))⟩

end Go.Proofs.YtimgafblpmjajaaGreat
