
import Derived.Test.YtimgafblpmjajabGreatSpec

import Derived.Test.YtimgafblpmjajabGreatCut

namespace Go.Proofs.YtimgafblpmjajabGreat

open Go.RowKit

theorem join_any (base : Nat) (v : Value) (xs : List (List UInt8)) (w : World) (hrow : w.ownsRow base 9 1 v xs.length (xs.map strV)) (hs : Pl.total xs ≤ 4194304) :
    Calls Tryz.prog 105 #[v, .string ⟨#[47]⟩] w fun e w' => e = .returned (strV (Pl.joinS xs)) ∧ Below w.heap.size w w' := by
  obtain ⟨a, cap, rfl, hcap, hmax, hcell⟩ := row_shape hrow
  have hlen : xs.length ≤ 4194304 := by unfold Pl.total at hs; omega
  have hj := joinS_len xs
  cases xs with
  | nil => exact (Tryz.strings_Join_none a cap _ w).mono fun e w' ⟨he, hw⟩ => ⟨he, hw ▸ Below.refl _ _⟩
  | cons x r =>
    obtain ⟨g, rfl, _, hg, _⟩ := hcell 0 (by simp)
    obtain ⟨ys, hys⟩ : ∃ ys : List ByteArray, ys = (x :: r).map (fun l => (⟨l.toArray⟩ : ByteArray)) := ⟨_, rfl⟩
    have hyl : ys.length = (x :: r).length := by rw [hys, List.length_map]
    have hmap : ys.map (·.data.toList) = x :: r := by
      rw [hys, List.map_map]
      conv => rhs; rw [← List.map_id (x :: r)]
      exact List.map_congr_left (fun l _ => by simp)
    have h := Tryz.strings_Join g 0 cap ys ⟨#[47]⟩ w (fun j y hy => by
      rw [hys] at hy
      rw [List.getElem?_map] at hy
      obtain ⟨l, hl, rfl⟩ := Option.map_eq_some_iff.1 hy
      obtain ⟨hlt, hl'⟩ := List.getElem?_eq_some_iff.1 hl
      obtain ⟨g', hg', _, _, hc⟩ := hcell j hlt
      cases hg'
      rw [Nat.zero_add, hc, hl']; rfl) hg (by omega) (by omega) (by
      rw [hmap]
      have : (Lib.join (x :: r) [47]).length ≤ 4194304 := by unfold Pl.joinS at hj; omega
      exact Nat.le_trans this (by decide))
    rw [hmap, hyl] at h
    exact h

set_option maxHeartbeats 1000000 in
set_option maxRecDepth 100000 in
theorem clone_any (s : ByteArray) (w : World) (hs : s.size ≤ 4194304) :
    Calls Tryz.prog 58 #[.string s] w fun e w' => e = .returned (.string s) ∧ Below w.heap.size w w' := by
  go_enter Tryz.func58, Tryz.ntmps58
  go_wp2_with (go_at_call 79; refine (Tryz.stringslite_Clone s _ (by omega)).mono ?_; rintro e w' ⟨rfl, hb⟩)
  go_ret
  exact ⟨rfl, hb⟩

/-- The answer's cell, made first, behind what was laid since. -/
theorem old_cell {w w2 : World} {o : Obj} {u : Value} {t : TypeId} (ho : o = .cells #[u] t) (hb : Below (w.alloc o).heap.size (w.alloc o) w2) (o' : Obj) : (w2.alloc o').cell? ⟨w.heap.size, 0, none⟩ = some u ∧ (w2.alloc o').frozen? ⟨w.heap.size, 0, none⟩ = false := by
  have hz : w.heap.size < w2.heap.size := by have := hb.size; simp at this; omega
  have hb' : Below (w.alloc o).heap.size (w.alloc o) (w2.alloc o') := hb.trans ((Below.refl _ _).alloc (by simp; omega) o')
  obtain ⟨hc, hf⟩ := bcell hb'
  subst ho
  exact ⟨by rw [hc _ _ (by simp)]; simp, by rw [hf _ _ (by simp)]; simp⟩

theorem old_set {w w2 : World} {o : Obj} {u : Value} {t : TypeId} (ho : o = .cells #[u] t) (hb : Below (w.alloc o).heap.size (w.alloc o) w2) (u' : Value) (o' : Obj) : ((w2.setCell ⟨w.heap.size, 0, none⟩ u').alloc o').cell? ⟨w.heap.size, 0, none⟩ = some u' := by
  have hz : w.heap.size < w2.heap.size := by have := hb.size; simp at this; omega
  obtain ⟨hc, hf⟩ := bcell hb
  subst ho
  rw [World.cell?_alloc_past _ _ _ (by simp [World.setCell]; omega)]
  exact World.cell?_setCell_same' _ _ _ (by rw [hc _ _ (by simp)]; simp)

/-- The one form as a value, with its code. -/
def formV (r : Int × List UInt8) : Value := .tuple #[.agg #[strV r.2], .int .i64 r.1]

set_option maxHeartbeats 1000000 in
set_option maxRecDepth 100000 in
theorem formOf_any (base : Nat) (v : Value) (xs : List (List UInt8)) (w : World) (hrow : w.ownsRow base 9 1 v xs.length (xs.map strV)) (hs : Pl.total xs ≤ 4194304) :
    Calls Tryz.prog 94 #[v] w fun e w' => e = .returned (formV (Pl.fin (xs, 0))) ∧ Below w.heap.size w w' := by
  obtain ⟨t, ht⟩ : ∃ t : ByteArray, t.data.toList = Pl.joinS xs := ⟨⟨(Pl.joinS xs).toArray⟩, by simp⟩
  have HT : Hid (strV (Pl.joinS xs) = .string t) := by unfold Hid; rw [← ht, strV_data]
  have hts : t.size ≤ 4194304 := by rw [size_data, ht]; have := joinS_len xs; omega
  have hrow1 := hrow.alloc (.cells #[.string ⟨#[]⟩] 106)
  by_cases hj : Pl.joinS xs = []
  · have hfin : Pl.fin (xs, 0) = (1, []) := by unfold Pl.fin; rw [if_pos rfl, if_pos hj]
    have hte : t.toList.isEmpty = true := by rw [Go.ByteArray.toList_eq, ht, hj]; rfl
    rw [hfin]
    clear hfin ht hj
    go_enter Tryz.func94, Tryz.ntmps94
    go_wp2_with fail
    refine (join_any base v xs _ hrow1 hs).mono ?_
    rw [HT.out]
    rintro e w1 ⟨rfl, hb⟩
    go_wp2_with (go_at_call 58; refine (clone_any t _ hts).mono ?_; rintro e w2 ⟨rfl, hb2⟩; have hb3 := hb.trans (hb2.mono hb.size); have hA := fun o' => (old_cell rfl hb3 o').1; have hF := fun o' => (old_cell rfl hb3 o').2; have hz : w.heap.size < w2.heap.size := (by have := hb3.size; simp at this; omega))
    exact bodyPost_ret (v := formV (1, [])) (by simp [results, Tryz.results94, go_sem, formV, strV, old_set rfl hb3]) rfl ⟨rfl, ((below_one hb3).setCell (p := ⟨w.heap.size, 0, none⟩) (Nat.le_refl _) _).alloc (by simp [World.setCell]; omega) _⟩
  · have hte : t.toList.isEmpty = false := by rw [Go.ByteArray.toList_eq, ht]; simpa using hj
    by_cases hl' : 60 < (Pl.joinS xs).length
    · have hfin : Pl.fin (xs, 0) = (3, []) := by unfold Pl.fin; rw [if_pos rfl, if_neg hj, if_pos hl']
      have htl : 60 < t.size := by rw [size_data, ht]; exact hl'
      rw [hfin]
      clear hfin ht hj hl'
      go_enter Tryz.func94, Tryz.ntmps94
      go_wp2_with fail
      refine (join_any base v xs _ hrow1 hs).mono ?_
      rw [HT.out]
      rintro e w1 ⟨rfl, hb⟩
      go_wp2_with (go_at_call 58; refine (clone_any t _ hts).mono ?_; rintro e w2 ⟨rfl, hb2⟩; have hb3 := hb.trans (hb2.mono hb.size); have hA := fun o' => (old_cell rfl hb3 o').1; have hF := fun o' => (old_cell rfl hb3 o').2; have hz : w.heap.size < w2.heap.size := (by have := hb3.size; simp at this; omega))
      exact bodyPost_ret (v := formV (3, [])) (by simp [results, Tryz.results94, go_sem, formV, strV, old_set rfl hb3]) rfl ⟨rfl, ((below_one hb3).setCell (p := ⟨w.heap.size, 0, none⟩) (Nat.le_refl _) _).alloc (by simp [World.setCell]; omega) _⟩
    · have hfin : Pl.fin (xs, 0) = (0, Pl.joinS xs) := by unfold Pl.fin; rw [if_pos rfl, if_neg hj, if_neg hl']
      have htl : ¬ 60 < t.size := by rw [size_data, ht]; exact hl'
      rw [hfin]
      clear hfin ht hj hl'
      go_enter Tryz.func94, Tryz.ntmps94
      go_wp2_with fail
      refine (join_any base v xs _ hrow1 hs).mono ?_
      rw [HT.out]
      rintro e w1 ⟨rfl, hb⟩
      go_wp2_with (go_at_call 58; refine (clone_any t _ hts).mono ?_; rintro e w2 ⟨rfl, hb2⟩; have hb3 := hb.trans (hb2.mono hb.size); have hA := fun o' => (old_cell rfl hb3 o').1; have hF := fun o' => (old_cell rfl hb3 o').2; have hz : w.heap.size < w2.heap.size := (by have := hb3.size; simp at this; omega))
      exact bodyPost_ret (v := formV (0, Pl.joinS xs)) (by simp [results, Tryz.results94, go_sem, formV, HT.out, old_set rfl hb3]) rfl ⟨rfl, ((below_one hb3).setCell (p := ⟨w.heap.size, 0, none⟩) (Nat.le_refl _) _).alloc (by simp [World.setCell]; omega) _⟩

end Go.Proofs.YtimgafblpmjajabGreat
