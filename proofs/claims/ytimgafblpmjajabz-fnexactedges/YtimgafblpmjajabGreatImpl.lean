
import Derived.Test.YtimgafblpmjajabGreatIter

import Derived.Test.YtimgafblpmjajabGreatForm

namespace Go.Proofs.YtimgafblpmjajabGreat

open Go.RowKit Go.Shelf

attribute [local go_sem] Oper.semAt_some

theorem Boxed.below {W W' : World} {B n : Nat} {t : TypeId} {v : Value} (h : Boxed W B t v) (hb : Below n W W') (hn : B < n) : Boxed W' B t v := (hb.block B hn).trans h

/-- Between two rounds: the row so far, the two answers' cells as they were laid. -/
def Mid (n₀ N : Nat) (R : List (List UInt8)) (pre : List Part) (W : World) : Prop :=
  (∃ v, Boxed W N 22 v ∧ W.ownsRow n₀ 9 1 v (Pl.walkP R (vals pre)).1.length ((Pl.walkP R (vals pre)).1.map strV) ∧ (Pl.walkP R (vals pre)).2 = 0)
/-- A round has left. -/
def Left2 (R : List (List UInt8)) (c : Code) (pre : List Part) : Prop := c = .ret ∧ (Pl.walkP R (vals pre)).2 ≠ 0

theorem walkP_snoc (R pre : List (List UInt8)) (p : List UInt8) (h : (Pl.walkP R pre).2 = 0) :
    Pl.walkP R (pre ++ [p]) = if (Pl.stepW (Pl.walkP R pre).1 p).2 = 0 then (Pl.stepW (Pl.walkP R pre).1 p) else ([], (Pl.stepW (Pl.walkP R pre).1 p).2) := by
  rw [Pl.walkP_append, if_pos h]
  simp only [Pl.walkP]
  split
  · rename_i h2; rw [← h2]
  · rfl

theorem total_vals (pre : List Part) : Pl.total (vals pre) ≤ 61 * pre.length := by
  induction pre with
  | nil => simp [vals, Pl.total, Lib.lens]
  | cons x r ih =>
    have := x.2
    simp only [vals, Pl.total, Lib.lens, List.map_cons, List.sum_cons, List.length_cons] at ih ⊢
    omega

set_option maxRecDepth 100000 in
set_option maxHeartbeats 2000000 in
theorem walk_short (n₀ : Nat) (v0 : Value) (R : List (List UInt8)) (s : ByteArray) (w : World) (hrow : w.ownsRow n₀ 9 1 v0 R.length (R.map strV)) (hn₀ : n₀ ≤ w.heap.size) (hR : Pl.total R ≤ 1048576) (hs : s.size ≤ 60) :
    Calls Tryz.prog 77 #[v0, .string s] w fun e w' => e = .returned (formV (Pl.fin (Pl.walkP R (Pl.split s.data.toList)))) ∧ Below n₀ w w' := by
  obtain ⟨i0, hi, hz0, hz1, hz2⟩ := info_parts Tryz.info9
  obtain ⟨a0, cap0, rfl, hcap0, hmax0, _⟩ := row_shape hrow
  have hb60 : (decide ((60 : Int) < (s.size : Int))) = false := by simp; omega
  have hsl : (Pl.split s.data.toList).length ≤ 61 := by have := Pl.length_split s.data.toList; rw [← size_data] at this; omega
  obtain ⟨rc, rx, hfin⟩ : ∃ rc rx, Pl.fin (Pl.walkP R (Pl.split s.data.toList)) = (rc, rx) := ⟨_, _, rfl⟩
  obtain ⟨t, ht⟩ : ∃ t : ByteArray, strV rx = .string t := ⟨_, rfl⟩
  have hfv : formV (Pl.fin (Pl.walkP R (Pl.split s.data.toList))) = .tuple #[.agg #[.string t], .int .i64 rc] := by rw [hfin, formV, ht]
  rw [hfv]
  have HFV : Hid (formV (Pl.fin (Pl.walkP R (Pl.split s.data.toList))) = .tuple #[.agg #[.string t], .int .i64 rc]) := hfv
  clear hfv hfin ht
  refine (callsIn_wide (n := 5)).1 ?_
  refine callsIn_of_wp_marks Tryz.func77 rfl trivial ?_ rfl
  simp only [Tryz.ntmps77, List.size_toArray, List.length_cons, List.length_nil, Nat.reduceAdd, Nat.reduceSub, Array.replicate_succ, Array.replicate_zero, List.push_toArray, List.append_toArray, List.nil_append, List.cons_append]
  gi_wp2_with (refine ⟨trivial, ?_⟩; gi_at_call 92; refine (parts_in _ s _).mono ?_; rintro e w' ⟨rfl, rfl⟩)
  have b0 := Boxed.new w 22 (.slice a0 R.length cap0)
  have b1 := Boxed.new (w.alloc (.cells #[.slice a0 R.length cap0] 22)) 106 (.string ⟨#[]⟩)
  have b2 := Boxed.new ((w.alloc (.cells #[.slice a0 R.length cap0] 22)).alloc (.cells #[.string ⟨#[]⟩] 106)) 3 (.int .i64 0)
  have b3 := Boxed.new (((w.alloc (.cells #[.slice a0 R.length cap0] 22)).alloc (.cells #[.string ⟨#[]⟩] 106)).alloc (.cells #[.int .i64 0] 3)) 9 (.string s)
  simp only [World.size_alloc] at b1 b2 b3
  have hB0 : Below n₀ w ((((w.alloc (.cells #[.slice a0 R.length cap0] 22)).alloc (.cells #[.string ⟨#[]⟩] 106)).alloc (.cells #[.int .i64 0] 3)).alloc (.cells #[.string s] 9)) := ((((Below.refl _ w).alloc hn₀ _).alloc (by simp; omega) _).alloc (by simp; omega) _).alloc (by simp; omega) _
  refine wpIn_rangeFunc_ownG rfl (by omega) (gf := 103) (lb := #[.pointer (some ⟨w.heap.size + 1 + 1 + 1, 0, none⟩)]) rfl trivial (enters_of Tryz.func103 (by kernel_rfl) rfl)
    (parts_stops (5 - 1) (by omega) (w.heap.size + 1 + 1 + 1) s hs _ (by simp) b3.cell) (fun _ _ => trivial) (fun _ _ _ _ _ _ _ _ => trivial) (Below.refl _ _) (fun _ => rfl)
    (fun pre W => Mid n₀ w.heap.size R pre W ∧ Boxed W (w.heap.size + 1) 106 (.string ⟨#[]⟩) ∧ Boxed W (w.heap.size + 1 + 1) 3 (.int .i64 0) ∧ Below n₀ w W)
    (fun c pre W => Left2 R c pre ∧ Boxed W (w.heap.size + 1) 106 (.string ⟨#[]⟩) ∧ Boxed W (w.heap.size + 1 + 1) 3 (.int .i64 (Pl.walkP R (vals pre)).2) ∧ Below n₀ w W)
    (OwnFrom.and (Own.from (holdsRow_own n₀ w.heap.size 22 9 1 (fun pre => (Pl.walkP R (vals pre)).1.length) (fun pre => (Pl.walkP R (vals pre)).1.map strV) (fun pre v => (Pl.walkP R (vals pre)).2 = 0)) _) (OwnFrom.and (Own.from (boxed_own _ _ (fun _ => .string ⟨#[]⟩)) _) (OwnFrom.and (Own.from (boxed_own _ _ (fun _ => .int .i64 0)) _) (ownFrom_below hn₀ (by simp; omega)))))
    (fun c => OwnFrom.and (ownFrom_pure _ (fun pre => Left2 R c pre)) (OwnFrom.and (Own.from (boxed_own _ _ (fun _ => .string ⟨#[]⟩)) _) (OwnFrom.and (Own.from (boxed_own _ _ (fun pre => .int .i64 (Pl.walkP R (vals pre)).2)) _) (ownFrom_below hn₀ (by simp; omega)))))
    ⟨⟨_, ((b0.alloc _).alloc _).alloc _, (((hrow.alloc _).alloc _).alloc _).alloc _, rfl⟩, (b1.alloc _).alloc _, b2.alloc _, hB0⟩
    (fun x => { tmps := #[.slice a0 R.length cap0, .string s, .pointer (some ⟨w.heap.size, 0, none⟩), undef, .pointer (some ⟨w.heap.size + 1, 0, none⟩), .pointer (some ⟨w.heap.size + 1 + 1, 0, none⟩), .string ⟨x.1.toArray⟩, .string s, .int .i64 s.size, .bool false, undef, .string s, .func (.func 103) #[] #[.pointer (some ⟨w.heap.size + 1 + 1 + 1, 0, none⟩)], .string ⟨x.1.toArray⟩, undef, undef, undef, undef, undef, undef, undef, undef, undef, undef, undef, undef, undef, undef, undef, undef, undef, undef, undef, undef, undef, undef, undef, undef, undef, undef, undef, undef, undef, undef, undef, undef], defers := [] }) ?assign ?body ?done ?stop
  case assign =>
    intro l x W K hK
    gi_wp2
    exact hK
  case body =>
    rintro l pre x W ⟨⟨v, hv, hrw, hz⟩, h1, h2, hB⟩ hlt
    have hsz := hB.size
    have hbl : (Pl.walkP R (vals pre)).1.length ≤ 2097153 := by
      have g1 := Pl.total_walkP R (vals pre)
      have g2 := total_vals pre
      have g3 : (Pl.walkP R (vals pre)).1.length ≤ Pl.total (Pl.walkP R (vals pre)).1 := by unfold Pl.total; omega
      omega
    have HS := walkP_snoc R (vals pre) x.1 hz
    rw [← vals_snoc] at HS
    obtain ⟨D, hD⟩ : ∃ D, D = (Pl.walkP R (vals pre)).1 := ⟨_, rfl⟩
    rw [← hD] at hrw hbl HS
    obtain ⟨p, hp⟩ : ∃ p, p = x.1 := ⟨_, rfl⟩
    have hpl := x.2
    rw [← hp] at HS hpl
    have HS' : Hid (Pl.walkP R (vals (pre ++ [x])) = if (Pl.stepW D p).2 = 0 then Pl.stepW D p else ([], (Pl.stepW D p).2)) := HS
    obtain ⟨q, hq⟩ : ∃ q : ByteArray, q = ⟨p.toArray⟩ := ⟨_, rfl⟩
    have hqd : q.data.toList = p := by rw [hq]
    have hqs : q.size ≤ 60 := by rw [size_data, hqd]; exact hpl
    have hql' : q.toList = p := by rw [Go.ByteArray.toList_eq, hqd]
    dsimp only
    rw [← hp, ← hq]
    have hqv : Value.string q = strV p := by rw [hq]; rfl
    clear HS hD hz hq hpl hlt
    obtain ⟨a6, cap6, rfl, hcap6, hmax6, _⟩ := row_shape hrw
    have hc0 := hv.cell
    have hf0 := hv.frozen
    have hc1 := h1.cell
    have hf1 := h1.frozen
    have hc2 := h2.cell
    have hf2 := h2.frozen
    by_cases c1 : p = [46]
    · have t1 : (q.toList == [46]) = true := by rw [hql', c1]; rfl
      have HF : Hid (Pl.walkP R (vals (pre ++ [x])) = (D, 0)) := by unfold Hid; rw [HS'.out]; simp [Pl.stepW, c1]
      clear hql' hqd c1 hqv hp
      gi_wp2
      exact ⟨KeepsFrom.refl _ _, trivial, ⟨_, hv, by rw [HF.out]; exact hrw, by rw [HF.out]⟩, h1, h2, hB⟩
    · have t1 : (q.toList == [46]) = false := by rw [hql']; simpa using c1
      by_cases c2 : p = [46, 46]
      · have t2 : (q.toList == [46, 46]) = true := by rw [hql', c2]; rfl
        by_cases c3 : D = []
        · have t3 : ((D.length : Int) == 0) = true := by rw [c3]; rfl
          have HF : Hid (Pl.walkP R (vals (pre ++ [x])) = ([], 2)) := by unfold Hid; rw [HS'.out]; simp [Pl.stepW, c2, c3]
          clear hql' hqd c1 c2 c3 hqv hp
          gi_wp2
          refine ⟨((KeepsOthers.setCell _ _ _).trans (KeepsOthers.setCell _ _ _)).from _, ⟨rfl, by rw [HF.out]; decide⟩, (h1.set _).other (by omega) _, by rw [HF.out]; exact (h2.other (by omega) _).set _, (hB.setCell (p := ⟨w.heap.size + 1, 0, none⟩) (by simp; omega) _).setCell (p := ⟨w.heap.size + 1 + 1, 0, none⟩) (by simp; omega) _⟩
        · have hDp : 0 < D.length := List.length_pos_iff.2 c3
          have t3 : ((D.length : Int) == 0) = false := by rw [beq_eq_false_iff_ne]; omega
          have HF : Hid (Pl.walkP R (vals (pre ++ [x])) = (D.dropLast, 0)) := by unfold Hid; rw [HS'.out]; simp [Pl.stepW, c2, c3]
          obtain ⟨g6, cap6', hv6, _, hpop⟩ := pop_row c3 hrw
          cases hv6
          clear hql' hqd c1 c2 c3 hqv hp
          gi_wp2
          exact ⟨(KeepsOthers.setCell _ _ _).from _, trivial, ⟨_, hv.set _, by rw [HF.out]; exact hpop.kept (grownBy_setCell' W _ _) (.inr (hv.not_row (by decide) hpop).symm), by rw [HF.out]⟩, h1.other (by omega) _, h2.other (by omega) _, hB.setCell (p := ⟨w.heap.size, 0, none⟩) hn₀ _⟩
      · have t2 : (q.toList == [46, 46]) = false := by rw [hql']; simpa using c2
        cases hpp : Pl.plainP p with
        | false =>
          have HF : Hid (Pl.walkP R (vals (pre ++ [x])) = ([], 1)) := by unfold Hid; rw [HS'.out]; simp [Pl.stepW, c1, c2, hpp]
          have hip := isPlain_any q
          rw [hqd, hpp] at hip
          clear hql' hqd c1 c2 hqv hp hpp
          gi_wp2_with (refine ⟨trivial, ?_⟩; gi_at_call 93; refine (CallsIn.inRound l (callsIn_wide.2 (hip _ (by unfold maxLen; omega)))).mono ?_; rintro e w' ⟨rfl, rfl⟩)
          refine ⟨((KeepsOthers.setCell _ _ _).trans (KeepsOthers.setCell _ _ _)).from _, ⟨rfl, by rw [HF.out]; decide⟩, (h1.set _).other (by omega) _, by rw [HF.out]; exact (h2.other (by omega) _).set _, (hB.setCell (p := ⟨w.heap.size + 1, 0, none⟩) (by simp; omega) _).setCell (p := ⟨w.heap.size + 1 + 1, 0, none⟩) (by simp; omega) _⟩
        | true =>
          have HF : Hid (Pl.walkP R (vals (pre ++ [x])) = (D ++ [p], 0)) := by unfold Hid; rw [HS'.out]; simp [Pl.stepW, c1, c2, hpp]
          have hip := isPlain_any q
          rw [hqd, hpp] at hip
          have HQ : Hid (Value.string q = strV p) := hqv
          clear hql' hqd c1 c2 hqv hp hpp
          gi_wp2_with (first | (refine ⟨trivial, ?_⟩; gi_at_call 93; refine (CallsIn.inRound l (callsIn_wide.2 (hip _ (by unfold maxLen; omega)))).mono ?_; rintro e w' ⟨rfl, rfl⟩) | (gi_at_builtin; refine wpListIn_append_own _ rfl _ _ 22 rfl n₀ 9 i0 (.string ByteArray.empty) 1 16 Tryz.underlying22 hi hz0 hz1 hz2 rfl (by decide) _ _ _ rfl (hrw.alloc _) ⟨_, 0, none⟩ 1 1 [.string q] rfl rfl (cell_one_new _ _ _) (by simp [Value.oneCell']) (by unfold maxLen; omega) (by omega) (by simp; omega) ?_; intro v' w1 hown' hgrow _; obtain ⟨g', cap', rfl⟩ := ownsRow_succ hown'; obtain ⟨hv1, hv2, hr2, hk2, hb2⟩ := hv.appended (by decide) hrw (by omega) hn₀ hown' hgrow; have hc3 := hv1.cell; have hf3 := hv1.frozen))
          refine ⟨hk2.from _, trivial, ⟨_, hv2, ?_, by rw [HF.out]⟩, ((h1.alloc _).kept hgrow (h1.not_row (by decide) hrw)).other (by omega) _, ((h2.alloc _).kept hgrow (h2.not_row (by decide) hrw)).other (by omega) _, hB.trans hb2⟩
          rw [HF.out]; rw [HQ.out] at hr2; simpa using hr2
  case done =>
    rintro D ys W hD hS ⟨⟨v, hv, hrw, hz⟩, h1, h2, hB⟩ hK
    rw [hS] at hrw hz
    have hsz := hB.size
    have hform := formOf_any n₀ v _ W hrw (by
      have g1 := Pl.total_walkP R (Pl.split s.data.toList)
      have g2 := Pl.total_split s.data.toList
      rw [← size_data] at g2
      omega)
    rw [show ((Pl.walkP R (Pl.split s.data.toList)).1, (0 : Int)) = Pl.walkP R (Pl.split s.data.toList) by rw [← hz], HFV.out] at hform
    obtain ⟨a6, cap6, rfl, _, _, _⟩ := row_shape hrw
    have hc0 := hv.cell
    clear hz hrw
    gi_wp2_with (refine ⟨trivial, ?_⟩; gi_at_call 94; refine (callsIn_wide.2 hform).mono ?_; rintro e w2 ⟨rfl, hb⟩; have g1 := Boxed.below h1 hb h1.lt; have g2 := Boxed.below h2 hb h2.lt; have gc1 := g1.cell; have gf1 := g1.frozen; have gc2 := g2.cell; have gf2 := g2.frozen)
    have hK2 : w2.heap[D]? = some (.deferred (some [])) := (hb.block D (Array.getElem?_eq_some_iff.1 hK).1).trans hK
    have hK3 := (KeepsOthers.setCell (w2.setCell ⟨w.heap.size + 1, 0, none⟩ (.string t)) ⟨w.heap.size + 1 + 1, 0, none⟩ (.int .i64 rc)).same D _ ((KeepsOthers.setCell w2 ⟨w.heap.size + 1, 0, none⟩ (.string t)).same D _ hK2 rfl) rfl
    have e1 : Boxed ((w2.setCell ⟨w.heap.size + 1, 0, none⟩ (.string t)).setCell ⟨w.heap.size + 1 + 1, 0, none⟩ (.int .i64 rc)) (w.heap.size + 1) 106 (.string t) := (g1.set _).other (by omega) _
    have e2 : Boxed ((w2.setCell ⟨w.heap.size + 1, 0, none⟩ (.string t)).setCell ⟨w.heap.size + 1 + 1, 0, none⟩ (.int .i64 rc)) (w.heap.size + 1 + 1) 3 (.int .i64 rc) := (g2.other (by omega) _).set _
    refine ⟨by simp, .inl ⟨_, _, rfl, run_takeDeferred hK3, ?_⟩⟩
    have f1 := cell_kept e1.cell (grownBy_putObj' _ D (.deferred none)) (fun r e => by cases e; exact ⟨_, hK3, rfl⟩)
    have f2 := cell_kept e2.cell (grownBy_putObj' _ D (.deferred none)) (fun r e => by cases e; exact ⟨_, hK3, rfl⟩)
    refine ⟨.tuple #[.agg #[.string t], .int .i64 rc], ?_, rfl, (((hB.trans (hb.mono (by omega))).setCell (p := ⟨w.heap.size + 1, 0, none⟩) (by simp; omega) _).setCell (p := ⟨w.heap.size + 1 + 1, 0, none⟩) (by simp; omega) _).trans (belowK_b (w := w) hn₀ _ D _ _ (by simp at hD; omega) hK3 rfl rfl)⟩
    simp [results, Tryz.results77, go_sem, f1, f2]
  case stop =>
    rintro D c pre W hD hpre ⟨⟨rfl, hne⟩, h1, h2, hB⟩ hK
    obtain ⟨rest, hrest⟩ := hpre
    have hw : Pl.walkP R (Pl.split s.data.toList) = Pl.walkP R (vals pre) := by rw [← hrest, Pl.walkP_append, if_neg hne]
    have hv : (Value.tuple #[.agg #[.string t], .int .i64 rc]) = .tuple #[.agg #[.string ⟨#[]⟩], .int .i64 (Pl.walkP R (vals pre)).2] := by
      rw [← HFV.out, hw]; unfold Pl.fin; rw [if_neg hne]; rfl
    have HV : Hid ((Value.tuple #[.agg #[.string t], .int .i64 rc]) = .tuple #[.agg #[.string ⟨#[]⟩], .int .i64 (Pl.walkP R (vals pre)).2]) := hv
    clear hv hw hrest hne
    gi_wp2
    refine ⟨by simp, .inl ⟨_, _, rfl, run_takeDeferred hK, ?_⟩⟩
    have f1 := cell_kept h1.cell (grownBy_putObj' _ D (.deferred none)) (fun r e => by cases e; exact ⟨_, hK, rfl⟩)
    have f2 := cell_kept h2.cell (grownBy_putObj' _ D (.deferred none)) (fun r e => by cases e; exact ⟨_, hK, rfl⟩)
    refine ⟨.tuple #[.agg #[.string ⟨#[]⟩], .int .i64 (Pl.walkP R (vals pre)).2], ?_, by rw [HV.out], hB.trans (belowK_b (w := w) hn₀ W D _ _ (by simp at hD; omega) hK rfl rfl)⟩
    simp [results, Tryz.results77, go_sem, f1, f2]

set_option maxRecDepth 100000 in
set_option maxHeartbeats 2000000 in
theorem walk_any (n₀ : Nat) (v0 : Value) (R : List (List UInt8)) (s : ByteArray) (w : World) (hrow : w.ownsRow n₀ 9 1 v0 R.length (R.map strV)) (hn₀ : n₀ ≤ w.heap.size) (hR : Pl.total R ≤ 1048576) :
    Calls Tryz.prog 77 #[v0, .string s] w fun e w' => e = .returned (formV (Pl.nm R s.data.toList)) ∧ Below n₀ w w' := by
  unfold Pl.nm
  by_cases h60 : 60 < s.data.toList.length
  · rw [if_pos h60]
    rw [← size_data] at h60
    obtain ⟨a0, cap0, rfl, hcap0, hmax0, _⟩ := row_shape hrow
    clear hrow
    go_enter Tryz.func77, Tryz.ntmps77
    go_wp2
    exact bodyPost_ret (v := formV (3, [])) (by simp [results, Tryz.results77, go_sem, formV, strV]) rfl ⟨rfl, (((Below.refl _ w).alloc hn₀ _).alloc (by simp; omega) _).alloc (by simp; omega) _⟩
  · rw [if_neg h60]
    exact walk_short n₀ v0 R s w hrow hn₀ hR (by rw [size_data]; omega)

end Go.Proofs.YtimgafblpmjajabGreat
