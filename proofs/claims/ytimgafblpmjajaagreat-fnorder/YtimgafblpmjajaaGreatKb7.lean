import Derived.Deep.RegionLaw
import Derived.Deep.RegionHeld3
import Derived.Deep.CutBlock
import Derived.Deep.DeepCutAuto
import Derived.Deep.AppendLies
import Derived.Test.YtimgafblpmjajaaGreatKb6
namespace Go.Proofs.YtimgafblpmjajaaGreat
open Go.RowKit
set_option linter.unusedSimpArgs false in
set_option maxHeartbeats 40000000 in
set_option maxRecDepth 100000 in
theorem world_any (C n : Nat) (w : World) (h : Cur w C n) (hn : n ≤ 1000) :
    Calls Tryz.prog 12 #[.pointer (some ⟨C, 0, none⟩)] w (fun e w' => ∃ v D, e = .returned v ∧ Wdo (w.heap.size + 2) w' v D ∧ D.roots.length ≤ 3 ∧ (∀ l ∈ D.roots, l.length ≤ 3) ∧ D.mods.length ≤ 7 ∧ (∀ m ∈ D.mods, MdOk m) ∧ D.faults.length ≤ 2 ∧ Cur w' C 2400 ∧ w.grownBy w' (some C)) := by
  have hC := h.lt
  obtain ⟨wA, hwAe⟩ : ∃ wA, wA = w.alloc (.cells #[.slice none 0 0, .slice none 0 0, .slice none 0 0] 27) := ⟨_, rfl⟩
  have hwA : wA.heap.size = w.heap.size + 1 := by rw [hwAe]; simp
  have HWA : Hid (wA.heap[w.heap.size]? = some (.cells #[.slice none 0 0, .slice none 0 0, .slice none 0 0] 27 (0, 0)) ∧ w.grownBy wA (some C)) := by rw [hwAe]; exact ⟨new_blk _ _, grown_alloc_some w _ C⟩
  have HWE : Hid (wA = w.alloc (.cells #[.slice none 0 0, .slice none 0 0, .slice none 0 0] 27)) := hwAe
  clear hwAe
  obtain ⟨i9, hi, hz0, hz1, hz2⟩ := info_parts Tryz.info9
  obtain ⟨i46, ki, kz0, kz1, kz2⟩ := info_parts Tryz.info55
  obtain ⟨i56, li, lz0, lz1, lz2⟩ := info_parts Tryz.info57
  obtain ⟨i3, mi, mz0, mz1, mz2⟩ := info_parts Tryz.info3
  go_enter Tryz.func12, Tryz.ntmps12
  go_wp2_with fail
  refine (pick_any C n 7 _ ((h.alloc _).alloc _) (by omega) (by decide) (by decide)).mono ?_
  rintro e w1 ⟨x, rfl, hx, hc1, hg1⟩
  have hsz1 : w.heap.size + 2 ≤ w1.heap.size := by have := hg1.size; simp at this; omega
  have hblk : w1.heap[w.heap.size + 1]? = some (.cells #[.slice none 0 0, .slice none 0 0, .slice none 0 0] 27 (0, 0)) := by
    rw [grown_keep hg1 (by simp) (by intro e; simp at e; omega)]
    exact (by simpa using new_blk (w.alloc (.cells #[.slice none 0 0, .slice none 0 0, .slice none 0 0] 27)) (.cells #[.slice none 0 0, .slice none 0 0, .slice none 0 0] 27))
  have hG1 : wA.grownBy w1 (some C) := by rw [HWE.out]; exact grown_trans (grown_alloc_some _ _ C) hg1
  go_wp2
  go_loopw [4, 5] (fun vn i wr => ∃ (j : Nat) (M : List Md) (X : List Value) (vm : Value), j ≤ 7 ∧ i = .int .i64 j ∧ M.length + j ≤ 7 ∧ (∀ m ∈ M, m.name.length ≤ 11 ∧ m.lines = []) ∧ wr.ownsRow (w.heap.size + 2) 9 1 vn M.length (M.map (fun m => strV m.name)) ∧
      wr.heap[w.heap.size + 1]? = some (.cells #[.slice none 0 0, vm, .slice none 0 0] 27 (0, 0)) ∧ Mrow (w.heap.size + 2) wr vm M X ∧ NoLn X 0 M.length ∧ Cur wr C (n + 2 + 10 * (7 - j)) ∧ wA.grownBy wr (some C) ∧ w.heap.size + 2 ≤ wr.heap.size) (fun _ i _ => (intOf i).toNat)
  case atStart => exact ⟨x + 1, [], [], _, by omega, by go_num, by simp; omega, by simp, World.ownsRow_nil _ _ _ _, hblk, ⟨World.ownsRow_nil _ _ _ _, fun j hj => by simp at hj⟩, (fun j _ hj => by simp at hj), hc1.mono (by omega), hG1, hsz1⟩
  case round =>
    obtain ⟨j, M, X, vm, hj, rfl, hMj, hM, hnm, hb, hmr, hnl, hc, hg, hsz⟩ := hrel
    obtain ⟨am, cm, rfl, hcm, _⟩ := row_form hmr.1
    obtain ⟨an, cn, rfl, hcn, _⟩ := row_form hnm
    have HM : Hid ((∀ m ∈ M, m.name.length ≤ 11 ∧ m.lines = []) ∧ Mrow (w.heap.size + 2) wr (.slice am M.length cm) M X ∧ wr.ownsRow (w.heap.size + 2) 9 1 (.slice an M.length cn) M.length (M.map (fun m => strV m.name))) := ⟨hM, hmr, hnm⟩
    clear hM hmr hnm
    by_cases hpos : 0 < j
    · have hpos' : (0 : Int) < (j : Int) := by omega
      have hj7 : (j : Int) ≤ 7 := by omega
      go_wp2_with fail
      refine (name_any C _ wr hc (by omega)).mono ?_
      rintro e w2 ⟨q, rfl, hq, hc2, hg2⟩
      have hb2 : w2.heap[w.heap.size + 1]? = some (.cells #[.slice none 0 0, .slice am M.length cm, .slice none 0 0] 27 (0, 0)) := by
        rw [grown_keep hg2 (by omega) (by intro e; simp at e; omega)]; exact hb
      have c21 : w2.cell? ⟨w.heap.size + 1, 1, none⟩ = some (.slice am M.length cm) := by simp [World.cell?, hb2]
      have hM2 := HM.out.2.1.draw hg2 (by omega)
      have hn2 := own_draw HM.out.2.2 hg2 (by omega)
      have hg02 := grown_trans hg hg2
      have hs2 : w.heap.size + 2 ≤ w2.heap.size := Nat.le_trans hsz hg2.size
      have hwd : Wds w2 (.agg #[.slice none 0 0, .slice am M.length cm, .slice none 0 0]) ⟨[], M, []⟩ := ⟨_, _, _, rfl, ⟨none, 0, rfl, by simp, by unfold maxLen; omega, fun k hk => by simp at hk⟩, hM2.mds, ⟨none, 0, rfl, by simp, by unfold maxLen; omega, fun k hk => by simp at hk⟩⟩
      have hfind := l2find_any _ ⟨[], M, []⟩ q w2 hwd (by simp; omega)
      have HH2 : Hid (Mrow (w.heap.size + 2) w2 (.slice am M.length cm) M X ∧ w2.ownsRow (w.heap.size + 2) 9 1 (.slice an M.length cn) M.length (M.map (fun m => strV m.name))) := ⟨hM2, hn2⟩
      clear hM2 hn2 hwd hg2
      go_wp2_with fail
      refine hfind.mono ?_
      rintro e w3 ⟨rfl, hB3⟩
      have hs3 := hB3.size
      have hb3 : w3.heap[w.heap.size + 1]? = some (.cells #[.slice none 0 0, .slice am M.length cm, .slice none 0 0] 27 (0, 0)) := (hB3.block _ (by omega)).trans hb2
      have c31 : w3.cell? ⟨w.heap.size + 1, 1, none⟩ = some (.slice am M.length cm) := by simp [World.cell?, hb3]
      have hM3 := HH2.out.1.below hB3 (Nat.le_refl _)
      have hn3 := own_below HH2.out.2 hB3 (Nat.le_refl _)
      have hg23 : w2.grownBy w3 (some C) := ⟨hB3.os, hB3.tape, hB3.output, hB3.size, fun k hk _ => hB3.block k hk⟩
      have hg03 := grown_trans hg02 hg23
      have hc3 : Cur w3 C (n + 2 + 10 * (7 - (j - 1))) := by
        have := hc2.kept (row := none) ⟨hB3.os, hB3.tape, hB3.output, hB3.size, fun k hk _ => hB3.block k hk⟩ (fun r e => by cases e)
        exact this.mono (by omega)
      clear hfind HH2 hb2 c21 hB3 hg23 hc2 hb
      obtain ⟨ix, hix⟩ : ∃ ix, ix = Wd.idx ⟨[], M, []⟩ q.data.toList := ⟨_, rfl⟩
      rw [← hix]
      simp only [sIdx]
      by_cases hf : ix < M.length
      · rw [if_pos hf]
        have hfi : ¬ ((ix : Nat) : Int) < 0 := by omega
        have hfd : decide (((ix : Nat) : Int) < 0) = false := decide_eq_false hfi
        have HA : Hid (Mrow (w.heap.size + 2) w3 (.slice am M.length cm) M X ∧ w3.ownsRow (w.heap.size + 2) 9 1 (.slice an M.length cn) M.length (M.map (fun m => strV m.name))) := ⟨hM3, hn3⟩
        clear hM3 hn3 hix
        go_wp2
        go_roundw
        case rel => exact ⟨j - 1, M, X, _, by omega, by go_num, by omega, HM.out.1, HA.out.2, hb3, HA.out.1, hnl, hc3, hg03, by omega⟩
        case measure => simp [intOf]; omega
      · rw [if_neg hf]
        clear hix
        have HA : Hid (Mrow (w.heap.size + 2) w3 (.slice am M.length cm) M X ∧ w3.ownsRow (w.heap.size + 2) 9 1 (.slice an M.length cn) M.length (M.map (fun m => strV m.name)) ∧ w3.heap[w.heap.size + 1]? = some (.cells #[.slice none 0 0, .slice am M.length cm, .slice none 0 0] 27 (0, 0)) ∧ wA.grownBy w3 (some C) ∧ Cur w3 C (n + 2 + 10 * (7 - (j - 1)))) := ⟨hM3, hn3, hb3, hg03, hc3⟩
        have HS : Hid (∀ (vn4 : Value) (w4 : World), w4.ownsRow (w.heap.size + 2) 9 1 vn4 (M.length + 1) (M.map (fun m => strV m.name) ++ [.string q]) → (w3.alloc (.cells #[.string q] 9)).grownBy w4 (Value.slice an M.length cn).ownBlock →
            w4.heap[w.heap.size + 1]? = some (.cells #[.slice none 0 0, .slice am M.length cm, .slice none 0 0] 27 (0, 0)) ∧ Mrow (w.heap.size + 2) w4 (.slice am M.length cm) M X ∧ wA.grownBy w4 (some C) ∧ Cur w4 C (n + 2 + 10 * (7 - (j - 1))) ∧ w.heap.size + 2 ≤ w4.heap.size) := by
          intro vn4 w4 h4 hg4
          obtain ⟨a1, a2, a3, a4, a5⟩ := HA.out
          have hrow := a2.alloc (.cells #[.string q] 9)
          refine ⟨?_, (a1.alloc _).other hrow (by decide) (by decide) hg4, grown_far (grown_trans a4 (grown_alloc_some w3 _ C)) hg4 (far_row hrow (by omega)), (a5.alloc _).kept hg4 (fun r hr => by have := far_row hrow (Nat.le_refl _) r hr; omega), ?_⟩
          · rw [grown_keep hg4 (by simp; omega) (blk_ne ((old_blk _ _ (by omega)).trans a3) hrow (by decide)), old_blk _ _ (by omega)]; exact a3
          · have := hg4.size; simp at this; omega
        clear hM3 hc3 hg03
        go_wp2_with (first | (at_builtin; refine wpList_app1 _ rfl _ _ 23 rfl (w.heap.size + 2) 9 i9 (.string ByteArray.empty) 16 Tryz.underlying23 hi hz0 hz1 hz2 rfl _ _ _ rfl (hn3.alloc _) ⟨_, 0, none⟩ 1 (.string q) rfl (cell_one_new _ _ _) (by simp [Value.oneCell']) (by unfold maxLen; omega) (by omega) (by simp; omega) ?_; intro vn4 w4 hn4 hg4 hl4; obtain ⟨hb4, hM4, hg04, hc4, hs4⟩ := HS.out _ _ hn4 hg4; have c41 : w4.cell? ⟨w.heap.size + 1, 1, none⟩ = some (.slice am M.length cm) := (by simp [World.cell?, hb4])) | (at_builtin; refine wpList_append_own_at _ rfl _ _ 24 rfl (w.heap.size + 2) 39 i46 _ 2 40 Tryz.underlying24 ki kz0 kz1 kz2 rfl (by decide) _ _ _ rfl (hM4.1.alloc _) ⟨w4.heap.size, 0, none⟩ 1 1 [Value.string q, .slice none 0 0] rfl rfl (new2' _ _ _ _) (by intro u hu; simp at hu; rcases hu with rfl | rfl <;> rfl) (by unfold maxLen; omega) (by omega) (by simp; omega) ?_; intro v5 w5 hM5 hg5 hnil hloc; obtain ⟨a5, k5, rfl, _, _⟩ := row_form hM5; have hb5 : w5.heap[w.heap.size + 1]? = some (.cells #[.slice none 0 0, .slice am M.length cm, .slice none 0 0] 27 (0, 0)) := (grown_keep hg5 (by simp; omega) (blk_ne hb4 hM4.1 (by decide))).trans ((old_blk _ _ (by omega)).trans hb4); have c51 : w5.cell? ⟨w.heap.size + 1, 1, none⟩ = some (.slice am M.length cm) := (by simp [World.cell?, hb5]); have f51 : w5.frozen? ⟨w.heap.size + 1, 1, none⟩ = false := (by simp [World.frozen?, hb5])))
        have HM5 : Hid (Mrow (w.heap.size + 2) w5 (.slice a5 (M.length + 1) k5) (M ++ [⟨q.data.toList, []⟩]) (X ++ [strV q.data.toList, .slice none 0 0])) := by
          refine (hM4.alloc _).snoc q.data.toList ?_ hg5
          rw [strV_data]; exact hM5
        have HN5 : Hid (w5.ownsRow (w.heap.size + 2) 9 1 vn4 (M.length + 1) ((M ++ [(⟨q.data.toList, []⟩ : Md)]).map (fun m => strV m.name))) := by
          have := own_other (hn4.alloc (.cells #[.string q, .slice none 0 0] 39)) (hM4.1.alloc (.cells #[.string q, .slice none 0 0] 39)) (by decide) hg5
          unfold Hid
          rw [List.map_append, List.map_singleton, strV_data]; exact this
        have hg05 := grown_far (grown_trans hg04 (grown_alloc_some w4 _ C)) hg5 (far_row hM4.1 (by omega))
        have hc5 := (hc4.alloc (.cells #[.string q, .slice none 0 0] 39)).kept hg5 (fun r hr => by have := far_row hM4.1 (Nat.le_refl _) r hr; omega)
        have hs5 : w.heap.size + 2 ≤ w5.heap.size := by have := hg5.size; simp at this; omega
        clear hM4 hM5 hn4 hg5 hg4 hn3 HS
        go_roundw
        case rel => exact ⟨j - 1, M ++ [⟨q.data.toList, []⟩], _, _, by omega, by go_num, by simp; omega, fun m hm => by
            rcases List.mem_append.1 hm with hm | hm
            · exact HM.out.1 m hm
            · simp at hm; subst hm; exact ⟨by simpa using hq, rfl⟩, by simpa using own_set HN5.out (by omega) 1 _, set3_1 hb5, by simpa using HM5.out.set (by omega) 1 _, (fun i _ hi => by
            have hXl : X.length = M.length * 2 := HM.out.2.1.1.1
            simp at hi
            by_cases him : i < M.length
            · rw [List.getElem?_append_left (by omega)]; exact hnl i (by omega) him
            · obtain rfl : i = M.length := by omega
              rw [List.getElem?_append_right (by omega), hXl, show M.length * 2 + 1 - M.length * 2 = 1 by omega]; rfl), hc5.kept (grown_set w5 ⟨w.heap.size + 1, 1, none⟩ _) (fun r e => by simp at e; omega), grown_far hg05 (grown_set w5 ⟨w.heap.size + 1, 1, none⟩ _) (fun r e => by simp at e; omega), by simpa [World.setCell] using hs5⟩
        case measure => simp [intOf]; omega
    · obtain rfl : j = 0 := by omega
      obtain ⟨wo, rfl⟩ : ∃ wo, wo = wr := ⟨_, rfl⟩
      have cB0 : ∀ o', (wo.alloc o').cell? ⟨w.heap.size + 1, 0, none⟩ = some (.slice none 0 0) := fun o' => by simp [World.cell?, old_blk wo o' (show w.heap.size + 1 < wo.heap.size by omega), hb]
      have fB0 : ∀ o', (wo.alloc o').frozen? ⟨w.heap.size + 1, 0, none⟩ = false := fun o' => by simp [World.frozen?, old_blk wo o' (show w.heap.size + 1 < wo.heap.size by omega), hb]
      obtain ⟨W2, hW2⟩ : ∃ W2, W2 = (wo.alloc (.cells #[.string ⟨#[]⟩] 9)).setCell ⟨w.heap.size + 1, 0, none⟩ (.slice (some ⟨wo.heap.size, 0, none⟩) 1 1) := ⟨_, rfl⟩
      have hFar2 : Far C (w.heap.size + 1) wo W2 := by
        rw [hW2]; exact ((Far.refl _ _ _).grown (grown_al wo _ none) (fun r e => by cases e)).grown (grown_set _ ⟨w.heap.size + 1, 0, none⟩ _) (fun r e => by simp at e; omega)
      have hb2 : W2.heap[w.heap.size + 1]? = some (.cells #[.slice (some ⟨wo.heap.size, 0, none⟩) 1 1, .slice am M.length cm, .slice none 0 0] 27 (0, 0)) := by
        rw [hW2, blk_set ((old_blk _ _ (by omega)).trans hb)]; rfl
      have hr2 : W2.ownsRow wo.heap.size 9 1 (.slice (some ⟨wo.heap.size, 0, none⟩) 1 1) 1 [.string ⟨#[]⟩] := by
        rw [hW2]; exact own_set ⟨by simp, .inr ⟨wo.heap.size, 1, _, rfl, Nat.le_refl _, new_blk _ _, Nat.le_refl _, by unfold maxLen; omega, by simp, by simp⟩⟩ (by omega) 0 _
      have hc2 : Cur W2 C (n + 2 + 10 * (7 - 0)) := by
        rw [hW2]; exact (hc.alloc _).kept (grown_set _ ⟨w.heap.size + 1, 0, none⟩ _) (fun r e => by simp at e; omega)
      have hg2 : wA.grownBy W2 (some C) := by
        rw [hW2]; exact grown_far (grown_trans hg (grown_alloc_some wo _ C)) (grown_set _ ⟨w.heap.size + 1, 0, none⟩ _) (fun r e => by simp at e; omega)
      have HW2 : Hid (W2 = (wo.alloc (.cells #[.string ⟨#[]⟩] 9)).setCell ⟨w.heap.size + 1, 0, none⟩ (.slice (some ⟨wo.heap.size, 0, none⟩) 1 1)) := hW2
      clear hW2
      go_wp2_with fail
      rw [← HW2.out]
      refine (pick_any C _ 3 _ hc2 (by omega) (by decide) (by decide)).mono ?_
      rintro e w2 ⟨x2, rfl, hx2, hc3, hg3⟩
      have hFar3 := hFar2.grown hg3 (fun r e => by simp at e; omega)
      have hb3 : w2.heap[w.heap.size + 1]? = _ := (grown_keep hg3 (by have := hFar2.1; omega) (by intro e; simp at e; omega)).trans hb2
      have hr3 := own_draw hr2 hg3 (by omega)
      have hg03 := grown_trans hg2 hg3
      clear hr2 hb2 hc2 hFar2 cB0 fB0 hg2 hg3
      go_wp2
      go_loopw [7] (fun i V => ∃ (j : Nat) (R : List (List UInt8)) (vr : Value), j ≤ 2 ∧ i = .int .i64 j ∧ R.length + j ≤ 3 ∧ (∀ l ∈ R, l.length ≤ 3) ∧ V.ownsRow wo.heap.size 9 1 vr R.length (R.map strV) ∧
        V.heap[w.heap.size + 1]? = some (.cells #[vr, .slice am M.length cm, .slice none 0 0] 27 (0, 0)) ∧ Far C (w.heap.size + 1) wo V ∧ Cur V C (n + 74 + 2 * (2 - j)) ∧ wA.grownBy V (some C)) (fun i _ => (intOf i).toNat)
      case atStart => exact ⟨x2, [[]], _, by omega, rfl, by simp; omega, by simp, by simpa [strV] using hr3, hb3, hFar3, hc3.mono (by omega), hg03⟩
      case round =>
        obtain ⟨j, R, vr, hj, rfl, hRj, hR, hr, hbV, hF, hcV, hgV⟩ := hrel
        obtain ⟨ar, cr, rfl, hcr, _⟩ := row_form hr
        by_cases hpos : 0 < j
        · have hpos' : (0 : Int) < (j : Int) := by omega
          have HP : Hid (Calls Tryz.prog 28 #[.pointer (some ⟨C, 0, none⟩)] wr.drew fun e w3 => ∃ q3 : ByteArray, e = .returned (.string q3) ∧ q3.size ≤ 3 ∧ w3.ownsRow wo.heap.size 9 1 (.slice ar R.length cr) R.length (R.map strV) ∧ w3.heap[w.heap.size + 1]? = some (.cells #[.slice ar R.length cr, .slice am M.length cm, .slice none 0 0] 27 (0, 0)) ∧ Far C (w.heap.size + 1) wo w3 ∧ Cur w3 C (n + 74 + 2 * (2 - (j - 1))) ∧ wA.grownBy w3 (some C) ∧ w3.cell? ⟨w.heap.size + 1, 0, none⟩ = some (.slice ar R.length cr)) := by
            refine (part_any C _ wr.drew hcV (by omega)).mono ?_
            rintro e w3 ⟨q3, rfl, hq3, hc3, hg3⟩
            have hg3' : wr.grownBy w3 (some C) := grown_trans (grown_drewD wr _) hg3
            have hb3 := (grown_keep hg3' (b := w.heap.size + 1) (by have := hF.1; omega) (by intro e; simp at e; omega)).trans hbV
            exact ⟨q3, rfl, hq3, own_draw hr hg3' (by omega), hb3, hF.grown hg3' (fun r e => by simp at e; omega), hc3.mono (by omega), grown_trans hgV hg3', by simp [World.cell?, hb3]⟩
          have c0' : wr.cell? ⟨w.heap.size + 1, 0, none⟩ = some (.slice ar R.length cr) := by simp [World.cell?, hbV]
          have c0 : wr.drew.cell? ⟨w.heap.size + 1, 0, none⟩ = some (.slice ar R.length cr) := c0'
          have HRR : Hid (∀ l ∈ R, l.length ≤ 3) := hR
          have hwo : w.heap.size + 2 ≤ wo.heap.size := hsz
          clear hr hbV hF hcV hgV hR
          go_wp2
          go_region_law (first | (refine step_append_lies _ rfl (.tmp 50) (.tmp 53) 23 rfl wo.heap.size 9 i9 (.string ByteArray.empty) 1 16 Tryz.underlying23 hi hz0 hz1 hz2 rfl (by decide) (.slice ar R.length cr) R.length (R.map strV) (by simp [Act.eval]) (hr3.alloc _) ⟨w3.heap.size, 0, none⟩ 1 1 [.string q3] (by simp [Act.eval]) rfl (cell_one_new _ _ _) (by intro u hu; simp at hu; subst hu; rfl) (by decide) (by unfold maxLen; omega) (by omega) (by have := hF3.1; simp; omega) (w3.heap.size + 1) (by simp) ?_; intro g cap w4 hown4 hgrow4 hat4 hlt4; have hb4 : w4.heap[w.heap.size + 1]? = some (.cells #[.slice ar R.length cr, .slice am M.length cm, .slice none 0 0] 27 (0, 0)) := (grown_keep hgrow4 (by have := hF3.1; simp; omega) (blk_ne hb3 hr3 (by decide))).trans ((old_blk _ _ (by have := hF3.1; omega)).trans hb3); have c40 : w4.cell? ⟨w.heap.size + 1, 0, none⟩ = some (.slice ar R.length cr) := (by simp [World.cell?, hb4]); have f40 : w4.frozen? ⟨w.heap.size + 1, 0, none⟩ = false := (by simp [World.frozen?, hb4])) | (go_simp; refine HP.out.mono ?_; rintro e w3 ⟨q3, rfl, hq3, hr3, hb3, hF3, hc3, hg3, c30⟩; have c31 := fun o' => below_cell0 ((Below.refl w3.heap.size w3).alloc (Nat.le_refl _) o') (show w.heap.size + 1 < w3.heap.size from (by have := hF3.1; omega)) c30))
          all_goals
            have hF4 := (hF3.grown (grown_al w3 (.cells #[.string q3] 9) none) (fun r e => by cases e)).grown hgrow4 (fun r e => .inr (.inr (far_row hr3 (Nat.le_refl _) r e)))
            have hc4 := (hc3.alloc (.cells #[.string q3] 9)).kept hgrow4 (fun r e => by have := far_row hr3 (Nat.le_refl _) r e; omega)
            have hg4 := grown_far (grown_trans hg3 (grown_alloc_some w3 (.cells #[.string q3] 9) C)) hgrow4 (fun r e => by have := far_row hr3 (Nat.le_refl _) r e; omega)
            have HO4 : Hid (w4.ownsRow wo.heap.size 9 1 (.slice (some ⟨g, 0, none⟩) (R.length + 1) cap) (R ++ [q3.data.toList]).length ((R ++ [q3.data.toList]).map strV)) := by
              unfold Hid; rw [List.map_append, List.map_singleton, strV_data, List.length_append, List.length_singleton]; exact hown4
            clear hown4 hgrow4 hr3
            go_wp2
            go_roundw
            case rel => exact ⟨j - 1, R ++ [q3.data.toList], _, by omega, by go_num, by simp; omega, fun l hl => by
              rcases List.mem_append.1 hl with hl | hl
              · exact HRR.out l hl
              · simp at hl; subst hl; simpa using hq3, own_set HO4.out (by omega) 0 _, blk_set hb4 _, hF4.grown (grown_set w4 ⟨w.heap.size + 1, 0, none⟩ _) (fun r e => by simp at e; omega), hc4.kept (grown_set w4 ⟨w.heap.size + 1, 0, none⟩ _) (fun r e => by simp at e; omega), grown_far hg4 (grown_set w4 ⟨w.heap.size + 1, 0, none⟩ _) (fun r e => by simp at e; omega)⟩
            case measure => simp [intOf]; omega
        · obtain rfl : j = 0 := by omega
          go_wp2_with fail
          refine (pick_any C _ 10 _ hcV (by omega) (by decide) (by decide)).mono ?_
          rintro e w2' ⟨x3, rfl, hx3, hc4, hg4⟩
          have hF4 := hF.grown hg4 (fun r e => by simp at e; omega)
          have hb4 : w2'.heap[w.heap.size + 1]? = _ := (grown_keep hg4 (by have := hF.1; omega) (by intro e; simp at e; omega)).trans hbV
          have hr4 := own_mono (own_draw hr hg4 (by omega)) hsz
          have hg04 := grown_trans hgV hg4
          have hM4 := hF4.mrow HM.out.2.1 (by omega) (by omega)
          have hn4 := hF4.own HM.out.2.2 (by omega) (by omega)
          have hs4 : w.heap.size + 2 ≤ w2'.heap.size := Nat.le_trans hsz hF4.1
          clear hF hbV hr hgV hg4 hF4 hcV
          have HB : Hid (∃ (V : World) (vr : Value) (R : List (List UInt8)), R.length ≤ 3 ∧ (∀ l ∈ R, l.length ≤ 3) ∧ True) := ⟨w2', .slice ar R.length cr, R, by omega, hR, trivial⟩
          go_upto_if 58 with fail
          go_cut [] (fun V => ∃ (avr : Option Addr) (cvr : Nat) (R' : List (List UInt8)), (R'.length ≤ 3 ∧ ∀ l ∈ R', l.length ≤ 3) ∧ V.ownsRow (w.heap.size + 2) 9 1 (.slice avr R'.length cvr) R'.length (R'.map strV) ∧ V.heap[w.heap.size + 1]? = some (.cells #[.slice avr R'.length cvr, .slice am M.length cm, .slice none 0 0] 27 (0, 0)) ∧
            Cur V C (n + 100) ∧ wA.grownBy V (some C) ∧ Mrow (w.heap.size + 2) V (.slice am M.length cm) M X ∧ V.ownsRow (w.heap.size + 2) 9 1 (.slice an M.length cn) M.length (M.map (fun m => strV m.name)) ∧ w.heap.size + 2 ≤ V.heap.size)
          case first =>
            by_cases hx30 : x3 = 0
            · subst hx30
              have c0 : w2'.cell? ⟨w.heap.size + 1, 0, none⟩ = some (.slice ar R.length cr) := by simp [World.cell?, hb4]
              have f0 : w2'.frozen? ⟨w.heap.size + 1, 0, none⟩ = false := by simp [World.frozen?, hb4]
              obtain ⟨V, hV⟩ : ∃ V, V = w2'.setCell ⟨w.heap.size + 1, 0, none⟩ (.slice none 0 0) := ⟨_, rfl⟩
              have gs := grown_set w2' ⟨w.heap.size + 1, 0, none⟩ (.slice none 0 0)
              rw [← hV] at gs
              have hb5 : V.heap[w.heap.size + 1]? = some (.cells #[.slice none 0 0, .slice am M.length cm, .slice none 0 0] 27 (0, 0)) := by rw [hV, blk_set hb4]; rfl
              have hc5 := (hc4.kept gs (fun r e => by simp at e; omega)).mono (show _ ≤ n + 100 by omega)
              have hg5 := grown_far hg04 gs (fun r e => by simp at e; omega)
              have hM5 : Mrow (w.heap.size + 2) V (.slice am M.length cm) M X := by rw [hV]; exact hM4.set (by omega) _ _
              have hn5 : V.ownsRow (w.heap.size + 2) 9 1 (.slice an M.length cn) M.length (M.map (fun m => strV m.name)) := by rw [hV]; exact own_set hn4 (by omega) _ _
              have hs5 : w.heap.size + 2 ≤ V.heap.size := by have := gs.size; omega
              have HVV : Hid (V = w2'.setCell ⟨w.heap.size + 1, 0, none⟩ (.slice none 0 0)) := hV
              have HX : Hid (Cur V C (n + 100) ∧ wA.grownBy V (some C) ∧ Mrow (w.heap.size + 2) V (.slice am M.length cm) M X ∧ V.ownsRow (w.heap.size + 2) 9 1 (.slice an M.length cn) M.length (M.map (fun m => strV m.name)) ∧ w.heap.size + 2 ≤ V.heap.size) := ⟨hc5, hg5, hM5, hn5, hs5⟩
              clear hV gs hM4 hn4 hg04 hc4 hr4 hc5 hg5 hM5 hn5
              go_wp2
              rw [← HVV.out]
              go_meet
              exact ⟨none, 0, [], ⟨by simp, by simp⟩, World.ownsRow_nil _ _ _ _, hb5, HX.out⟩
            · have hxb : ((x3 : Int) == 0) = false := by rw [beq_eq_false_iff_ne]; omega
              have HX : Hid (Cur w2' C (n + 100) ∧ wA.grownBy w2' (some C) ∧ Mrow (w.heap.size + 2) w2' (.slice am M.length cm) M X ∧ w2'.ownsRow (w.heap.size + 2) 9 1 (.slice an M.length cn) M.length (M.map (fun m => strV m.name)) ∧ w.heap.size + 2 ≤ w2'.heap.size) := ⟨hc4.mono (by omega), hg04, hM4, hn4, hs4⟩
              have HX2 : Hid (w2'.ownsRow (w.heap.size + 2) 9 1 (.slice ar R.length cr) R.length (R.map strV) ∧ ∀ l ∈ R, l.length ≤ 3) := ⟨hr4, hR⟩
              clear hM4 hn4 hg04 hc4 hr4 hR
              go_wp2
              go_meet
              exact ⟨ar, cr, R, ⟨by omega, HX2.out.2⟩, HX2.out.1, hb4, HX.out⟩
          case rest =>
            obtain ⟨avr, cvr, R', hR5, hRl, hb5, hc5, hg5, hM5, hn5, hs5⟩ := hcut
            clear hM4 hn4 hg04 hc4 hr4 hb4 hs4
            have hMl : M.length ≤ 7 := by omega
            have d1 : wc.cell? ⟨w.heap.size + 1, 1, none⟩ = some (.slice am M.length cm) := by simp [World.cell?, hb5]
            go_wp2
            go_loopw [63] (fun i wr => ∃ (k : Nat) (M' : List Md) (X' : List Value), k ≤ M.length ∧ i = .int .i64 k ∧ M'.length = M.length ∧ (∀ m ∈ M', MdOk m) ∧ Mrow (w.heap.size + 2) wr (.slice am M.length cm) M' X' ∧ NoLn X' k M.length ∧
              wr.ownsRow (w.heap.size + 2) 9 1 (.slice an M.length cn) M.length (M.map (fun m => strV m.name)) ∧ wr.ownsRow (w.heap.size + 2) 9 1 (.slice avr R'.length cvr) R'.length (R'.map strV) ∧ wr.heap[w.heap.size + 1]? = some (.cells #[.slice avr R'.length cvr, .slice am M.length cm, .slice none 0 0] 27 (0, 0)) ∧
              Cur wr C (n + 100 + 160 * k) ∧ wA.grownBy wr (some C) ∧ w.heap.size + 2 ≤ wr.heap.size) (fun i _ => M.length - (intOf i).toNat)
            case atStart => exact ⟨0, M, X, by omega, rfl, rfl, fun m hm => by have := HM.out.1 m hm; exact ⟨this.1, by rw [this.2]; simp, by rw [this.2]; simp⟩, hM5, hnl, hn5, hRl, hb5, hc5.mono (by omega), hg5, hs5⟩
            case round =>
              obtain ⟨k, M', X', hk, rfl, hM'l, hM', hmr, hnl', hnm, hrr, hbb, hcc, hgg, hss⟩ := hrel
              by_cases hlt : k < M.length
              · obtain ⟨g, rfl⟩ : ∃ g, am = some ⟨g, 0, none⟩ := by
                  obtain ⟨_, _, hvv, _, hag⟩ := row_form hmr.1
                  rw [hM'l] at hvv hag
                  cases hvv
                  exact hag (by omega)
                have hki : (k : Int) < (M.length : Int) := by omega
                have e1 : wr.cell? ⟨w.heap.size + 1, 1, none⟩ = some (.slice (some ⟨g, 0, none⟩) M.length cm) := by simp [World.cell?, hbb]
                have HQ : Hid (Mrow (w.heap.size + 2) wr (.slice (some ⟨g, 0, none⟩) M.length cm) M' X' ∧ NoLn X' k M.length ∧ wr.ownsRow (w.heap.size + 2) 9 1 (.slice an M.length cn) M.length (M.map (fun m => strV m.name)) ∧ wr.ownsRow (w.heap.size + 2) 9 1 (.slice avr R'.length cvr) R'.length (R'.map strV) ∧ (∀ m ∈ M', MdOk m)) := ⟨hmr, hnl', hnm, hrr, hM'⟩
                clear hmr hnl' hnm hrr hM'
                go_wp2_with fail
                refine (pick_any C _ 6 _ hcc (by omega) (by decide) (by decide)).mono ?_
                rintro e wk ⟨x4, rfl, hx4, hck, hgk⟩
                have hgg' := grown_trans hgg hgk
                have hbk : wk.heap[w.heap.size + 1]? = _ := (grown_keep hgk (by omega) (by intro e; simp at e; omega)).trans hbb
                have hsk : w.heap.size + 2 ≤ wk.heap.size := Nat.le_trans hss hgk.size
                have HQk : Hid (Mrow (w.heap.size + 2) wk (.slice (some ⟨g, 0, none⟩) M.length cm) M' X' ∧ NoLn X' k M.length ∧ wk.ownsRow (w.heap.size + 2) 9 1 (.slice an M.length cn) M.length (M.map (fun m => strV m.name)) ∧ wk.ownsRow (w.heap.size + 2) 9 1 (.slice avr R'.length cvr) R'.length (R'.map strV) ∧ (∀ m ∈ M', MdOk m)) := ⟨HQ.out.1.draw hgk (by omega), HQ.out.2.1, own_draw HQ.out.2.2.1 hgk (by omega), own_draw HQ.out.2.2.2.1 hgk (by omega), HQ.out.2.2.2.2⟩
                have hgb : w.heap.size + 2 ≤ g ∧ g < wk.heap.size := HQk.out.1.1.lt g rfl
                have hX0 : wk.ownsRow (w.heap.size + 2) 39 2 (.slice (some ⟨g, 0, none⟩) M.length cm) M.length (X'.set (k * 2 + 1) (.slice none 0 0)) := by
                  have h1 := HQk.out.1.1
                  rw [hM'l] at h1
                  have h2 := HQk.out.2.1 k (Nat.le_refl _) hlt
                  rw [set_same h2]; exact h1
                clear HQ hcc hgg hbb hss e1 hgk
                go_wp2
                go_loopw [10] (fun i V => ∃ (j : Nat) (L : List Ln) (ls : Value), j ≤ 5 ∧ i = .int .i64 j ∧ L.length + j ≤ 5 ∧ (∀ l ∈ L, l.name.length ≤ 20) ∧ V.ownsRow (w.heap.size + 2) 39 2 (.slice (some ⟨g, 0, none⟩) M.length cm) M.length (X'.set (k * 2 + 1) ls) ∧ V.ownsRow wk.heap.size 56 4 ls L.length (L.flatMap lnR) ∧
                  Far C g wk V ∧ Cur V C (n + 102 + 160 * k + 26 * (5 - j)) ∧ wA.grownBy V (some C)) (fun i _ => (intOf i).toNat)
                case atStart => exact ⟨x4, [], _, by omega, rfl, by simp; omega, by simp, hX0, World.ownsRow_nil _ _ _ _, Far.refl _ _ _, hck.mono (by omega), hgg'⟩
                case round =>
                  obtain ⟨j, L, ls, hj, rfl, hLj, hLn, hXo, hlo, hFk, hcj, hgj⟩ := hrel
                  obtain ⟨al, cl, rfl, hcl, _⟩ := row_form hlo
                  by_cases hpos : 0 < j
                  · have hpos' : (0 : Int) < (j : Int) := by omega
                    go_wp2_with fail
                    refine (pick_any C _ 12 _ (hcj.alloc _) (by omega) (by decide) (by decide)).mono ?_
                    rintro e w4 ⟨y, rfl, hy, hc4, hg4⟩
                    have hws : wk.heap.size ≤ wr.heap.size := hFk.1
                    have hl4 : wr.heap.size < w4.heap.size := by have := hg4.size; simp at this; omega
                    have hF4 : Far C g wk w4 := (hFk.grown (grown_al wr _ none) (fun r e => by cases e)).grown hg4 (fun r e => by simp at e; omega)
                    have hb4 : w4.heap[wr.heap.size]? = some (.cells #[.int .i64 0, .string ⟨#[]⟩, .int .i64 0, .int .i64 0] 56 (0, 0)) := by
                      rw [grown_keep hg4 (by simp) (by intro e; simp at e; omega)]; exact new_blk _ _
                    have hX4 := own_draw (hXo.alloc (.cells #[.int .i64 0, .string ⟨#[]⟩, .int .i64 0, .int .i64 0] 56)) hg4 (by omega)
                    have hl4o := own_draw (hlo.alloc (.cells #[.int .i64 0, .string ⟨#[]⟩, .int .i64 0, .int .i64 0] 56)) hg4 (by omega)
                    have hg04 := grown_trans (grown_trans hgj (grown_alloc_some wr _ C)) hg4
                    have hN4 : w4.ownsRow (C + 1) 9 1 (.slice an M.length cn) (M.map Md.name).length ((M.map Md.name).map strV) := by
                      rw [List.length_map, List.map_map]
                      exact own_mono (hF4.own2 HQk.out.2.2.1 (by omega) (fun e => rows_apart' (by decide) HQk.out.1.1 HQk.out.2.2.1 g e rfl)) (by omega)
                    have hlb4 : ∀ b, (Value.slice al L.length cl).ownBlock = some b → b < wr.heap.size := fun b hb => (hlo.lt b hb).2
                    have HA4 : Hid (Far C g wk w4 ∧ w4.ownsRow (w.heap.size + 2) 39 2 (.slice (some ⟨g, 0, none⟩) M.length cm) M.length (X'.set (k * 2 + 1) (.slice al L.length cl)) ∧ w4.ownsRow wk.heap.size 56 4 (.slice al L.length cl) L.length (L.flatMap lnR) ∧ wA.grownBy w4 (some C) ∧ w4.heap[wr.heap.size]? = some (.cells #[.int .i64 0, .string ⟨#[]⟩, .int .i64 0, .int .i64 0] 56 (0, 0)) ∧ w4.ownsRow (C + 1) 9 1 (.slice an M.length cn) (M.map Md.name).length ((M.map Md.name).map strV) ∧ (∀ b, (Value.slice al L.length cl).ownBlock = some b → b < wr.heap.size)) := ⟨hF4, hX4, hl4o, hg04, hb4, hN4, hlb4⟩
                    have HLN : Hid (∀ l ∈ L, l.name.length ≤ 20) := hLn
                    clear hXo hlo hFk hcj hgj hF4 hX4 hl4o hg04 hb4 hN4 hlb4 hLn hg4
                    go_upto_block 8 with fail
                    go_cut [] (fun V => ∃ (op num : Int) (q : ByteArray), Swt C g k cm (n + 102 + 160 * k + 26 * (5 - (j - 1))) wr.heap.size w wA wk V M.length X' (.slice al L.length cl) L op num q)
                    case first =>
                      have hyg : y = 0 ∨ y = 1 ∨ y = 2 ∨ y = 3 ∨ y = 4 ∨ y = 5 ∨ y = 6 ∨ y = 7 ∨ y = 8 ∨ y = 9 ∨ y = 10 ∨ y = 11 := by omega
                      rcases hyg with rfl | rfl | rfl | rfl | rfl | rfl | rfl | rfl | rfl | rfl | rfl | rfl
                      · go_wp2_with fail
                        refine (pick_any C _ 9 _ hc4 (by omega) (by decide) (by decide)).mono ?_
                        rintro e w5 ⟨z, rfl, hz, hc5, hg5⟩
                        have hb5 : w5.heap[wr.heap.size]? = some (.cells #[.int .i64 0, .string ⟨#[]⟩, .int .i64 0, .int .i64 0] 56 (0, 0)) := (grown_keep hg5 (b := wr.heap.size) (by omega) (by intro e; simp at e; omega)).trans HA4.out.2.2.2.2.1
                        have p0 : w5.cell? ⟨wr.heap.size, 0, none⟩ = some (.int .i64 0) := by simp [World.cell?, hb5]
                        have p1 : w5.cell? ⟨wr.heap.size, 1, none⟩ = some (.string ⟨#[]⟩) := by simp [World.cell?, hb5]
                        have p2 : w5.cell? ⟨wr.heap.size, 2, none⟩ = some (.int .i64 0) := by simp [World.cell?, hb5]
                        have p3 : w5.cell? ⟨wr.heap.size, 3, none⟩ = some (.int .i64 0) := by simp [World.cell?, hb5]
                        have f0 : w5.frozen? ⟨wr.heap.size, 0, none⟩ = false := by simp [World.frozen?, hb5]
                        have f1 : w5.frozen? ⟨wr.heap.size, 1, none⟩ = false := by simp [World.frozen?, hb5]
                        have f2 : w5.frozen? ⟨wr.heap.size, 2, none⟩ = false := by simp [World.frozen?, hb5]
                        have f3 : w5.frozen? ⟨wr.heap.size, 3, none⟩ = false := by simp [World.frozen?, hb5]
                        have hSw := Swt.mk' (C := C) (g := g) (k := k) (cm := cm) (b0 := wr.heap.size) (w := w) (wA := wA) (wk := wk) (N := M.length) (X := X') (ls := .slice al L.length cl) (L := L) 1 (z : Int) ⟨#[]⟩ hb5 (HA4.out.1.grown hg5 (fun r e => by simp at e; omega)) (own_draw HA4.out.2.1 hg5 (by omega)) (own_draw HA4.out.2.2.1 hg5 (by omega)) HA4.out.2.2.2.2.2.2 hc5 (grown_trans HA4.out.2.2.2.1 hg5) hws hC (by omega) hwA (by decide)
                        have hSw2 : Swt C g k cm (n + 102 + 160 * k + 26 * (5 - (j - 1))) wr.heap.size w wA wk (set4 w5 wr.heap.size (.int .i64 1) (.string ⟨#[]⟩) (.int .i64 (z : Int)) (.int .i64 0)) M.length X' (.slice al L.length cl) L 1 (z : Int) ⟨#[]⟩ := ⟨hSw.box, hSw.far, hSw.xs, hSw.lns, hSw.cur.mono (by omega), hSw.gr, hSw.low, hSw.sz⟩
                        have HST : Hid (((((w5.setCell ⟨wr.heap.size, 0, none⟩ (.int .i64 1)).setCell ⟨wr.heap.size, 1, none⟩ (.string ⟨#[]⟩)).setCell ⟨wr.heap.size, 2, none⟩ (.int .i64 (z : Int))).setCell ⟨wr.heap.size, 3, none⟩ (.int .i64 0)) = set4 w5 wr.heap.size (.int .i64 1) (.string ⟨#[]⟩) (.int .i64 (z : Int)) (.int .i64 0)) := rfl
                        obtain ⟨V, hV⟩ : ∃ V, V = set4 w5 wr.heap.size (.int .i64 1) (.string ⟨#[]⟩) (.int .i64 (z : Int)) (.int .i64 0) := ⟨_, rfl⟩
                        rw [← hV] at HST hSw2
                        clear hSw hV hc5 hg5 hb5
                        go_wp2
                        rw [HST.out]
                        go_meet
                        exact ⟨_, _, _, hSw2⟩
                      · go_wp2_with fail
                        refine (pick_any C _ 9 _ hc4 (by omega) (by decide) (by decide)).mono ?_
                        rintro e w5 ⟨z, rfl, hz, hc5, hg5⟩
                        have hb5 : w5.heap[wr.heap.size]? = some (.cells #[.int .i64 0, .string ⟨#[]⟩, .int .i64 0, .int .i64 0] 56 (0, 0)) := (grown_keep hg5 (b := wr.heap.size) (by omega) (by intro e; simp at e; omega)).trans HA4.out.2.2.2.2.1
                        have p0 : w5.cell? ⟨wr.heap.size, 0, none⟩ = some (.int .i64 0) := by simp [World.cell?, hb5]
                        have p1 : w5.cell? ⟨wr.heap.size, 1, none⟩ = some (.string ⟨#[]⟩) := by simp [World.cell?, hb5]
                        have p2 : w5.cell? ⟨wr.heap.size, 2, none⟩ = some (.int .i64 0) := by simp [World.cell?, hb5]
                        have p3 : w5.cell? ⟨wr.heap.size, 3, none⟩ = some (.int .i64 0) := by simp [World.cell?, hb5]
                        have f0 : w5.frozen? ⟨wr.heap.size, 0, none⟩ = false := by simp [World.frozen?, hb5]
                        have f1 : w5.frozen? ⟨wr.heap.size, 1, none⟩ = false := by simp [World.frozen?, hb5]
                        have f2 : w5.frozen? ⟨wr.heap.size, 2, none⟩ = false := by simp [World.frozen?, hb5]
                        have f3 : w5.frozen? ⟨wr.heap.size, 3, none⟩ = false := by simp [World.frozen?, hb5]
                        have hSw := Swt.mk' (C := C) (g := g) (k := k) (cm := cm) (b0 := wr.heap.size) (w := w) (wA := wA) (wk := wk) (N := M.length) (X := X') (ls := .slice al L.length cl) (L := L) 1 (z : Int) ⟨#[]⟩ hb5 (HA4.out.1.grown hg5 (fun r e => by simp at e; omega)) (own_draw HA4.out.2.1 hg5 (by omega)) (own_draw HA4.out.2.2.1 hg5 (by omega)) HA4.out.2.2.2.2.2.2 hc5 (grown_trans HA4.out.2.2.2.1 hg5) hws hC (by omega) hwA (by decide)
                        have hSw2 : Swt C g k cm (n + 102 + 160 * k + 26 * (5 - (j - 1))) wr.heap.size w wA wk (set4 w5 wr.heap.size (.int .i64 1) (.string ⟨#[]⟩) (.int .i64 (z : Int)) (.int .i64 0)) M.length X' (.slice al L.length cl) L 1 (z : Int) ⟨#[]⟩ := ⟨hSw.box, hSw.far, hSw.xs, hSw.lns, hSw.cur.mono (by omega), hSw.gr, hSw.low, hSw.sz⟩
                        have HST : Hid (((((w5.setCell ⟨wr.heap.size, 0, none⟩ (.int .i64 1)).setCell ⟨wr.heap.size, 1, none⟩ (.string ⟨#[]⟩)).setCell ⟨wr.heap.size, 2, none⟩ (.int .i64 (z : Int))).setCell ⟨wr.heap.size, 3, none⟩ (.int .i64 0)) = set4 w5 wr.heap.size (.int .i64 1) (.string ⟨#[]⟩) (.int .i64 (z : Int)) (.int .i64 0)) := rfl
                        obtain ⟨V, hV⟩ : ∃ V, V = set4 w5 wr.heap.size (.int .i64 1) (.string ⟨#[]⟩) (.int .i64 (z : Int)) (.int .i64 0) := ⟨_, rfl⟩
                        rw [← hV] at HST hSw2
                        clear hSw hV hc5 hg5 hb5
                        go_wp2
                        rw [HST.out]
                        go_meet
                        exact ⟨_, _, _, hSw2⟩
                      · go_wp2_with fail
                        refine (pick_any C _ 99 _ hc4 (by omega) (by decide) (by decide)).mono ?_
                        rintro e w5 ⟨z, rfl, hz, hc5, hg5⟩
                        have hb5 : w5.heap[wr.heap.size]? = some (.cells #[.int .i64 0, .string ⟨#[]⟩, .int .i64 0, .int .i64 0] 56 (0, 0)) := (grown_keep hg5 (b := wr.heap.size) (by omega) (by intro e; simp at e; omega)).trans HA4.out.2.2.2.2.1
                        have p0 : w5.cell? ⟨wr.heap.size, 0, none⟩ = some (.int .i64 0) := by simp [World.cell?, hb5]
                        have p1 : w5.cell? ⟨wr.heap.size, 1, none⟩ = some (.string ⟨#[]⟩) := by simp [World.cell?, hb5]
                        have p2 : w5.cell? ⟨wr.heap.size, 2, none⟩ = some (.int .i64 0) := by simp [World.cell?, hb5]
                        have p3 : w5.cell? ⟨wr.heap.size, 3, none⟩ = some (.int .i64 0) := by simp [World.cell?, hb5]
                        have f0 : w5.frozen? ⟨wr.heap.size, 0, none⟩ = false := by simp [World.frozen?, hb5]
                        have f1 : w5.frozen? ⟨wr.heap.size, 1, none⟩ = false := by simp [World.frozen?, hb5]
                        have f2 : w5.frozen? ⟨wr.heap.size, 2, none⟩ = false := by simp [World.frozen?, hb5]
                        have f3 : w5.frozen? ⟨wr.heap.size, 3, none⟩ = false := by simp [World.frozen?, hb5]
                        have hSw := Swt.mk' (C := C) (g := g) (k := k) (cm := cm) (b0 := wr.heap.size) (w := w) (wA := wA) (wk := wk) (N := M.length) (X := X') (ls := .slice al L.length cl) (L := L) 2 (z : Int) ⟨#[]⟩ hb5 (HA4.out.1.grown hg5 (fun r e => by simp at e; omega)) (own_draw HA4.out.2.1 hg5 (by omega)) (own_draw HA4.out.2.2.1 hg5 (by omega)) HA4.out.2.2.2.2.2.2 hc5 (grown_trans HA4.out.2.2.2.1 hg5) hws hC (by omega) hwA (by decide)
                        have hSw2 : Swt C g k cm (n + 102 + 160 * k + 26 * (5 - (j - 1))) wr.heap.size w wA wk (set4 w5 wr.heap.size (.int .i64 2) (.string ⟨#[]⟩) (.int .i64 (z : Int)) (.int .i64 0)) M.length X' (.slice al L.length cl) L 2 (z : Int) ⟨#[]⟩ := ⟨hSw.box, hSw.far, hSw.xs, hSw.lns, hSw.cur.mono (by omega), hSw.gr, hSw.low, hSw.sz⟩
                        have HST : Hid (((((w5.setCell ⟨wr.heap.size, 0, none⟩ (.int .i64 2)).setCell ⟨wr.heap.size, 1, none⟩ (.string ⟨#[]⟩)).setCell ⟨wr.heap.size, 2, none⟩ (.int .i64 (z : Int))).setCell ⟨wr.heap.size, 3, none⟩ (.int .i64 0)) = set4 w5 wr.heap.size (.int .i64 2) (.string ⟨#[]⟩) (.int .i64 (z : Int)) (.int .i64 0)) := rfl
                        obtain ⟨V, hV⟩ : ∃ V, V = set4 w5 wr.heap.size (.int .i64 2) (.string ⟨#[]⟩) (.int .i64 (z : Int)) (.int .i64 0) := ⟨_, rfl⟩
                        rw [← hV] at HST hSw2
                        clear hSw hV hc5 hg5 hb5
                        go_wp2
                        rw [HST.out]
                        go_meet
                        exact ⟨_, _, _, hSw2⟩
                      · go_wp2_with fail
                        refine (askN_any C _ _ (M.map Md.name) _ hc4 (by omega) HA4.out.2.2.2.2.2.1 (fun l hl => by obtain ⟨m, hm, rfl⟩ := List.mem_map.1 hl; exact (HM.out.1 m hm).1) (by rw [List.length_map]; omega)).mono ?_
                        rintro e w5 ⟨qa, rfl, hqa, hc5, hg5⟩
                        have hb5 : w5.heap[wr.heap.size]? = some (.cells #[.int .i64 0, .string ⟨#[]⟩, .int .i64 0, .int .i64 0] 56 (0, 0)) := (grown_keep hg5 (b := wr.heap.size) (by omega) (by intro e; simp at e; omega)).trans HA4.out.2.2.2.2.1
                        have p0 : w5.cell? ⟨wr.heap.size, 0, none⟩ = some (.int .i64 0) := by simp [World.cell?, hb5]
                        have p1 : w5.cell? ⟨wr.heap.size, 1, none⟩ = some (.string ⟨#[]⟩) := by simp [World.cell?, hb5]
                        have p2 : w5.cell? ⟨wr.heap.size, 2, none⟩ = some (.int .i64 0) := by simp [World.cell?, hb5]
                        have p3 : w5.cell? ⟨wr.heap.size, 3, none⟩ = some (.int .i64 0) := by simp [World.cell?, hb5]
                        have f0 : w5.frozen? ⟨wr.heap.size, 0, none⟩ = false := by simp [World.frozen?, hb5]
                        have f1 : w5.frozen? ⟨wr.heap.size, 1, none⟩ = false := by simp [World.frozen?, hb5]
                        have f2 : w5.frozen? ⟨wr.heap.size, 2, none⟩ = false := by simp [World.frozen?, hb5]
                        have f3 : w5.frozen? ⟨wr.heap.size, 3, none⟩ = false := by simp [World.frozen?, hb5]
                        have hSw := Swt.mk' (C := C) (g := g) (k := k) (cm := cm) (b0 := wr.heap.size) (w := w) (wA := wA) (wk := wk) (N := M.length) (X := X') (ls := .slice al L.length cl) (L := L) 3 0 qa hb5 (HA4.out.1.grown hg5 (fun r e => by simp at e; omega)) (own_draw HA4.out.2.1 hg5 (by omega)) (own_draw HA4.out.2.2.1 hg5 (by omega)) HA4.out.2.2.2.2.2.2 hc5 (grown_trans HA4.out.2.2.2.1 hg5) hws hC (by omega) hwA hqa
                        have hSw2 : Swt C g k cm (n + 102 + 160 * k + 26 * (5 - (j - 1))) wr.heap.size w wA wk (set4 w5 wr.heap.size (.int .i64 3) (.string qa) (.int .i64 0) (.int .i64 0)) M.length X' (.slice al L.length cl) L 3 0 qa := ⟨hSw.box, hSw.far, hSw.xs, hSw.lns, hSw.cur.mono (by omega), hSw.gr, hSw.low, hSw.sz⟩
                        have HST : Hid (((((w5.setCell ⟨wr.heap.size, 0, none⟩ (.int .i64 3)).setCell ⟨wr.heap.size, 1, none⟩ (.string qa)).setCell ⟨wr.heap.size, 2, none⟩ (.int .i64 0)).setCell ⟨wr.heap.size, 3, none⟩ (.int .i64 0)) = set4 w5 wr.heap.size (.int .i64 3) (.string qa) (.int .i64 0) (.int .i64 0)) := rfl
                        obtain ⟨V, hV⟩ : ∃ V, V = set4 w5 wr.heap.size (.int .i64 3) (.string qa) (.int .i64 0) (.int .i64 0) := ⟨_, rfl⟩
                        rw [← hV] at HST hSw2
                        clear hSw hV hc5 hg5 hb5
                        go_wp2
                        rw [HST.out]
                        go_meet
                        exact ⟨_, _, _, hSw2⟩
                      · go_wp2_with fail
                        refine (askN_any C _ _ (M.map Md.name) _ hc4 (by omega) HA4.out.2.2.2.2.2.1 (fun l hl => by obtain ⟨m, hm, rfl⟩ := List.mem_map.1 hl; exact (HM.out.1 m hm).1) (by rw [List.length_map]; omega)).mono ?_
                        rintro e w5 ⟨qa, rfl, hqa, hc5, hg5⟩
                        have hb5 : w5.heap[wr.heap.size]? = some (.cells #[.int .i64 0, .string ⟨#[]⟩, .int .i64 0, .int .i64 0] 56 (0, 0)) := (grown_keep hg5 (b := wr.heap.size) (by omega) (by intro e; simp at e; omega)).trans HA4.out.2.2.2.2.1
                        have p0 : w5.cell? ⟨wr.heap.size, 0, none⟩ = some (.int .i64 0) := by simp [World.cell?, hb5]
                        have p1 : w5.cell? ⟨wr.heap.size, 1, none⟩ = some (.string ⟨#[]⟩) := by simp [World.cell?, hb5]
                        have p2 : w5.cell? ⟨wr.heap.size, 2, none⟩ = some (.int .i64 0) := by simp [World.cell?, hb5]
                        have p3 : w5.cell? ⟨wr.heap.size, 3, none⟩ = some (.int .i64 0) := by simp [World.cell?, hb5]
                        have f0 : w5.frozen? ⟨wr.heap.size, 0, none⟩ = false := by simp [World.frozen?, hb5]
                        have f1 : w5.frozen? ⟨wr.heap.size, 1, none⟩ = false := by simp [World.frozen?, hb5]
                        have f2 : w5.frozen? ⟨wr.heap.size, 2, none⟩ = false := by simp [World.frozen?, hb5]
                        have f3 : w5.frozen? ⟨wr.heap.size, 3, none⟩ = false := by simp [World.frozen?, hb5]
                        have hSw := Swt.mk' (C := C) (g := g) (k := k) (cm := cm) (b0 := wr.heap.size) (w := w) (wA := wA) (wk := wk) (N := M.length) (X := X') (ls := .slice al L.length cl) (L := L) 3 0 qa hb5 (HA4.out.1.grown hg5 (fun r e => by simp at e; omega)) (own_draw HA4.out.2.1 hg5 (by omega)) (own_draw HA4.out.2.2.1 hg5 (by omega)) HA4.out.2.2.2.2.2.2 hc5 (grown_trans HA4.out.2.2.2.1 hg5) hws hC (by omega) hwA hqa
                        have hSw2 : Swt C g k cm (n + 102 + 160 * k + 26 * (5 - (j - 1))) wr.heap.size w wA wk (set4 w5 wr.heap.size (.int .i64 3) (.string qa) (.int .i64 0) (.int .i64 0)) M.length X' (.slice al L.length cl) L 3 0 qa := ⟨hSw.box, hSw.far, hSw.xs, hSw.lns, hSw.cur.mono (by omega), hSw.gr, hSw.low, hSw.sz⟩
                        have HST : Hid (((((w5.setCell ⟨wr.heap.size, 0, none⟩ (.int .i64 3)).setCell ⟨wr.heap.size, 1, none⟩ (.string qa)).setCell ⟨wr.heap.size, 2, none⟩ (.int .i64 0)).setCell ⟨wr.heap.size, 3, none⟩ (.int .i64 0)) = set4 w5 wr.heap.size (.int .i64 3) (.string qa) (.int .i64 0) (.int .i64 0)) := rfl
                        obtain ⟨V, hV⟩ : ∃ V, V = set4 w5 wr.heap.size (.int .i64 3) (.string qa) (.int .i64 0) (.int .i64 0) := ⟨_, rfl⟩
                        rw [← hV] at HST hSw2
                        clear hSw hV hc5 hg5 hb5
                        go_wp2
                        rw [HST.out]
                        go_meet
                        exact ⟨_, _, _, hSw2⟩
                      · go_wp2_with fail
                        refine (askN_any C _ _ (M.map Md.name) _ hc4 (by omega) HA4.out.2.2.2.2.2.1 (fun l hl => by obtain ⟨m, hm, rfl⟩ := List.mem_map.1 hl; exact (HM.out.1 m hm).1) (by rw [List.length_map]; omega)).mono ?_
                        rintro e w5 ⟨qa, rfl, hqa, hc5, hg5⟩
                        have hb5 : w5.heap[wr.heap.size]? = some (.cells #[.int .i64 0, .string ⟨#[]⟩, .int .i64 0, .int .i64 0] 56 (0, 0)) := (grown_keep hg5 (b := wr.heap.size) (by omega) (by intro e; simp at e; omega)).trans HA4.out.2.2.2.2.1
                        have p0 : w5.cell? ⟨wr.heap.size, 0, none⟩ = some (.int .i64 0) := by simp [World.cell?, hb5]
                        have p1 : w5.cell? ⟨wr.heap.size, 1, none⟩ = some (.string ⟨#[]⟩) := by simp [World.cell?, hb5]
                        have p2 : w5.cell? ⟨wr.heap.size, 2, none⟩ = some (.int .i64 0) := by simp [World.cell?, hb5]
                        have p3 : w5.cell? ⟨wr.heap.size, 3, none⟩ = some (.int .i64 0) := by simp [World.cell?, hb5]
                        have f0 : w5.frozen? ⟨wr.heap.size, 0, none⟩ = false := by simp [World.frozen?, hb5]
                        have f1 : w5.frozen? ⟨wr.heap.size, 1, none⟩ = false := by simp [World.frozen?, hb5]
                        have f2 : w5.frozen? ⟨wr.heap.size, 2, none⟩ = false := by simp [World.frozen?, hb5]
                        have f3 : w5.frozen? ⟨wr.heap.size, 3, none⟩ = false := by simp [World.frozen?, hb5]
                        have hSw := Swt.mk' (C := C) (g := g) (k := k) (cm := cm) (b0 := wr.heap.size) (w := w) (wA := wA) (wk := wk) (N := M.length) (X := X') (ls := .slice al L.length cl) (L := L) 3 0 qa hb5 (HA4.out.1.grown hg5 (fun r e => by simp at e; omega)) (own_draw HA4.out.2.1 hg5 (by omega)) (own_draw HA4.out.2.2.1 hg5 (by omega)) HA4.out.2.2.2.2.2.2 hc5 (grown_trans HA4.out.2.2.2.1 hg5) hws hC (by omega) hwA hqa
                        have hSw2 : Swt C g k cm (n + 102 + 160 * k + 26 * (5 - (j - 1))) wr.heap.size w wA wk (set4 w5 wr.heap.size (.int .i64 3) (.string qa) (.int .i64 0) (.int .i64 0)) M.length X' (.slice al L.length cl) L 3 0 qa := ⟨hSw.box, hSw.far, hSw.xs, hSw.lns, hSw.cur.mono (by omega), hSw.gr, hSw.low, hSw.sz⟩
                        have HST : Hid (((((w5.setCell ⟨wr.heap.size, 0, none⟩ (.int .i64 3)).setCell ⟨wr.heap.size, 1, none⟩ (.string qa)).setCell ⟨wr.heap.size, 2, none⟩ (.int .i64 0)).setCell ⟨wr.heap.size, 3, none⟩ (.int .i64 0)) = set4 w5 wr.heap.size (.int .i64 3) (.string qa) (.int .i64 0) (.int .i64 0)) := rfl
                        obtain ⟨V, hV⟩ : ∃ V, V = set4 w5 wr.heap.size (.int .i64 3) (.string qa) (.int .i64 0) (.int .i64 0) := ⟨_, rfl⟩
                        rw [← hV] at HST hSw2
                        clear hSw hV hc5 hg5 hb5
                        go_wp2
                        rw [HST.out]
                        go_meet
                        exact ⟨_, _, _, hSw2⟩
                      · go_wp2_with fail
                        refine (askN_any C _ _ (M.map Md.name) _ hc4 (by omega) HA4.out.2.2.2.2.2.1 (fun l hl => by obtain ⟨m, hm, rfl⟩ := List.mem_map.1 hl; exact (HM.out.1 m hm).1) (by rw [List.length_map]; omega)).mono ?_
                        rintro e w5 ⟨qa, rfl, hqa, hc5, hg5⟩
                        have hb5 : w5.heap[wr.heap.size]? = some (.cells #[.int .i64 0, .string ⟨#[]⟩, .int .i64 0, .int .i64 0] 56 (0, 0)) := (grown_keep hg5 (b := wr.heap.size) (by omega) (by intro e; simp at e; omega)).trans HA4.out.2.2.2.2.1
                        have p0 : w5.cell? ⟨wr.heap.size, 0, none⟩ = some (.int .i64 0) := by simp [World.cell?, hb5]
                        have p1 : w5.cell? ⟨wr.heap.size, 1, none⟩ = some (.string ⟨#[]⟩) := by simp [World.cell?, hb5]
                        have p2 : w5.cell? ⟨wr.heap.size, 2, none⟩ = some (.int .i64 0) := by simp [World.cell?, hb5]
                        have p3 : w5.cell? ⟨wr.heap.size, 3, none⟩ = some (.int .i64 0) := by simp [World.cell?, hb5]
                        have f0 : w5.frozen? ⟨wr.heap.size, 0, none⟩ = false := by simp [World.frozen?, hb5]
                        have f1 : w5.frozen? ⟨wr.heap.size, 1, none⟩ = false := by simp [World.frozen?, hb5]
                        have f2 : w5.frozen? ⟨wr.heap.size, 2, none⟩ = false := by simp [World.frozen?, hb5]
                        have f3 : w5.frozen? ⟨wr.heap.size, 3, none⟩ = false := by simp [World.frozen?, hb5]
                        have hSw := Swt.mk' (C := C) (g := g) (k := k) (cm := cm) (b0 := wr.heap.size) (w := w) (wA := wA) (wk := wk) (N := M.length) (X := X') (ls := .slice al L.length cl) (L := L) 3 0 qa hb5 (HA4.out.1.grown hg5 (fun r e => by simp at e; omega)) (own_draw HA4.out.2.1 hg5 (by omega)) (own_draw HA4.out.2.2.1 hg5 (by omega)) HA4.out.2.2.2.2.2.2 hc5 (grown_trans HA4.out.2.2.2.1 hg5) hws hC (by omega) hwA hqa
                        have hSw2 : Swt C g k cm (n + 102 + 160 * k + 26 * (5 - (j - 1))) wr.heap.size w wA wk (set4 w5 wr.heap.size (.int .i64 3) (.string qa) (.int .i64 0) (.int .i64 0)) M.length X' (.slice al L.length cl) L 3 0 qa := ⟨hSw.box, hSw.far, hSw.xs, hSw.lns, hSw.cur.mono (by omega), hSw.gr, hSw.low, hSw.sz⟩
                        have HST : Hid (((((w5.setCell ⟨wr.heap.size, 0, none⟩ (.int .i64 3)).setCell ⟨wr.heap.size, 1, none⟩ (.string qa)).setCell ⟨wr.heap.size, 2, none⟩ (.int .i64 0)).setCell ⟨wr.heap.size, 3, none⟩ (.int .i64 0)) = set4 w5 wr.heap.size (.int .i64 3) (.string qa) (.int .i64 0) (.int .i64 0)) := rfl
                        obtain ⟨V, hV⟩ : ∃ V, V = set4 w5 wr.heap.size (.int .i64 3) (.string qa) (.int .i64 0) (.int .i64 0) := ⟨_, rfl⟩
                        rw [← hV] at HST hSw2
                        clear hSw hV hc5 hg5 hb5
                        go_wp2
                        rw [HST.out]
                        go_meet
                        exact ⟨_, _, _, hSw2⟩
                      · go_wp2_with fail
                        refine (askN_any C _ _ (M.map Md.name) _ hc4 (by omega) HA4.out.2.2.2.2.2.1 (fun l hl => by obtain ⟨m, hm, rfl⟩ := List.mem_map.1 hl; exact (HM.out.1 m hm).1) (by rw [List.length_map]; omega)).mono ?_
                        rintro e w5 ⟨qa, rfl, hqa, hc5, hg5⟩
                        have hb5 : w5.heap[wr.heap.size]? = some (.cells #[.int .i64 0, .string ⟨#[]⟩, .int .i64 0, .int .i64 0] 56 (0, 0)) := (grown_keep hg5 (b := wr.heap.size) (by omega) (by intro e; simp at e; omega)).trans HA4.out.2.2.2.2.1
                        have p0 : w5.cell? ⟨wr.heap.size, 0, none⟩ = some (.int .i64 0) := by simp [World.cell?, hb5]
                        have p1 : w5.cell? ⟨wr.heap.size, 1, none⟩ = some (.string ⟨#[]⟩) := by simp [World.cell?, hb5]
                        have p2 : w5.cell? ⟨wr.heap.size, 2, none⟩ = some (.int .i64 0) := by simp [World.cell?, hb5]
                        have p3 : w5.cell? ⟨wr.heap.size, 3, none⟩ = some (.int .i64 0) := by simp [World.cell?, hb5]
                        have f0 : w5.frozen? ⟨wr.heap.size, 0, none⟩ = false := by simp [World.frozen?, hb5]
                        have f1 : w5.frozen? ⟨wr.heap.size, 1, none⟩ = false := by simp [World.frozen?, hb5]
                        have f2 : w5.frozen? ⟨wr.heap.size, 2, none⟩ = false := by simp [World.frozen?, hb5]
                        have f3 : w5.frozen? ⟨wr.heap.size, 3, none⟩ = false := by simp [World.frozen?, hb5]
                        have hSw := Swt.mk' (C := C) (g := g) (k := k) (cm := cm) (b0 := wr.heap.size) (w := w) (wA := wA) (wk := wk) (N := M.length) (X := X') (ls := .slice al L.length cl) (L := L) 4 0 qa hb5 (HA4.out.1.grown hg5 (fun r e => by simp at e; omega)) (own_draw HA4.out.2.1 hg5 (by omega)) (own_draw HA4.out.2.2.1 hg5 (by omega)) HA4.out.2.2.2.2.2.2 hc5 (grown_trans HA4.out.2.2.2.1 hg5) hws hC (by omega) hwA hqa
                        have hSw2 : Swt C g k cm (n + 102 + 160 * k + 26 * (5 - (j - 1))) wr.heap.size w wA wk (set4 w5 wr.heap.size (.int .i64 4) (.string qa) (.int .i64 0) (.int .i64 0)) M.length X' (.slice al L.length cl) L 4 0 qa := ⟨hSw.box, hSw.far, hSw.xs, hSw.lns, hSw.cur.mono (by omega), hSw.gr, hSw.low, hSw.sz⟩
                        have HST : Hid (((((w5.setCell ⟨wr.heap.size, 0, none⟩ (.int .i64 4)).setCell ⟨wr.heap.size, 1, none⟩ (.string qa)).setCell ⟨wr.heap.size, 2, none⟩ (.int .i64 0)).setCell ⟨wr.heap.size, 3, none⟩ (.int .i64 0)) = set4 w5 wr.heap.size (.int .i64 4) (.string qa) (.int .i64 0) (.int .i64 0)) := rfl
                        obtain ⟨V, hV⟩ : ∃ V, V = set4 w5 wr.heap.size (.int .i64 4) (.string qa) (.int .i64 0) (.int .i64 0) := ⟨_, rfl⟩
                        rw [← hV] at HST hSw2
                        clear hSw hV hc5 hg5 hb5
                        go_wp2
                        rw [HST.out]
                        go_meet
                        exact ⟨_, _, _, hSw2⟩
                      · go_wp2_with fail
                        refine (askN_any C _ _ (M.map Md.name) _ hc4 (by omega) HA4.out.2.2.2.2.2.1 (fun l hl => by obtain ⟨m, hm, rfl⟩ := List.mem_map.1 hl; exact (HM.out.1 m hm).1) (by rw [List.length_map]; omega)).mono ?_
                        rintro e w5 ⟨qa, rfl, hqa, hc5, hg5⟩
                        have hb5 : w5.heap[wr.heap.size]? = some (.cells #[.int .i64 0, .string ⟨#[]⟩, .int .i64 0, .int .i64 0] 56 (0, 0)) := (grown_keep hg5 (b := wr.heap.size) (by omega) (by intro e; simp at e; omega)).trans HA4.out.2.2.2.2.1
                        have p0 : w5.cell? ⟨wr.heap.size, 0, none⟩ = some (.int .i64 0) := by simp [World.cell?, hb5]
                        have p1 : w5.cell? ⟨wr.heap.size, 1, none⟩ = some (.string ⟨#[]⟩) := by simp [World.cell?, hb5]
                        have p2 : w5.cell? ⟨wr.heap.size, 2, none⟩ = some (.int .i64 0) := by simp [World.cell?, hb5]
                        have p3 : w5.cell? ⟨wr.heap.size, 3, none⟩ = some (.int .i64 0) := by simp [World.cell?, hb5]
                        have f0 : w5.frozen? ⟨wr.heap.size, 0, none⟩ = false := by simp [World.frozen?, hb5]
                        have f1 : w5.frozen? ⟨wr.heap.size, 1, none⟩ = false := by simp [World.frozen?, hb5]
                        have f2 : w5.frozen? ⟨wr.heap.size, 2, none⟩ = false := by simp [World.frozen?, hb5]
                        have f3 : w5.frozen? ⟨wr.heap.size, 3, none⟩ = false := by simp [World.frozen?, hb5]
                        have hSw := Swt.mk' (C := C) (g := g) (k := k) (cm := cm) (b0 := wr.heap.size) (w := w) (wA := wA) (wk := wk) (N := M.length) (X := X') (ls := .slice al L.length cl) (L := L) 4 0 qa hb5 (HA4.out.1.grown hg5 (fun r e => by simp at e; omega)) (own_draw HA4.out.2.1 hg5 (by omega)) (own_draw HA4.out.2.2.1 hg5 (by omega)) HA4.out.2.2.2.2.2.2 hc5 (grown_trans HA4.out.2.2.2.1 hg5) hws hC (by omega) hwA hqa
                        have hSw2 : Swt C g k cm (n + 102 + 160 * k + 26 * (5 - (j - 1))) wr.heap.size w wA wk (set4 w5 wr.heap.size (.int .i64 4) (.string qa) (.int .i64 0) (.int .i64 0)) M.length X' (.slice al L.length cl) L 4 0 qa := ⟨hSw.box, hSw.far, hSw.xs, hSw.lns, hSw.cur.mono (by omega), hSw.gr, hSw.low, hSw.sz⟩
                        have HST : Hid (((((w5.setCell ⟨wr.heap.size, 0, none⟩ (.int .i64 4)).setCell ⟨wr.heap.size, 1, none⟩ (.string qa)).setCell ⟨wr.heap.size, 2, none⟩ (.int .i64 0)).setCell ⟨wr.heap.size, 3, none⟩ (.int .i64 0)) = set4 w5 wr.heap.size (.int .i64 4) (.string qa) (.int .i64 0) (.int .i64 0)) := rfl
                        obtain ⟨V, hV⟩ : ∃ V, V = set4 w5 wr.heap.size (.int .i64 4) (.string qa) (.int .i64 0) (.int .i64 0) := ⟨_, rfl⟩
                        rw [← hV] at HST hSw2
                        clear hSw hV hc5 hg5 hb5
                        go_wp2
                        rw [HST.out]
                        go_meet
                        exact ⟨_, _, _, hSw2⟩
                      · go_wp2_with fail
                        refine (askN_any C _ _ (M.map Md.name) _ hc4 (by omega) HA4.out.2.2.2.2.2.1 (fun l hl => by obtain ⟨m, hm, rfl⟩ := List.mem_map.1 hl; exact (HM.out.1 m hm).1) (by rw [List.length_map]; omega)).mono ?_
                        rintro e w5 ⟨qa, rfl, hqa, hc5, hg5⟩
                        have hb5 : w5.heap[wr.heap.size]? = some (.cells #[.int .i64 0, .string ⟨#[]⟩, .int .i64 0, .int .i64 0] 56 (0, 0)) := (grown_keep hg5 (b := wr.heap.size) (by omega) (by intro e; simp at e; omega)).trans HA4.out.2.2.2.2.1
                        have p0 : w5.cell? ⟨wr.heap.size, 0, none⟩ = some (.int .i64 0) := by simp [World.cell?, hb5]
                        have p1 : w5.cell? ⟨wr.heap.size, 1, none⟩ = some (.string ⟨#[]⟩) := by simp [World.cell?, hb5]
                        have p2 : w5.cell? ⟨wr.heap.size, 2, none⟩ = some (.int .i64 0) := by simp [World.cell?, hb5]
                        have p3 : w5.cell? ⟨wr.heap.size, 3, none⟩ = some (.int .i64 0) := by simp [World.cell?, hb5]
                        have f0 : w5.frozen? ⟨wr.heap.size, 0, none⟩ = false := by simp [World.frozen?, hb5]
                        have f1 : w5.frozen? ⟨wr.heap.size, 1, none⟩ = false := by simp [World.frozen?, hb5]
                        have f2 : w5.frozen? ⟨wr.heap.size, 2, none⟩ = false := by simp [World.frozen?, hb5]
                        have f3 : w5.frozen? ⟨wr.heap.size, 3, none⟩ = false := by simp [World.frozen?, hb5]
                        have hSw := Swt.mk' (C := C) (g := g) (k := k) (cm := cm) (b0 := wr.heap.size) (w := w) (wA := wA) (wk := wk) (N := M.length) (X := X') (ls := .slice al L.length cl) (L := L) 5 0 qa hb5 (HA4.out.1.grown hg5 (fun r e => by simp at e; omega)) (own_draw HA4.out.2.1 hg5 (by omega)) (own_draw HA4.out.2.2.1 hg5 (by omega)) HA4.out.2.2.2.2.2.2 hc5 (grown_trans HA4.out.2.2.2.1 hg5) hws hC (by omega) hwA hqa
                        have hSw2 : Swt C g k cm (n + 102 + 160 * k + 26 * (5 - (j - 1))) wr.heap.size w wA wk (set4 w5 wr.heap.size (.int .i64 5) (.string qa) (.int .i64 0) (.int .i64 0)) M.length X' (.slice al L.length cl) L 5 0 qa := ⟨hSw.box, hSw.far, hSw.xs, hSw.lns, hSw.cur.mono (by omega), hSw.gr, hSw.low, hSw.sz⟩
                        have HST : Hid (((((w5.setCell ⟨wr.heap.size, 0, none⟩ (.int .i64 5)).setCell ⟨wr.heap.size, 1, none⟩ (.string qa)).setCell ⟨wr.heap.size, 2, none⟩ (.int .i64 0)).setCell ⟨wr.heap.size, 3, none⟩ (.int .i64 0)) = set4 w5 wr.heap.size (.int .i64 5) (.string qa) (.int .i64 0) (.int .i64 0)) := rfl
                        obtain ⟨V, hV⟩ : ∃ V, V = set4 w5 wr.heap.size (.int .i64 5) (.string qa) (.int .i64 0) (.int .i64 0) := ⟨_, rfl⟩
                        rw [← hV] at HST hSw2
                        clear hSw hV hc5 hg5 hb5
                        go_wp2
                        rw [HST.out]
                        go_meet
                        exact ⟨_, _, _, hSw2⟩
                      · go_wp2_with fail
                        refine (askN_any C _ _ (M.map Md.name) _ hc4 (by omega) HA4.out.2.2.2.2.2.1 (fun l hl => by obtain ⟨m, hm, rfl⟩ := List.mem_map.1 hl; exact (HM.out.1 m hm).1) (by rw [List.length_map]; omega)).mono ?_
                        rintro e w5 ⟨qa, rfl, hqa, hc5, hg5⟩
                        have hb5 : w5.heap[wr.heap.size]? = some (.cells #[.int .i64 0, .string ⟨#[]⟩, .int .i64 0, .int .i64 0] 56 (0, 0)) := (grown_keep hg5 (b := wr.heap.size) (by omega) (by intro e; simp at e; omega)).trans HA4.out.2.2.2.2.1
                        have p0 : w5.cell? ⟨wr.heap.size, 0, none⟩ = some (.int .i64 0) := by simp [World.cell?, hb5]
                        have p1 : w5.cell? ⟨wr.heap.size, 1, none⟩ = some (.string ⟨#[]⟩) := by simp [World.cell?, hb5]
                        have p2 : w5.cell? ⟨wr.heap.size, 2, none⟩ = some (.int .i64 0) := by simp [World.cell?, hb5]
                        have p3 : w5.cell? ⟨wr.heap.size, 3, none⟩ = some (.int .i64 0) := by simp [World.cell?, hb5]
                        have f0 : w5.frozen? ⟨wr.heap.size, 0, none⟩ = false := by simp [World.frozen?, hb5]
                        have f1 : w5.frozen? ⟨wr.heap.size, 1, none⟩ = false := by simp [World.frozen?, hb5]
                        have f2 : w5.frozen? ⟨wr.heap.size, 2, none⟩ = false := by simp [World.frozen?, hb5]
                        have f3 : w5.frozen? ⟨wr.heap.size, 3, none⟩ = false := by simp [World.frozen?, hb5]
                        have hSw := Swt.mk' (C := C) (g := g) (k := k) (cm := cm) (b0 := wr.heap.size) (w := w) (wA := wA) (wk := wk) (N := M.length) (X := X') (ls := .slice al L.length cl) (L := L) 7 0 qa hb5 (HA4.out.1.grown hg5 (fun r e => by simp at e; omega)) (own_draw HA4.out.2.1 hg5 (by omega)) (own_draw HA4.out.2.2.1 hg5 (by omega)) HA4.out.2.2.2.2.2.2 hc5 (grown_trans HA4.out.2.2.2.1 hg5) hws hC (by omega) hwA hqa
                        have hSw2 : Swt C g k cm (n + 102 + 160 * k + 26 * (5 - (j - 1))) wr.heap.size w wA wk (set4 w5 wr.heap.size (.int .i64 7) (.string qa) (.int .i64 0) (.int .i64 0)) M.length X' (.slice al L.length cl) L 7 0 qa := ⟨hSw.box, hSw.far, hSw.xs, hSw.lns, hSw.cur.mono (by omega), hSw.gr, hSw.low, hSw.sz⟩
                        have HST : Hid (((((w5.setCell ⟨wr.heap.size, 0, none⟩ (.int .i64 7)).setCell ⟨wr.heap.size, 1, none⟩ (.string qa)).setCell ⟨wr.heap.size, 2, none⟩ (.int .i64 0)).setCell ⟨wr.heap.size, 3, none⟩ (.int .i64 0)) = set4 w5 wr.heap.size (.int .i64 7) (.string qa) (.int .i64 0) (.int .i64 0)) := rfl
                        obtain ⟨V, hV⟩ : ∃ V, V = set4 w5 wr.heap.size (.int .i64 7) (.string qa) (.int .i64 0) (.int .i64 0) := ⟨_, rfl⟩
                        rw [← hV] at HST hSw2
                        clear hSw hV hc5 hg5 hb5
                        go_wp2
                        rw [HST.out]
                        go_meet
                        exact ⟨_, _, _, hSw2⟩
                      · go_wp2_with fail
                        refine (pick_any C _ 2 _ hc4 (by omega) (by decide) (by decide)).mono ?_
                        rintro e w5 ⟨z0, rfl, hz0', hc5', hg5'⟩
                        by_cases hz00 : z0 = 0
                        · subst hz00
                          go_wp2_with fail
                          refine (pick_any C _ 9 _ hc5' (by omega) (by decide) (by decide)).mono ?_
                          rintro e w6 ⟨z, rfl, hz, hc5, hg5x⟩
                          have hg5 := grown_trans hg5' hg5x
                          have hb5 : w6.heap[wr.heap.size]? = some (.cells #[.int .i64 0, .string ⟨#[]⟩, .int .i64 0, .int .i64 0] 56 (0, 0)) := (grown_keep hg5 (b := wr.heap.size) (by omega) (by intro e; simp at e; omega)).trans HA4.out.2.2.2.2.1
                          have p0 : w6.cell? ⟨wr.heap.size, 0, none⟩ = some (.int .i64 0) := by simp [World.cell?, hb5]
                          have p1 : w6.cell? ⟨wr.heap.size, 1, none⟩ = some (.string ⟨#[]⟩) := by simp [World.cell?, hb5]
                          have p2 : w6.cell? ⟨wr.heap.size, 2, none⟩ = some (.int .i64 0) := by simp [World.cell?, hb5]
                          have p3 : w6.cell? ⟨wr.heap.size, 3, none⟩ = some (.int .i64 0) := by simp [World.cell?, hb5]
                          have f0 : w6.frozen? ⟨wr.heap.size, 0, none⟩ = false := by simp [World.frozen?, hb5]
                          have f1 : w6.frozen? ⟨wr.heap.size, 1, none⟩ = false := by simp [World.frozen?, hb5]
                          have f2 : w6.frozen? ⟨wr.heap.size, 2, none⟩ = false := by simp [World.frozen?, hb5]
                          have f3 : w6.frozen? ⟨wr.heap.size, 3, none⟩ = false := by simp [World.frozen?, hb5]
                          have hSw := Swt.mk' (C := C) (g := g) (k := k) (cm := cm) (b0 := wr.heap.size) (w := w) (wA := wA) (wk := wk) (N := M.length) (X := X') (ls := .slice al L.length cl) (L := L) 6 (z : Int) ⟨#[]⟩ hb5 (HA4.out.1.grown hg5 (fun r e => by simp at e; omega)) (own_draw HA4.out.2.1 hg5 (by omega)) (own_draw HA4.out.2.2.1 hg5 (by omega)) HA4.out.2.2.2.2.2.2 hc5 (grown_trans HA4.out.2.2.2.1 hg5) hws hC (by omega) hwA (by decide)
                          have hSw2 : Swt C g k cm (n + 102 + 160 * k + 26 * (5 - (j - 1))) wr.heap.size w wA wk (set4 w6 wr.heap.size (.int .i64 6) (.string ⟨#[]⟩) (.int .i64 (z : Int)) (.int .i64 0)) M.length X' (.slice al L.length cl) L 6 (z : Int) ⟨#[]⟩ := ⟨hSw.box, hSw.far, hSw.xs, hSw.lns, hSw.cur.mono (by omega), hSw.gr, hSw.low, hSw.sz⟩
                          have HST : Hid (((((w6.setCell ⟨wr.heap.size, 0, none⟩ (.int .i64 6)).setCell ⟨wr.heap.size, 1, none⟩ (.string ⟨#[]⟩)).setCell ⟨wr.heap.size, 2, none⟩ (.int .i64 (z : Int))).setCell ⟨wr.heap.size, 3, none⟩ (.int .i64 0)) = set4 w6 wr.heap.size (.int .i64 6) (.string ⟨#[]⟩) (.int .i64 (z : Int)) (.int .i64 0)) := rfl
                          obtain ⟨V, hV⟩ : ∃ V, V = set4 w6 wr.heap.size (.int .i64 6) (.string ⟨#[]⟩) (.int .i64 (z : Int)) (.int .i64 0) := ⟨_, rfl⟩
                          rw [← hV] at HST hSw2
                          clear hSw hV hc5 hg5 hb5
                          go_wp2
                          rw [HST.out]
                          go_meet
                          exact ⟨_, _, _, hSw2⟩
                        · have hz0b : ((z0 : Int) == 0) = false := by rw [beq_eq_false_iff_ne]; omega
                          have hc5 := hc5'
                          have hg5 := hg5'
                          clear hc5' hg5'
                          have hb5 : w5.heap[wr.heap.size]? = some (.cells #[.int .i64 0, .string ⟨#[]⟩, .int .i64 0, .int .i64 0] 56 (0, 0)) := (grown_keep hg5 (b := wr.heap.size) (by omega) (by intro e; simp at e; omega)).trans HA4.out.2.2.2.2.1
                          have p0 : w5.cell? ⟨wr.heap.size, 0, none⟩ = some (.int .i64 0) := by simp [World.cell?, hb5]
                          have p1 : w5.cell? ⟨wr.heap.size, 1, none⟩ = some (.string ⟨#[]⟩) := by simp [World.cell?, hb5]
                          have p2 : w5.cell? ⟨wr.heap.size, 2, none⟩ = some (.int .i64 0) := by simp [World.cell?, hb5]
                          have p3 : w5.cell? ⟨wr.heap.size, 3, none⟩ = some (.int .i64 0) := by simp [World.cell?, hb5]
                          have f0 : w5.frozen? ⟨wr.heap.size, 0, none⟩ = false := by simp [World.frozen?, hb5]
                          have f1 : w5.frozen? ⟨wr.heap.size, 1, none⟩ = false := by simp [World.frozen?, hb5]
                          have f2 : w5.frozen? ⟨wr.heap.size, 2, none⟩ = false := by simp [World.frozen?, hb5]
                          have f3 : w5.frozen? ⟨wr.heap.size, 3, none⟩ = false := by simp [World.frozen?, hb5]
                          have hSw := Swt.mk' (C := C) (g := g) (k := k) (cm := cm) (b0 := wr.heap.size) (w := w) (wA := wA) (wk := wk) (N := M.length) (X := X') (ls := .slice al L.length cl) (L := L) 1 5 ⟨#[]⟩ hb5 (HA4.out.1.grown hg5 (fun r e => by simp at e; omega)) (own_draw HA4.out.2.1 hg5 (by omega)) (own_draw HA4.out.2.2.1 hg5 (by omega)) HA4.out.2.2.2.2.2.2 hc5 (grown_trans HA4.out.2.2.2.1 hg5) hws hC (by omega) hwA (by decide)
                          have hSw2 : Swt C g k cm (n + 102 + 160 * k + 26 * (5 - (j - 1))) wr.heap.size w wA wk (set4 w5 wr.heap.size (.int .i64 1) (.string ⟨#[]⟩) (.int .i64 5) (.int .i64 0)) M.length X' (.slice al L.length cl) L 1 5 ⟨#[]⟩ := ⟨hSw.box, hSw.far, hSw.xs, hSw.lns, hSw.cur.mono (by omega), hSw.gr, hSw.low, hSw.sz⟩
                          have HST : Hid (((((w5.setCell ⟨wr.heap.size, 0, none⟩ (.int .i64 1)).setCell ⟨wr.heap.size, 1, none⟩ (.string ⟨#[]⟩)).setCell ⟨wr.heap.size, 2, none⟩ (.int .i64 5)).setCell ⟨wr.heap.size, 3, none⟩ (.int .i64 0)) = set4 w5 wr.heap.size (.int .i64 1) (.string ⟨#[]⟩) (.int .i64 5) (.int .i64 0)) := rfl
                          obtain ⟨V, hV⟩ : ∃ V, V = set4 w5 wr.heap.size (.int .i64 1) (.string ⟨#[]⟩) (.int .i64 5) (.int .i64 0) := ⟨_, rfl⟩
                          rw [← hV] at HST hSw2
                          clear hSw hV hc5 hg5 hb5
                          go_wp2
                          rw [HST.out]
                          go_meet
                          exact ⟨_, _, _, hSw2⟩
                    case rest =>
                      obtain ⟨op, num, q, hSw2⟩ := hcut
                      obtain ⟨V, rfl⟩ : ∃ V, V = wc := ⟨_, rfl⟩
                      go_wp2
                      have hwrl : wr.heap.size < V.heap.size := (Array.getElem?_eq_some_iff.1 hSw2.box).1
                      have hgl : g < V.heap.size := (hSw2.xs.lt g rfl).2
                      have hXl : X'.length = M.length * 2 := by have := hSw2.xs.1; rw [List.length_set] at this; exact this
                      have gg : V.cell? ⟨g, k * 2 + 1, none⟩ = some (.slice al L.length cl) := by
                        rw [hSw2.xs.cellAt (k * 2 + 1) (by omega), List.getElem?_set_self (by omega)]
                      have hbV := hSw2.box
                      have P0 : V.cell? ⟨wr.heap.size, 0, none⟩ = some (.int .i64 op) := by simp [World.cell?, hbV]
                      have P1 : V.cell? ⟨wr.heap.size, 1, none⟩ = some (.string q) := by simp [World.cell?, hbV]
                      have P2 : V.cell? ⟨wr.heap.size, 2, none⟩ = some (.int .i64 num) := by simp [World.cell?, hbV]
                      have P3 : V.cell? ⟨wr.heap.size, 3, none⟩ = some (.int .i64 0) := by simp [World.cell?, hbV]
                      have gg' : ∀ o', (V.alloc o').cell? ⟨g, k * 2 + 1, none⟩ = some (.slice al L.length cl) := fun o' => below_cell0 ((Below.refl V.heap.size V).alloc (Nat.le_refl _) o') hgl gg
                      have HSW : Hid (Swt C g k cm (n + 102 + 160 * k + 26 * (5 - (j - 1))) wr.heap.size w wA wk V M.length X' (.slice al L.length cl) L op num q) := hSw2
                      have HRV : Hid (V.drew.ownsRow wk.heap.size 56 4 (.slice al L.length cl) L.length (L.flatMap lnR)) := hSw2.lns
                      have HNEW : Hid (∀ j u, [Value.int .i64 op, .string q, .int .i64 num, .int .i64 0][j]? = some u → (V.drew.alloc (.cells #[.int .i64 op, .string q, .int .i64 num, .int .i64 0] 56)).cell? ((⟨V.heap.size, 0, none⟩ : Addr).add j) = some u) := World.news_of_block (new_blk V.drew (.cells #[.int .i64 op, .string q, .int .i64 num, .int .i64 0] 56))
                      clear hSw2 hbV
                      have hwkV : wk.heap.size ≤ V.heap.size := HSW.out.far.1
                      have P0' : ∀ o', (V.alloc o').cell? ⟨wr.heap.size, 0, none⟩ = some (.int .i64 op) := fun o' => below_cell0 ((Below.refl V.heap.size V).alloc (Nat.le_refl _) o') hwrl P0
                      have P1' : ∀ o', (V.alloc o').cell? ⟨wr.heap.size, 1, none⟩ = some (.string q) := fun o' => below_cell0 ((Below.refl V.heap.size V).alloc (Nat.le_refl _) o') hwrl P1
                      have P2' : ∀ o', (V.alloc o').cell? ⟨wr.heap.size, 2, none⟩ = some (.int .i64 num) := fun o' => below_cell0 ((Below.refl V.heap.size V).alloc (Nat.le_refl _) o') hwrl P2
                      have P3' : ∀ o', (V.alloc o').cell? ⟨wr.heap.size, 3, none⟩ = some (.int .i64 0) := fun o' => below_cell0 ((Below.refl V.heap.size V).alloc (Nat.le_refl _) o') hwrl P3
                      have hgw : wr.heap.size ≠ g := fun e => by
                        have h1 := HSW.out.box
                        rw [e] at h1
                        exact blk_ne h1 HSW.out.xs (by decide) rfl
                      refine wp_region_held_drew (S := (fun w' => w'.cell? ⟨wr.heap.size, 0, none⟩ = some (.int .i64 op) ∧ w'.cell? ⟨wr.heap.size, 1, none⟩ = some (.string q) ∧ w'.cell? ⟨wr.heap.size, 2, none⟩ = some (.int .i64 num) ∧ w'.cell? ⟨wr.heap.size, 3, none⟩ = some (.int .i64 0))) (by kernel_rfl) ⟨P0, P1, P2, P3⟩ (fun hHeld => ?_)
                      refine wpAnyH_take (i := 0) (v := ?_) rfl (by kernel_rfl) (by kernel_rfl) (by kernel_rfl) (fun _ _ _ h => h) (Or.inl ⟨by rfl, ?_⟩) (by assumption) ?_
                      case refine_2 => (intro w' hSw; go_simp; with_reducible rfl)
                      (simp only [List.getElem_toArray, List.getElem_cons_zero, List.getElem_cons_succ, Act.put, List.setIfInBounds_toArray, List.set_cons_zero, List.set_cons_succ])
                      refine wpAnyH_take (i := 1) (v := ?_) rfl (by kernel_rfl) (by kernel_rfl) (by kernel_rfl) (fun _ _ _ h => h) (Or.inl ⟨by rfl, ?_⟩) (by assumption) ?_
                      case refine_2 => (intro w' hSw; go_simp; with_reducible rfl)
                      (simp only [List.getElem_toArray, List.getElem_cons_zero, List.getElem_cons_succ, Act.put, List.setIfInBounds_toArray, List.set_cons_zero, List.set_cons_succ])
                      refine wpAnyH_take (i := 2) (v := ?_) rfl (by kernel_rfl) (by kernel_rfl) (by kernel_rfl) (fun _ _ _ h => h) (Or.inl ⟨by rfl, ?_⟩) (by assumption) ?_
                      case refine_2 => (intro w' hSw; go_simp; with_reducible rfl)
                      (simp only [List.getElem_toArray, List.getElem_cons_zero, List.getElem_cons_succ, Act.put, List.setIfInBounds_toArray, List.set_cons_zero, List.set_cons_succ])
                      refine wpAnyH_take (i := 3) (v := ?_) rfl (by kernel_rfl) (by kernel_rfl) (by kernel_rfl) (fun _ _ _ h => h) (Or.inl ⟨by rfl, ?_⟩) (by assumption) ?_
                      case refine_2 => (intro w' hSw; go_simp; with_reducible rfl)
                      (simp only [List.getElem_toArray, List.getElem_cons_zero, List.getElem_cons_succ, Act.put, List.setIfInBounds_toArray, List.set_cons_zero, List.set_cons_succ])
                      refine wpAnyH_take (i := 5) (v := ?_) rfl (by kernel_rfl) (by kernel_rfl) (by kernel_rfl) (fun _ _ _ h => h) (Or.inl ⟨by rfl, ?_⟩) (by assumption) ?_
                      case refine_2 => (intro w' hSw; go_simp; with_reducible rfl)
                      (simp only [List.getElem_toArray, List.getElem_cons_zero, List.getElem_cons_succ, Act.put, List.setIfInBounds_toArray, List.set_cons_zero, List.set_cons_succ])
                      refine wpAnyH_ready (rs := [4, 6]) (by kernel_rfl) (by simp) ?_
                      refine AllReadyH.cons rfl (fun K hK => ?_) (AllReadyH.cons rfl (fun K hK => ?_) AllReadyH.nil)
                      case' refine_1 =>
                        go_simp
                        refine hK.out _ _ ⟨P0, P1, P2, P3⟩ (fun hHeld => ?_)
                        clear hK K
                        (try simp only [List.getElem_toArray, List.getElem_cons_zero, List.getElem_cons_succ, Act.put, List.setIfInBounds_toArray, List.set_cons_zero, List.set_cons_succ])
                        refine wpAnyH_ready (rs := [6]) (by kernel_rfl) (by simp) ?_
                        refine AllReadyH.cons rfl (fun K hK => ?_) AllReadyH.nil
                        go_simp
                        refine hK.out _ _ ⟨P0' _, P1' _, P2' _, P3' _⟩ (fun hHeld => ?_)
                        clear hK K
                        (try simp only [List.getElem_toArray, List.getElem_cons_zero, List.getElem_cons_succ, Act.put, List.setIfInBounds_toArray, List.set_cons_zero, List.set_cons_succ])
                      case' refine_2 =>
                        go_simp
                        refine hK.out _ _ ⟨P0' _, P1' _, P2' _, P3' _⟩ (fun hHeld => ?_)
                        clear hK K
                        (try simp only [List.getElem_toArray, List.getElem_cons_zero, List.getElem_cons_succ, Act.put, List.setIfInBounds_toArray, List.set_cons_zero, List.set_cons_succ])
                        refine wpAnyH_ready (rs := [4]) (by kernel_rfl) (by simp) ?_
                        refine AllReadyH.cons rfl (fun K hK => ?_) AllReadyH.nil
                        go_simp
                        refine hK.out _ _ ⟨P0' _, P1' _, P2' _, P3' _⟩ (fun hHeld => ?_)
                        clear hK K
                        (try simp only [List.getElem_toArray, List.getElem_cons_zero, List.getElem_cons_succ, Act.put, List.setIfInBounds_toArray, List.set_cons_zero, List.set_cons_succ])
                      all_goals
                        refine wpAnyH_ready (rs := [7]) (by kernel_rfl) (by simp) ?_
                        refine AllReadyH.cons rfl (fun K hK => ?_) AllReadyH.nil
                        refine step_append_lies _ rfl (.tmp 129) (.tmp 131) 37 rfl wk.heap.size 56 i56 _ 4 40 Tryz.underlying37 li lz0 lz1 lz2 rfl (by decide) (.slice al L.length cl) L.length (L.flatMap lnR) (by simp [Act.eval]) (HRV.out.alloc _) ⟨V.heap.size, 0, none⟩ 1 1 [.int .i64 op, .string q, .int .i64 num, .int .i64 0] (by simp [Act.eval]) rfl HNEW.out (by intro u hu; simp at hu; rcases hu with rfl | rfl | rfl | rfl <;> rfl) (by decide) (by unfold maxLen; omega) (by omega) (by simp; omega) (V.heap.size + 1) (by simp) ?_; intro gl cap7 w7 hown7 hgrow7 hat7 hlt7; have hg7 : w7.heap[g]? = V.heap[g]? := (grown_keep hgrow7 (by simp; omega) (rows_apart' (by decide) HRV.out HSW.out.xs g rfl)).trans (old_blk V.drew _ hgl); have g7 : w7.cell? ⟨g, k * 2 + 1, none⟩ = some (.slice al L.length cl) := (World.cell?_of_block (a := ⟨g, k * 2 + 1, none⟩) hg7).trans gg; have f7 : w7.frozen? ⟨g, k * 2 + 1, none⟩ = false := ((World.frozen?_of_block (a := ⟨g, k * 2 + 1, none⟩) hg7).trans (HSW.out.xs.frozenAt (k * 2 + 1))); have hb7 : w7.heap[wr.heap.size]? = V.heap[wr.heap.size]? := (grown_keep hgrow7 (by simp; omega) (fun e => by have := HA4.out.2.2.2.2.2.2 _ e; omega)).trans (old_blk V.drew _ hwrl); have S8 : ∀ u, (w7.setCell ⟨g, k * 2 + 1, none⟩ u).heap[wr.heap.size]? = V.heap[wr.heap.size]? := fun u => (Below.heap_setCell _ _ _ _ hgw).trans hb7
                        refine hK.out _ _ ⟨(World.cell?_of_block (a := ⟨wr.heap.size, 0, none⟩) hb7).trans P0, (World.cell?_of_block (a := ⟨wr.heap.size, 1, none⟩) hb7).trans P1, (World.cell?_of_block (a := ⟨wr.heap.size, 2, none⟩) hb7).trans P2, (World.cell?_of_block (a := ⟨wr.heap.size, 3, none⟩) hb7).trans P3⟩ (fun hHeld => ?_)
                        clear hK K
                        (try simp only [List.getElem_toArray, List.getElem_cons_zero, List.getElem_cons_succ, Act.put, List.setIfInBounds_toArray, List.set_cons_zero, List.set_cons_succ])
                        refine wpAnyH_take (i := 8) (v := ?_) rfl (by kernel_rfl) (by kernel_rfl) (by kernel_rfl) (fun _ _ _ h => h) (Or.inl ⟨by rfl, ?_⟩) (by assumption) ?_
                        case refine_2 => (intro w' hSw; go_simp; with_reducible rfl)
                        (simp only [List.getElem_toArray, List.getElem_cons_zero, List.getElem_cons_succ, Act.put, List.setIfInBounds_toArray, List.set_cons_zero, List.set_cons_succ])
                        refine wpAnyH_take (i := 9) (v := ?_) rfl (by kernel_rfl) (by kernel_rfl) (by kernel_rfl) (fun _ _ _ h => h) (Or.inl ⟨by rfl, ?_⟩) (by assumption) ?_
                        case refine_2 => (intro w' hSw; go_simp; with_reducible rfl)
                        (simp only [List.getElem_toArray, List.getElem_cons_zero, List.getElem_cons_succ, Act.put, List.setIfInBounds_toArray, List.set_cons_zero, List.set_cons_succ])
                        refine wpAnyH_ready (rs := [10]) (by kernel_rfl) (by simp) ?_
                        refine AllReadyH.cons rfl (fun K hK => ?_) AllReadyH.nil
                        go_simp
                        refine hK.out _ _ ⟨(World.cell?_of_block (a := ⟨wr.heap.size, 0, none⟩) (S8 _)).trans P0, (World.cell?_of_block (a := ⟨wr.heap.size, 1, none⟩) (S8 _)).trans P1, (World.cell?_of_block (a := ⟨wr.heap.size, 2, none⟩) (S8 _)).trans P2, (World.cell?_of_block (a := ⟨wr.heap.size, 3, none⟩) (S8 _)).trans P3⟩ (fun hHeld => ?_)
                        clear hK K
                        refine wpAnyH_done (by kernel_rfl) ?_ _
                        have hgrow8 : (V.alloc (.cells #[.int .i64 op, .string q, .int .i64 num, .int .i64 0] 56)).grownBy w7 (Value.slice al L.length cl).ownBlock := ⟨hgrow7.1, hgrow7.2, hgrow7.3, hgrow7.4, hgrow7.5⟩
                        have hx7 := own_other (HSW.out.xs.alloc (.cells #[.int .i64 op, .string q, .int .i64 num, .int .i64 0] 56)) (HRV.out.alloc (.cells #[.int .i64 op, .string q, .int .i64 num, .int .i64 0] 56)) (by decide) hgrow8
                        have hst7 := hx7.stored (k * 2 + 1) (.slice (some ⟨gl, 0, none⟩) (L.length + 1) cap7)
                        rw [List.set_set] at hst7
                        have hln7 : (w7.setCell ⟨g, k * 2 + 1, none⟩ (.slice (some ⟨gl, 0, none⟩) (L.length + 1) cap7)).ownsRow wk.heap.size 56 4 (.slice (some ⟨gl, 0, none⟩) (L.length + 1) cap7) (L.length + 1) (L.flatMap lnR ++ [.int .i64 op, .string q, .int .i64 num, .int .i64 0]) :=
                          own_block hown7 (fun b hb => Below.heap_setCell _ _ _ _ (fun e' => rows_apart' (by decide) hx7 hown7 b hb (by rw [show b = g from e']; rfl)))
                        have hF7 := ((HSW.out.far.grown (grown_al V (.cells #[.int .i64 op, .string q, .int .i64 num, .int .i64 0] 56) none) (fun r e => by cases e)).grown hgrow8 (fun r e => .inr (.inr (far_row HRV.out (Nat.le_refl _) r e)))).grown (grown_set w7 ⟨g, k * 2 + 1, none⟩ (.slice (some ⟨gl, 0, none⟩) (L.length + 1) cap7)) (fun r e => by simp at e; omega)
                        have hc7 := ((HSW.out.cur.alloc (.cells #[.int .i64 op, .string q, .int .i64 num, .int .i64 0] 56)).kept hgrow8 (fun r e => by have := far_row HRV.out (Nat.le_refl _) r e; omega)).kept (grown_set w7 ⟨g, k * 2 + 1, none⟩ (.slice (some ⟨gl, 0, none⟩) (L.length + 1) cap7)) (fun r e => by simp at e; omega)
                        have hg8 := grown_far (grown_far (grown_trans HSW.out.gr (grown_alloc_some V (.cells #[.int .i64 op, .string q, .int .i64 num, .int .i64 0] 56) C)) hgrow8 (fun r e => by have := far_row HRV.out (Nat.le_refl _) r e; omega)) (grown_set w7 ⟨g, k * 2 + 1, none⟩ (.slice (some ⟨gl, 0, none⟩) (L.length + 1) cap7)) (fun r e => by simp at e; omega)
                        have HR8 : Hid ((w7.setCell ⟨g, k * 2 + 1, none⟩ (.slice (some ⟨gl, 0, none⟩) (L.length + 1) cap7)).ownsRow wk.heap.size 56 4 (.slice (some ⟨gl, 0, none⟩) (L.length + 1) cap7) (L ++ [(⟨op, q.data.toList, num, 0⟩ : Ln)]).length ((L ++ [(⟨op, q.data.toList, num, 0⟩ : Ln)]).flatMap lnR)) := by
                          unfold Hid
                          rw [List.length_append, List.length_singleton, List.flatMap_append]
                          simpa [lnR, strV_data] using hln7
                        have HS8 : Hid (q.size ≤ 20) := HSW.out.sz
                        have HX8 : Hid ((w7.setCell ⟨g, k * 2 + 1, none⟩ (.slice (some ⟨gl, 0, none⟩) (L.length + 1) cap7)).ownsRow (w.heap.size + 2) 39 2 (.slice (some ⟨g, 0, none⟩) M.length cm) M.length (X'.set (k * 2 + 1) (.slice (some ⟨gl, 0, none⟩) (L.length + 1) cap7))) := hst7.1
                        clear hown7 hgrow7 hgrow8 hat7 hlt7 hg7 g7 f7 hx7 hst7 hln7 hb7 S8 hHeld
                        go_wp2
                        go_roundw
                        case rel => exact ⟨j - 1, L ++ [⟨op, q.data.toList, num, 0⟩], _, by omega, by go_num, by simp; omega, fun l hl => by
                          rcases List.mem_append.1 hl with hl | hl
                          · exact HLN.out l hl
                          · simp at hl; subst hl; simpa using HS8.out, HX8.out, HR8.out, hF7, hc7, hg8⟩
                        case measure => simp [intOf]; omega
                  · obtain rfl : j = 0 := by omega
                    have hgg2 : g < wr.heap.size := (hXo.lt g rfl).2
                    have hXl : X'.length = M.length * 2 := by have := hXo.1; rw [List.length_set] at this; exact this
                    have gg : wr.cell? ⟨g, k * 2 + 1, none⟩ = some (.slice al L.length cl) := by
                      rw [hXo.cellAt (k * 2 + 1) (by omega), List.getElem?_set_self (by omega)]
                    have HLN : Hid (∀ l ∈ L, l.name.length ≤ 20) := hLn
                    have hL5 : L.length ≤ 5 := by omega
                    clear hLn
                    obtain ⟨wi, rfl⟩ : ∃ wi, wi = wr := ⟨_, rfl⟩
                    go_wp2
                    go_loopw [140] (fun i V => ∃ (i2 : Nat) (L2 : List Ln), i2 ≤ L.length ∧ i = .int .i64 i2 ∧ L2.length = L.length ∧ (∀ l ∈ L2, l.name.length ≤ 20) ∧ V.ownsRow (w.heap.size + 2) 39 2 (.slice (some ⟨g, 0, none⟩) M.length cm) M.length (X'.set (k * 2 + 1) (.slice al L.length cl)) ∧ V.ownsRow wk.heap.size 56 4 (.slice al L.length cl) L.length (L2.flatMap lnR) ∧
                      Far C g wk V ∧ Cur V C (n + 232 + 160 * k + 2 * i2) ∧ wA.grownBy V (some C)) (fun i _ => L.length - (intOf i).toNat)
                    case atStart => exact ⟨0, L, Nat.zero_le _, rfl, rfl, HLN.out, hXo, hlo, hFk, hcj.mono (by omega), hgj⟩
                    case round =>
                      obtain ⟨i2, L2, hi2, rfl, hL2l, hL2n, hX2, hl2, hF2, hc2, hg2⟩ := hrel
                      by_cases hlt2 : i2 < L.length
                      · obtain ⟨gl, rfl⟩ : ∃ gl, al = some ⟨gl, 0, none⟩ := by
                          obtain ⟨_, _, hvv, _, hag⟩ := row_form hl2
                          cases hvv
                          exact hag (by omega)
                        obtain ⟨e0, e1, e2, e3⟩ := lnR_get L2 i2 (by omega)
                        have hlX : (L2.flatMap lnR).length = L.length * 4 := hl2.1
                        have q0 : wr.cell? ⟨gl, i2 * 4, none⟩ = some (.int .i64 L2[i2].op) := by rw [hl2.cellAt _ (by omega)]; exact e0
                        have q3 : wr.cell? ⟨gl, i2 * 4 + 3, none⟩ = some (.int .i64 L2[i2].skip) := by rw [hl2.cellAt _ (by omega)]; exact e3
                        have gg2 : wr.cell? ⟨g, k * 2 + 1, none⟩ = some (.slice (some ⟨gl, 0, none⟩) L.length cl) := by
                          rw [hX2.cellAt (k * 2 + 1) (by omega), List.getElem?_set_self (by omega)]
                        have hgl2 : gl < wr.heap.size := (hl2.lt gl rfl).2
                        have hglk : wk.heap.size ≤ gl := (hl2.lt gl rfl).1
                        have hgw2 : g < wr.heap.size := (hX2.lt g rfl).2
                        obtain ⟨op2, hop2⟩ : ∃ op2, op2 = L2[i2].op := ⟨_, rfl⟩
                        rw [← hop2] at q0
                        have HR2 : Hid (wr.ownsRow (w.heap.size + 2) 39 2 (.slice (some ⟨g, 0, none⟩) M.length cm) M.length (X'.set (k * 2 + 1) (.slice (some ⟨gl, 0, none⟩) L.length cl)) ∧ wr.ownsRow wk.heap.size 56 4 (.slice (some ⟨gl, 0, none⟩) L.length cl) L.length (L2.flatMap lnR) ∧ Far C g wk wr ∧ Cur wr C (n + 232 + 160 * k + 2 * i2) ∧ wA.grownBy wr (some C) ∧ (∀ l ∈ L2, l.name.length ≤ 20)) := ⟨hX2, hl2, hF2, hc2, hg2, hL2n⟩
                        have HOP : Hid (L2[i2].op = op2) := hop2.symm
                        clear hX2 hl2 hF2 hc2 hg2 hL2n e0 e1 e2 e3 hop2
                        by_cases h7 : op2 = 7
                        · subst h7
                          have HPK : Hid (Calls Tryz.prog 25 #[.pointer (some ⟨C, 0, none⟩), .int .i64 (IntKind.i64.wrap ((L.length : Int) - (i2 : Int)))] wr.drew fun e w' => ∃ x : Nat, e = .returned (.int .i64 (x : Int)) ∧ x < L.length - i2 ∧ Cur w' C (n + 232 + 160 * k + 2 * i2 + 2) ∧ wr.grownBy w' (some C)) := by
                            rw [IntWalk.i64_in _ (by omega), show (L.length : Int) - (i2 : Int) = ((L.length - i2 : Nat) : Int) by omega]
                            refine (pick1_any C _ (L.length - i2) wr.drew HR2.out.2.2.2.1 (by omega) (by omega) (by omega)).mono ?_
                            rintro e w' ⟨x, h1, h2, h3, h4⟩
                            exact ⟨x, h1, h2, h3, grown_trans (grown_drewD wr _) h4⟩
                          have gg3 : wr.drew.cell? ⟨g, k * 2 + 1, none⟩ = some (.slice (some ⟨gl, 0, none⟩) L.length cl) := gg2
                          have hglg : gl ≠ g := fun e => rows_apart' (by decide) HR2.out.1 HR2.out.2.1 gl rfl (by rw [e]; rfl)
                          go_wp2
                          refine wp_region_held_drew (S := (fun w' => w'.cell? ⟨g, k * 2 + 1, none⟩ = some (.slice (some ⟨gl, 0, none⟩) L.length cl))) (by kernel_rfl) gg3 (fun hHeld => ?_)
                          refine wpAnyH_take (i := 0) (v := ?_) rfl (by kernel_rfl) (by kernel_rfl) (by kernel_rfl) (fun _ _ _ h => h) (Or.inl ⟨by rfl, ?_⟩) (by assumption) ?_
                          case refine_2 => (intro w' hSw; go_simp; with_reducible rfl)
                          (simp only [List.getElem_toArray, List.getElem_cons_zero, List.getElem_cons_succ, Act.put, List.setIfInBounds_toArray, List.set_cons_zero, List.set_cons_succ])
                          refine wpAnyH_take (i := 1) (v := ?_) rfl (by kernel_rfl) (by kernel_rfl) (by kernel_rfl) (fun _ _ _ h => h) (Or.inl ⟨by rfl, ?_⟩) (by assumption) ?_
                          case refine_2 => (intro w' hSw; go_simp; with_reducible rfl)
                          (simp only [List.getElem_toArray, List.getElem_cons_zero, List.getElem_cons_succ, Act.put, List.setIfInBounds_toArray, List.set_cons_zero, List.set_cons_succ])
                          refine wpAnyH_take (i := 2) (v := ?_) rfl (by kernel_rfl) (by kernel_rfl) (by kernel_rfl) (fun _ _ _ h => h) (Or.inl ⟨by rfl, ?_⟩) (by assumption) ?_
                          case refine_2 => (intro w' hSw; go_simp; with_reducible rfl)
                          (simp only [List.getElem_toArray, List.getElem_cons_zero, List.getElem_cons_succ, Act.put, List.setIfInBounds_toArray, List.set_cons_zero, List.set_cons_succ])
                          refine wpAnyH_take (i := 3) (v := ?_) rfl (by kernel_rfl) (by kernel_rfl) (by kernel_rfl) (fun _ _ _ h => h) (Or.inl ⟨by rfl, ?_⟩) (by assumption) ?_
                          case refine_2 => (intro w' hSw; go_simp; with_reducible rfl)
                          (simp only [List.getElem_toArray, List.getElem_cons_zero, List.getElem_cons_succ, Act.put, List.setIfInBounds_toArray, List.set_cons_zero, List.set_cons_succ])
                          refine wpAnyH_take (i := 4) (v := ?_) rfl (by kernel_rfl) (by kernel_rfl) (by kernel_rfl) (fun _ _ _ h => h) (Or.inl ⟨by rfl, ?_⟩) (by assumption) ?_
                          case refine_2 => (intro w' hSw; go_simp; with_reducible rfl)
                          (simp only [List.getElem_toArray, List.getElem_cons_zero, List.getElem_cons_succ, Act.put, List.setIfInBounds_toArray, List.set_cons_zero, List.set_cons_succ])
                          refine wpAnyH_take (i := 5) (v := ?_) rfl (by kernel_rfl) (by kernel_rfl) (by kernel_rfl) (fun _ _ _ h => h) (Or.inl ⟨by rfl, ?_⟩) (by assumption) ?_
                          case refine_2 => (intro w' hSw; go_simp; with_reducible rfl)
                          (simp only [List.getElem_toArray, List.getElem_cons_zero, List.getElem_cons_succ, Act.put, List.setIfInBounds_toArray, List.set_cons_zero, List.set_cons_succ])
                          refine wpAnyH_take (i := 6) (v := ?_) rfl (by kernel_rfl) (by kernel_rfl) (by kernel_rfl) (fun _ _ _ h => h) (Or.inl ⟨by rfl, ?_⟩) (by assumption) ?_
                          case refine_2 => (intro w' hSw; go_simp; with_reducible rfl)
                          (simp only [List.getElem_toArray, List.getElem_cons_zero, List.getElem_cons_succ, Act.put, List.setIfInBounds_toArray, List.set_cons_zero, List.set_cons_succ])
                          refine wpAnyH_take (i := 7) (v := ?_) rfl (by kernel_rfl) (by kernel_rfl) (by kernel_rfl) (fun _ _ _ h => h) (Or.inl ⟨by rfl, ?_⟩) (by assumption) ?_
                          case refine_2 => (intro w' hSw; go_simp; with_reducible rfl)
                          (simp only [List.getElem_toArray, List.getElem_cons_zero, List.getElem_cons_succ, Act.put, List.setIfInBounds_toArray, List.set_cons_zero, List.set_cons_succ])
                          refine wpAnyH_take (i := 8) (v := ?_) rfl (by kernel_rfl) (by kernel_rfl) (by kernel_rfl) (fun _ _ _ h => h) (Or.inl ⟨by rfl, ?_⟩) (by assumption) ?_
                          case refine_2 => (intro w' hSw; go_simp; with_reducible rfl)
                          (simp only [List.getElem_toArray, List.getElem_cons_zero, List.getElem_cons_succ, Act.put, List.setIfInBounds_toArray, List.set_cons_zero, List.set_cons_succ])
                          refine wpAnyH_take (i := 9) (v := ?_) rfl (by kernel_rfl) (by kernel_rfl) (by kernel_rfl) (fun _ _ _ h => h) (Or.inl ⟨by rfl, ?_⟩) (by assumption) ?_
                          case refine_2 => (intro w' hSw; go_simp; with_reducible rfl)
                          (simp only [List.getElem_toArray, List.getElem_cons_zero, List.getElem_cons_succ, Act.put, List.setIfInBounds_toArray, List.set_cons_zero, List.set_cons_succ])
                          refine wpAnyH_take (i := 10) (v := ?_) rfl (by kernel_rfl) (by kernel_rfl) (by kernel_rfl) (fun _ _ _ h => h) (Or.inl ⟨by rfl, ?_⟩) (by assumption) ?_
                          case refine_2 => (intro w' hSw; go_simp; with_reducible rfl)
                          (simp only [List.getElem_toArray, List.getElem_cons_zero, List.getElem_cons_succ, Act.put, List.setIfInBounds_toArray, List.set_cons_zero, List.set_cons_succ])
                          refine wpAnyH_take (i := 11) (v := ?_) rfl (by kernel_rfl) (by kernel_rfl) (by kernel_rfl) (fun _ _ _ h => h) (Or.inl ⟨by rfl, ?_⟩) (by assumption) ?_
                          case refine_2 => (intro w' hSw; go_simp; with_reducible rfl)
                          (simp only [List.getElem_toArray, List.getElem_cons_zero, List.getElem_cons_succ, Act.put, List.setIfInBounds_toArray, List.set_cons_zero, List.set_cons_succ])
                          refine wpAnyH_take (i := 12) (v := ?_) rfl (by kernel_rfl) (by kernel_rfl) (by kernel_rfl) (fun _ _ _ h => h) (Or.inl ⟨by rfl, ?_⟩) (by assumption) ?_
                          case refine_2 => (intro w' hSw; go_simp; with_reducible rfl)
                          (simp only [List.getElem_toArray, List.getElem_cons_zero, List.getElem_cons_succ, Act.put, List.setIfInBounds_toArray, List.set_cons_zero, List.set_cons_succ])
                          refine wpAnyH_ready (rs := [13]) (by kernel_rfl) (by simp) ?_
                          refine AllReadyH.cons rfl (fun K hK => ?_) AllReadyH.nil
                          go_simp
                          refine HPK.out.mono ?_
                          rintro e w5 ⟨z, rfl, hz, hc5, hg5⟩
                          have hb5g := grown_keep hg5 (b := g) hgw2 (by intro e; simp at e; omega)
                          have hb5l := grown_keep hg5 (b := gl) hgl2 (by intro e; simp at e; omega)
                          have g5 : w5.cell? ⟨g, k * 2 + 1, none⟩ = some (.slice (some ⟨gl, 0, none⟩) L.length cl) := (World.cell?_of_block (a := ⟨g, k * 2 + 1, none⟩) hb5g).trans gg2
                          have q5 : w5.cell? ⟨gl, i2 * 4 + 3, none⟩ = some (.int .i64 L2[i2].skip) := (World.cell?_of_block (a := ⟨gl, i2 * 4 + 3, none⟩) hb5l).trans q3
                          have f5 : w5.frozen? ⟨gl, i2 * 4 + 3, none⟩ = false := (World.frozen?_of_block (a := ⟨gl, i2 * 4 + 3, none⟩) hb5l).trans (HR2.out.2.1.frozenAt (i2 * 4 + 3))
                          have g6 : ∀ u, (w5.setCell ⟨gl, i2 * 4 + 3, none⟩ u).cell? ⟨g, k * 2 + 1, none⟩ = some (.slice (some ⟨gl, 0, none⟩) L.length cl) := fun u => (World.cell?_of_block (a := ⟨g, k * 2 + 1, none⟩) (Below.heap_setCell w5 ⟨gl, i2 * 4 + 3, none⟩ u g (Ne.symm hglg))).trans g5
                          first | refine hK.out _ _ g5 (fun hHeld => ?_) | (go_wp2_with fail; refine hK.out _ _ g5 (fun hHeld => ?_))
                          clear hK K
                          (try simp only [List.getElem_toArray, List.getElem_cons_zero, List.getElem_cons_succ, Act.put, List.setIfInBounds_toArray, List.set_cons_zero, List.set_cons_succ])
                          refine wpAnyH_take (i := 14) (v := ?_) rfl (by kernel_rfl) (by kernel_rfl) (by kernel_rfl) (fun _ _ _ h => h) (Or.inl ⟨by rfl, ?_⟩) (by assumption) ?_
                          case refine_2 => (intro w' hSw; go_simp; with_reducible rfl)
                          (simp only [List.getElem_toArray, List.getElem_cons_zero, List.getElem_cons_succ, Act.put, List.setIfInBounds_toArray, List.set_cons_zero, List.set_cons_succ])
                          refine wpAnyH_take (i := 15) (v := ?_) rfl (by kernel_rfl) (by kernel_rfl) (by kernel_rfl) (fun _ _ _ h => h) (Or.inl ⟨by rfl, ?_⟩) (by assumption) ?_
                          case refine_2 => (intro w' hSw; go_simp; with_reducible rfl)
                          (simp only [List.getElem_toArray, List.getElem_cons_zero, List.getElem_cons_succ, Act.put, List.setIfInBounds_toArray, List.set_cons_zero, List.set_cons_succ])
                          refine wpAnyH_ready (rs := [16]) (by kernel_rfl) (by simp) ?_
                          refine AllReadyH.cons rfl (fun K hK => ?_) AllReadyH.nil
                          go_simp
                          refine hK.out _ _ (g6 _) (fun hHeld => ?_)
                          clear hK K
                          refine wpAnyH_done (by kernel_rfl) ?_ _
                          have hX5 := own_draw HR2.out.1 hg5 (by omega)
                          have hl5 := own_draw HR2.out.2.1 hg5 (by omega)
                          have hst5 := hl5.stored (i2 * 4 + 3) (.int .i64 (z : Int))
                          have hX6 : (w5.setCell ⟨gl, i2 * 4 + 3, none⟩ (.int .i64 (z : Int))).ownsRow (w.heap.size + 2) 39 2 (.slice (some ⟨g, 0, none⟩) M.length cm) M.length (X'.set (k * 2 + 1) (.slice (some ⟨gl, 0, none⟩) L.length cl)) :=
                            own_block hX5 (fun b hb => Below.heap_setCell _ _ _ _ (fun e' => hglg ((show gl = b from e'.symm).trans (Option.some.inj hb).symm)))
                          have hLs : (L2.flatMap lnR).set (i2 * 4 + 3) (.int .i64 (z : Int)) = (L2.set i2 ⟨7, L2[i2].name, L2[i2].num, (z : Int)⟩).flatMap lnR := by
                            exact lnR_set L2 i2 (by omega) 7 (by simpa using HOP.out) (z : Int)
                          rw [hLs] at hst5
                          have hF6 := (HR2.out.2.2.1.grown hg5 (fun r e => by simp at e; omega)).grown (grown_set w5 ⟨gl, i2 * 4 + 3, none⟩ (.int .i64 (z : Int))) (fun r e => by simp at e; omega)
                          have hc6 := hc5.kept (grown_set w5 ⟨gl, i2 * 4 + 3, none⟩ (.int .i64 (z : Int))) (fun r e => by simp at e; omega)
                          have hg6 := grown_far (grown_trans HR2.out.2.2.2.2.1 hg5) (grown_set w5 ⟨gl, i2 * 4 + 3, none⟩ (.int .i64 (z : Int))) (fun r e => by simp at e; omega)
                          have HZ : Hid ((w5.setCell ⟨gl, i2 * 4 + 3, none⟩ (.int .i64 (z : Int))).ownsRow (w.heap.size + 2) 39 2 (.slice (some ⟨g, 0, none⟩) M.length cm) M.length (X'.set (k * 2 + 1) (.slice (some ⟨gl, 0, none⟩) L.length cl)) ∧ (w5.setCell ⟨gl, i2 * 4 + 3, none⟩ (.int .i64 (z : Int))).ownsRow wk.heap.size 56 4 (.slice (some ⟨gl, 0, none⟩) L.length cl) L.length ((L2.set i2 ⟨7, L2[i2].name, L2[i2].num, (z : Int)⟩).flatMap lnR) ∧ Far C g wk (w5.setCell ⟨gl, i2 * 4 + 3, none⟩ (.int .i64 (z : Int))) ∧ Cur (w5.setCell ⟨gl, i2 * 4 + 3, none⟩ (.int .i64 (z : Int))) C (n + 232 + 160 * k + 2 * i2 + 2) ∧ wA.grownBy (w5.setCell ⟨gl, i2 * 4 + 3, none⟩ (.int .i64 (z : Int))) (some C)) := ⟨hX6, hst5.1, hF6, hc6, hg6⟩
                          clear hX6 hst5 hF6 hc6 hg6 hX5 hl5 hg5 hc5 hb5g hb5l hLs hHeld
                          go_wp2
                          go_roundw
                          case rel => exact ⟨i2 + 1, by omega, by go_num, L2.set i2 ⟨7, L2[i2].name, L2[i2].num, (z : Int)⟩, by simp [hL2l], fun l hl => by
                            rcases List.mem_or_eq_of_mem_set hl with h1 | h1
                            · exact HR2.out.2.2.2.2.2 l h1
                            · rw [h1]; exact (show L2[i2].name.length ≤ 20 from HR2.out.2.2.2.2.2 L2[i2] (List.getElem_mem (by omega))), HZ.out.1, HZ.out.2.1, HZ.out.2.2.1, HZ.out.2.2.2.1.mono (by omega), HZ.out.2.2.2.2⟩
                          case measure => simp [intOf]; omega
                        · have h7b : (op2 == 7) = false := by rw [beq_eq_false_iff_ne]; exact h7
                          clear h7
                          go_wp2
                          go_roundw
                          case rel => exact ⟨i2 + 1, L2, by omega, by go_num, hL2l, HR2.out.2.2.2.2.2, HR2.out.1, HR2.out.2.1, HR2.out.2.2.1, HR2.out.2.2.2.1.mono (by omega), HR2.out.2.2.2.2.1⟩
                          case measure => simp [intOf]; omega
                      · go_wp2
                        go_roundw
                        case rel =>
                          have hkM : k < M'.length := by omega
                          refine ⟨k + 1, M'.set k ⟨M'[k].name, L2⟩, X'.set (k * 2 + 1) (.slice al L.length cl), by omega, by go_num, by simp [hM'l], ?_, ?_, ?_, ?_, ?_, ?_, hc2.mono (by omega), hg2, by have := hF2.1; omega⟩
                          · intro m hm
                            rcases List.mem_or_eq_of_mem_set hm with h1 | h1
                            · exact HQk.out.2.2.2.2 m h1
                            · rw [h1]; exact ⟨(HQk.out.2.2.2.2 _ (List.getElem_mem hkM)).1, by simp only []; omega, hL2n⟩
                          · refine ⟨by rw [List.length_set, hM'l]; exact hX2, fun j' hj' => ?_⟩
                            rw [List.length_set] at hj'
                            obtain ⟨ls', r1, r2, r3⟩ := HQk.out.1.2 j' hj'
                            by_cases hjk : j' = k
                            · subst hjk
                              refine ⟨.slice al L.length cl, ?_, ?_, ?_⟩
                              · rw [List.getElem?_set_ne (by omega)]; simp only [List.getElem_set_self]; exact r1
                              · rw [List.getElem?_set_self (by omega)]
                              · simp only [List.getElem_set_self]; rw [hL2l]; exact own_mono hl2 (by omega)
                            · refine ⟨ls', ?_, ?_, ?_⟩
                              · rw [List.getElem?_set_ne (by omega), List.getElem_set_ne (Ne.symm hjk)]; exact r1
                              · rw [List.getElem?_set_ne (by omega)]; exact r2
                              · rw [List.getElem_set_ne (Ne.symm hjk)]
                                exact hF2.own2 r3 (by omega) (fun e => rows_apart' (by decide) hX0 r3 g e rfl)
                          · intro j' hj1 hj2
                            rw [List.getElem?_set_ne (by omega)]
                            exact HQk.out.2.1 j' (by omega) hj2
                          · exact hF2.own2 HQk.out.2.2.1 (by omega) (fun e => rows_apart' (by decide) hX0 HQk.out.2.2.1 g e rfl)
                          · exact hF2.own2 HQk.out.2.2.2.1 (by omega) (fun e => rows_apart' (by decide) hX0 HQk.out.2.2.2.1 g e rfl)
                          · rw [hF2.2 (w.heap.size + 1) (by omega) (by omega) (by omega)]; exact hbk
                        case measure => simp [intOf]; omega
              · obtain rfl : k = M.length := by omega
                obtain ⟨am', cm', hvm', _, _⟩ := row_form hmr.1
                go_wp2_with fail
                refine (pick_any C _ 3 _ hcc (by omega) (by decide) (by decide)).mono ?_
                rintro e wf ⟨xf, rfl, hxf, hcf, hgf⟩
                have hmf := hmr.draw hgf (by omega)
                have hrf := own_draw hrr hgf (by omega)
                have hbf : wf.heap[w.heap.size + 1]? = _ := (grown_keep hgf (by omega) (by intro e; simp at e; omega)).trans hbb
                have hgf' := grown_trans hgg hgf
                have hsf : w.heap.size + 2 ≤ wf.heap.size := Nat.le_trans hss hgf.size
                have HMF : Hid (Mrow (w.heap.size + 2) wf (.slice am M.length cm) M' X' ∧ wf.ownsRow (w.heap.size + 2) 9 1 (.slice avr R'.length cvr) R'.length (R'.map strV) ∧ (∀ m ∈ M', MdOk m)) := ⟨hmf, hrf, hM'⟩
                clear hmr hnl' hnm hrr hM' hbb hcc hgg hss hgf hmf hrf hvm'
                go_wp2
                go_loopw [13, 14] (fun va i V => ∃ (j at' : Nat) (F : List Int) (vf : Value), j ≤ 2 ∧ i = .int .i64 j ∧ va = .int .i64 at' ∧ at' ≤ 6 * (2 - j) ∧ F.length + j ≤ 2 ∧ V.ownsRow (w.heap.size + 2) 3 1 vf F.length (F.map i64V) ∧ Mrow (w.heap.size + 2) V (.slice am M.length cm) M' X' ∧ V.ownsRow (w.heap.size + 2) 9 1 (.slice avr R'.length cvr) R'.length (R'.map strV) ∧
                  V.heap[w.heap.size + 1]? = some (.cells #[.slice avr R'.length cvr, .slice am M.length cm, vf] 27 (0, 0)) ∧ Cur V C (n + 1250 + 4 * (2 - j)) ∧ wA.grownBy V (some C) ∧ w.heap.size + 2 ≤ V.heap.size) (fun _ i _ => (intOf i).toNat)
                case atStart => exact ⟨xf, 0, [], _, by omega, rfl, rfl, by omega, by simp; omega, World.ownsRow_nil _ _ _ _, HMF.out.1, HMF.out.2.1, hbf, hcf.mono (by omega), hgf', hsf⟩
                case round =>
                  obtain ⟨j, at', F, vf, hj, rfl, rfl, hat, hFj, hF, hMm, hRr, hbV, hcV, hgV, hsV⟩ := hrel
                  obtain ⟨af, cf, rfl, hcf2, _⟩ := row_form hF
                  by_cases hpos : 0 < j
                  · have hpos' : (0 : Int) < (j : Int) := by omega
                    have HV : Hid (Mrow (w.heap.size + 2) wr (.slice am M.length cm) M' X' ∧ wr.ownsRow (w.heap.size + 2) 9 1 (.slice avr R'.length cvr) R'.length (R'.map strV) ∧ wr.ownsRow (w.heap.size + 2) 3 1 (.slice af F.length cf) F.length (F.map i64V)) := ⟨hMm, hRr, hF⟩
                    clear hMm hRr hF
                    go_wp2_with fail
                    refine (pick_any C _ 2 _ hcV (by omega) (by decide) (by decide)).mono ?_
                    rintro e w3 ⟨z, rfl, hz, hc3, hg3⟩
                    have hb3 : w3.heap[w.heap.size + 1]? = _ := (grown_keep hg3 (by omega) (by intro e; simp at e; omega)).trans hbV
                    have HB : Hid (Mrow (w.heap.size + 2) w3 (.slice am M.length cm) M' X' ∧ w3.ownsRow (w.heap.size + 2) 9 1 (.slice avr R'.length cvr) R'.length (R'.map strV) ∧ w3.ownsRow (w.heap.size + 2) 3 1 (.slice af F.length cf) F.length (F.map i64V)) := ⟨HV.out.1.draw hg3 (by omega), own_draw HV.out.2.1 hg3 (by omega), own_draw HV.out.2.2 hg3 (by omega)⟩
                    have HC : Hid (Cur w3 C (n + 1250 + 4 * (2 - j) + 2) ∧ wA.grownBy w3 (some C)) := ⟨hc3, grown_trans hgV hg3⟩
                    have b0 : w3.cell? ⟨w.heap.size + 1, 0, none⟩ = some (.slice avr R'.length cvr) := by simp [World.cell?, hb3]
                    have b1 : w3.cell? ⟨w.heap.size + 1, 1, none⟩ = some (.slice am M.length cm) := by simp [World.cell?, hb3]
                    have b2 : w3.cell? ⟨w.heap.size + 1, 2, none⟩ = some (.slice af F.length cf) := by simp [World.cell?, hb3]
                    have hs3 : w.heap.size + 2 ≤ w3.heap.size := Nat.le_trans hsV hg3.size
                    clear HV hc3 hg3 hgV hcV hbV
                    by_cases hz0' : z = 0
                    · subst hz0'
                      clear b0 b1 b2
                      go_wp2_with fail
                      refine (pick_any C _ 6 _ HC.out.1 (by omega) (by decide) (by decide)).mono ?_
                      rintro e w4 ⟨y, rfl, hy, hc4, hg4⟩
                      have hb4 : w4.heap[w.heap.size + 1]? = _ := (grown_keep hg4 (by omega) (by intro e; simp at e; omega)).trans hb3
                      have b2 : w4.cell? ⟨w.heap.size + 1, 2, none⟩ = some (.slice af F.length cf) := by simp [World.cell?, hb4]
                      have hf4 := own_draw HB.out.2.2 hg4 (by omega)
                      have hs4 : w.heap.size + 2 ≤ w4.heap.size := Nat.le_trans hs3 hg4.size
                      have HD : Hid (Mrow (w.heap.size + 2) w4 (.slice am M.length cm) M' X' ∧ w4.ownsRow (w.heap.size + 2) 9 1 (.slice avr R'.length cvr) R'.length (R'.map strV) ∧ Cur w4 C (n + 1250 + 4 * (2 - j) + 2 + 2) ∧ wA.grownBy w4 (some C)) := ⟨HB.out.1.draw hg4 (by omega), own_draw HB.out.2.1 hg4 (by omega), hc4, grown_trans HC.out.2 hg4⟩
                      clear hc4 hg4 HB HC hb3
                      go_wp2_with (at_builtin; refine wpList_app1 _ rfl _ _ 25 rfl (w.heap.size + 2) 3 i3 (.int .i64 0) 8 Tryz.underlying25 mi mz0 mz1 mz2 rfl _ _ _ rfl (hf4.alloc _) ⟨_, 0, none⟩ 1 (.int .i64 ((at' : Int) + (y : Int))) rfl (cell_one_new _ _ _) (by simp [Value.oneCell']) (by unfold maxLen; omega) (by omega) (by simp; omega) ?_; intro v5 w5 h5 hg5 hl5; obtain ⟨a5, c5, rfl, _, _⟩ := row_form h5; have hb5 : w5.heap[w.heap.size + 1]? = some (.cells #[.slice avr R'.length cvr, .slice am M.length cm, .slice af F.length cf] 27 (0, 0)) := (grown_keep hg5 (by simp; omega) (blk_ne hb4 hf4 (by decide))).trans ((old_blk _ _ (by omega)).trans hb4); have c52 : w5.cell? ⟨w.heap.size + 1, 2, none⟩ = some (.slice af F.length cf) := (by simp [World.cell?, hb5]); have f52 : w5.frozen? ⟨w.heap.size + 1, 2, none⟩ = false := (by simp [World.frozen?, hb5]))
                      have hM5 := ((HD.out.1.alloc (.cells #[.int .i64 ((at' : Int) + (y : Int))] 3)).other (hf4.alloc (.cells #[.int .i64 ((at' : Int) + (y : Int))] 3)) (by decide) (by decide) hg5).set (B := w.heap.size + 1) (by omega) 2 (.slice a5 (F.length + 1) c5)
                      have hR5' := own_set (own_other (HD.out.2.1.alloc (.cells #[.int .i64 ((at' : Int) + (y : Int))] 3)) (hf4.alloc (.cells #[.int .i64 ((at' : Int) + (y : Int))] 3)) (by decide) hg5) (by omega : w.heap.size + 1 < w.heap.size + 2) 2 (.slice a5 (F.length + 1) c5)
                      have hF5 : (w5.setCell ⟨w.heap.size + 1, 2, none⟩ (.slice a5 (F.length + 1) c5)).ownsRow (w.heap.size + 2) 3 1 (.slice a5 (F.length + 1) c5) (F ++ [(at' : Int) + (y : Int)]).length ((F ++ [(at' : Int) + (y : Int)]).map i64V) := by
                        rw [List.map_append, List.map_singleton, List.length_append, List.length_singleton]; exact own_set h5 (by omega) 2 _
                      have hc5 := ((HD.out.2.2.1.alloc (.cells #[.int .i64 ((at' : Int) + (y : Int))] 3)).kept hg5 (fun r e => by have := far_row hf4 (Nat.le_refl _) r e; omega)).kept (grown_set w5 ⟨w.heap.size + 1, 2, none⟩ (.slice a5 (F.length + 1) c5)) (fun r e => by simp at e; omega)
                      have hg6 := grown_far (grown_far (grown_trans HD.out.2.2.2 (grown_alloc_some w4 (.cells #[.int .i64 ((at' : Int) + (y : Int))] 3) C)) hg5 (fun r e => by have := far_row hf4 (Nat.le_refl _) r e; omega)) (grown_set w5 ⟨w.heap.size + 1, 2, none⟩ (.slice a5 (F.length + 1) c5)) (fun r e => by simp at e; omega)
                      have hs5 : w.heap.size + 2 ≤ w5.heap.size := by have := hg5.size; simp at this; omega
                      clear hf4 h5 hg5 hl5
                      go_roundw
                      case rel => exact ⟨j - 1, at' + y + 1, F ++ [(at' : Int) + (y : Int)], _, by omega, by go_num, by go_num, by omega, by simp; omega, hF5, hM5, hR5', blk_set hb5 _, hc5.mono (by omega), hg6, by simpa [World.setCell] using hs5⟩
                      case measure => simp [intOf]; omega
                    · have hzb : ((z : Int) == 0) = false := by rw [beq_eq_false_iff_ne]; omega
                      have rb := (HC.out.2.block w.heap.size (by omega) (by intro e; cases e; omega)).trans HWA.out.1
                      have r0 : w3.cell? ⟨w.heap.size, 0, none⟩ = some (.slice none 0 0) := by simp [World.cell?, rb]
                      have r1 : w3.cell? ⟨w.heap.size, 1, none⟩ = some (.slice none 0 0) := by simp [World.cell?, rb]
                      have r2 : w3.cell? ⟨w.heap.size, 2, none⟩ = some (.slice none 0 0) := by simp [World.cell?, rb]
                      have t0 : w3.frozen? ⟨w.heap.size, 0, none⟩ = false := by simp [World.frozen?, rb]
                      have t1 : w3.frozen? ⟨w.heap.size, 1, none⟩ = false := by simp [World.frozen?, rb]
                      have t2 : w3.frozen? ⟨w.heap.size, 2, none⟩ = false := by simp [World.frozen?, rb]
                      obtain ⟨V, hV⟩ : ∃ V, V = ((w3.setCell ⟨w.heap.size, 0, none⟩ (.slice avr R'.length cvr)).setCell ⟨w.heap.size, 1, none⟩ (.slice am M.length cm)).setCell ⟨w.heap.size, 2, none⟩ (.slice af F.length cf) := ⟨_, rfl⟩
                      have hbv : V.heap[w.heap.size]? = some (.cells #[.slice avr R'.length cvr, .slice am M.length cm, .slice af F.length cf] 27 (0, 0)) := by rw [hV, blk_set (blk_set (blk_set rb _) _) _]; rfl
                      have hVg : w3.grownBy V (some w.heap.size) := by rw [hV]; exact grown_trans (grown_trans (grown_set w3 ⟨w.heap.size, 0, none⟩ _) (grown_set _ ⟨w.heap.size, 1, none⟩ _)) (grown_set _ ⟨w.heap.size, 2, none⟩ _)
                      have HV : Hid (V = ((w3.setCell ⟨w.heap.size, 0, none⟩ (.slice avr R'.length cvr)).setCell ⟨w.heap.size, 1, none⟩ (.slice am M.length cm)).setCell ⟨w.heap.size, 2, none⟩ (.slice af F.length cf)) := hV
                      clear hV
                      go_wp2
                      rw [← HV.out]
                      refine bodyPost_ret (v := .agg #[.slice avr R'.length cvr, .slice am M.length cm, .slice af F.length cf]) (by simp [results, Tryz.results12, go_sem, World.cell?, hbv]) rfl ?_
                      exact ⟨_, ⟨R', M', F⟩, rfl, ⟨_, _, _, X', rfl, own_draw HB.out.2.1 hVg (by omega), HB.out.1.draw hVg (by omega), own_draw HB.out.2.2 hVg (by omega)⟩, hR5.1, hR5.2, by show M'.length ≤ 7; omega, HMF.out.2.2, by show F.length ≤ 2; omega, (HC.out.1.kept hVg (fun r e => by cases e; omega)).mono (by omega), grown_far (grown_trans HWA.out.2 HC.out.2) hVg (fun r e => by cases e; omega)⟩
                  · obtain rfl : j = 0 := by omega
                    have b0 : wr.cell? ⟨w.heap.size + 1, 0, none⟩ = some (.slice avr R'.length cvr) := by simp [World.cell?, hbV]
                    have b1 : wr.cell? ⟨w.heap.size + 1, 1, none⟩ = some (.slice am M.length cm) := by simp [World.cell?, hbV]
                    have b2 : wr.cell? ⟨w.heap.size + 1, 2, none⟩ = some (.slice af F.length cf) := by simp [World.cell?, hbV]
                    have HB : Hid (Mrow (w.heap.size + 2) wr (.slice am M.length cm) M' X' ∧ wr.ownsRow (w.heap.size + 2) 9 1 (.slice avr R'.length cvr) R'.length (R'.map strV) ∧ wr.ownsRow (w.heap.size + 2) 3 1 (.slice af F.length cf) F.length (F.map i64V)) := ⟨hMm, hRr, hF⟩
                    have HC : Hid (Cur wr C (n + 1250 + 4 * (2 - 0)) ∧ wA.grownBy wr (some C)) := ⟨hcV, hgV⟩
                    clear hMm hRr hF
                    have rb := (HC.out.2.block w.heap.size (by omega) (by intro e; cases e; omega)).trans HWA.out.1
                    have r0 : wr.cell? ⟨w.heap.size, 0, none⟩ = some (.slice none 0 0) := by simp [World.cell?, rb]
                    have r1 : wr.cell? ⟨w.heap.size, 1, none⟩ = some (.slice none 0 0) := by simp [World.cell?, rb]
                    have r2 : wr.cell? ⟨w.heap.size, 2, none⟩ = some (.slice none 0 0) := by simp [World.cell?, rb]
                    have t0 : wr.frozen? ⟨w.heap.size, 0, none⟩ = false := by simp [World.frozen?, rb]
                    have t1 : wr.frozen? ⟨w.heap.size, 1, none⟩ = false := by simp [World.frozen?, rb]
                    have t2 : wr.frozen? ⟨w.heap.size, 2, none⟩ = false := by simp [World.frozen?, rb]
                    obtain ⟨V, hV⟩ : ∃ V, V = ((wr.setCell ⟨w.heap.size, 0, none⟩ (.slice avr R'.length cvr)).setCell ⟨w.heap.size, 1, none⟩ (.slice am M.length cm)).setCell ⟨w.heap.size, 2, none⟩ (.slice af F.length cf) := ⟨_, rfl⟩
                    have hbv : V.heap[w.heap.size]? = some (.cells #[.slice avr R'.length cvr, .slice am M.length cm, .slice af F.length cf] 27 (0, 0)) := by rw [hV, blk_set (blk_set (blk_set rb _) _) _]; rfl
                    have hVg : wr.grownBy V (some w.heap.size) := by rw [hV]; exact grown_trans (grown_trans (grown_set wr ⟨w.heap.size, 0, none⟩ _) (grown_set _ ⟨w.heap.size, 1, none⟩ _)) (grown_set _ ⟨w.heap.size, 2, none⟩ _)
                    have HV : Hid (V = ((wr.setCell ⟨w.heap.size, 0, none⟩ (.slice avr R'.length cvr)).setCell ⟨w.heap.size, 1, none⟩ (.slice am M.length cm)).setCell ⟨w.heap.size, 2, none⟩ (.slice af F.length cf)) := hV
                    clear hV
                    go_wp2
                    rw [← HV.out]
                    refine bodyPost_ret (v := .agg #[.slice avr R'.length cvr, .slice am M.length cm, .slice af F.length cf]) (by simp [results, Tryz.results12, go_sem, World.cell?, hbv]) rfl ?_
                    exact ⟨_, ⟨R', M', F⟩, rfl, ⟨_, _, _, X', rfl, own_draw HB.out.2.1 hVg (by omega), HB.out.1.draw hVg (by omega), own_draw HB.out.2.2 hVg (by omega)⟩, hR5.1, hR5.2, by show M'.length ≤ 7; omega, HMF.out.2.2, by show F.length ≤ 2; omega, (HC.out.1.kept hVg (fun r e => by cases e; omega)).mono (by omega), grown_far (grown_trans HWA.out.2 HC.out.2) hVg (fun r e => by cases e; omega)⟩
end Go.Proofs.YtimgafblpmjajaaGreat
