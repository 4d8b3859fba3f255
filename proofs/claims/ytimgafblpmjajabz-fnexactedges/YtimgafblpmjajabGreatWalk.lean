
import Derived.Test.YtimgafblpmjajabGreatApp

namespace Go.Proofs.YtimgafblpmjajabGreat

open Go.RowKit

theorem walkP_succ (R ps : List (List UInt8)) (j : Nat) (hj : j < ps.length) (h : (Pl.walkP R (ps.take j)).2 = 0) :
    Pl.walkP R (ps.take (j + 1)) = if (Pl.stepW (Pl.walkP R (ps.take j)).1 ps[j]).2 = 0 then (Pl.stepW (Pl.walkP R (ps.take j)).1 ps[j]) else ([], (Pl.stepW (Pl.walkP R (ps.take j)).1 ps[j]).2) := by
  rw [List.take_succ_eq_append_getElem hj, Pl.walkP_append, if_pos h]
  simp only [Pl.walkP]
  split
  · rename_i h2; rw [← h2]
  · rfl

/-- Once it goes wrong it stays so. -/
theorem walkP_stop (R ps : List (List UInt8)) (j : Nat) (h : (Pl.walkP R (ps.take j)).2 ≠ 0) : Pl.walkP R ps = Pl.walkP R (ps.take j) := by
  conv => lhs; rw [← List.take_append_drop j ps]
  rw [Pl.walkP_append, if_neg h]

set_option maxHeartbeats 2000000 in
set_option maxRecDepth 100000 in
theorem l1walk_any (base : Nat) (v0 : Value) (R : List (List UInt8)) (s : ByteArray) (w : World) (hrow : w.ownsRow base 9 1 v0 R.length (R.map strV)) (hR : Pl.total R ≤ 1048576) (hs : s.size ≤ 1048576) :
    Calls Tryz.prog 98 #[v0, .string s] w fun e w' => ∃ v, e = .returned (.tuple #[v, .int .i64 (Pl.walkP R (Pl.split s.data.toList)).2]) ∧
      w'.ownsRow w.heap.size 9 1 v (Pl.walkP R (Pl.split s.data.toList)).1.length ((Pl.walkP R (Pl.split s.data.toList)).1.map strV) ∧ Below w.heap.size w w' := by
  obtain ⟨i0, hi, hz0, hz1, hz2⟩ := info_parts Tryz.info9
  obtain ⟨a, cap, rfl, hcap, hmax, hcell⟩ := row_shape hrow
  have hRl : R.length ≤ 1048576 := by unfold Pl.total at hR; omega
  have HC : Hid (∀ k, (hk : k < R.length) → ∃ g, a = some ⟨g, 0, none⟩ ∧ base ≤ g ∧ g < w.heap.size ∧ w.cell? ⟨g, k, none⟩ = some (strV R[k])) := hcell
  clear hcell hrow hmax
  obtain ⟨P, hP⟩ : ∃ P, P = Pl.split s.data.toList := ⟨_, rfl⟩
  have hPt : Pl.total P = s.data.toList.length + 1 := by rw [hP]; exact Pl.total_split _
  rw [show s.data.toList.length = s.size by simp] at hPt
  have hPn : P ≠ [] := by rw [hP]; exact Pl.splitTo_ne _ _
  rw [← hP]
  have HP : Hid (P = Pl.split s.data.toList) := hP
  clear hP
  have hPl : P.length ≤ 1048577 := by unfold Pl.total at hPt; omega
  have hPp : 0 < P.length := List.length_pos_iff.2 hPn
  have HW : Hid (∀ j, (Pl.walkP R (P.take j)).1.length ≤ 2097153) := by
    intro j
    have h1 := Pl.total_walkP R (P.take j)
    have h2 := total_take P j
    have h3 : (Pl.walkP R (P.take j)).1.length ≤ Pl.total (Pl.walkP R (P.take j)).1 := by unfold Pl.total; omega
    omega
  have HL : Hid (∀ j, (h : j < P.length) → P[j].length ≤ 1048577) := fun j h => by have := len_le_total P j h; omega
  clear hPt hPn
  go_enter Tryz.func98, Tryz.ntmps98
  go_wp2
  go_loopw [6, 14] (fun v i wr => ∃ k : Nat, k ≤ R.length ∧ i = .int .i64 k ∧ wr.ownsRow w.heap.size 9 1 v (R.take k).length ((R.take k).map strV) ∧ Below w.heap.size w wr) (fun _ i _ => R.length - (intOf i).toNat)
  case atStart => exact ⟨0, Nat.zero_le _, rfl, World.ownsRow_nil _ _ _ _, Below.refl _ _⟩
  case round =>
    obtain ⟨k, hk, rfl, hown, hB⟩ := hrel
    have hsz := hB.size
    by_cases hlt : k < R.length
    · obtain ⟨g, rfl, _, hg, hc⟩ := HC.out k hlt
      have hcr : wr.cell? ⟨g, k, none⟩ = some (.string ⟨R[k].toArray⟩) := (hB.cell (p := ⟨g, k, none⟩) hg).trans hc
      have hkl : (R.take k).length = k := by rw [List.length_take]; omega
      have hkb : (R.take k).length ≤ 1048576 := by omega
      clear hc hkl
      go_wp2_with (at_builtin; refine wpList_append_own _ rfl _ _ 22 rfl w.heap.size 9 i0 (.string ByteArray.empty) 1 16 Tryz.underlying22 hi hz0 hz1 hz2 rfl (by decide) _ _ _ rfl (hown.alloc _) ⟨wr.heap.size, 0, none⟩ 1 1 [.string ⟨R[k].toArray⟩] rfl rfl (cell_one_new _ _ _) (by simp [Value.oneCell']) (by unfold maxLen; omega) (by omega) (by simp; omega) ?_; intro v' w1 hown' hgrow _; have hb := below_append hB hsz hown hgrow; have ho := row_snoc (p := R[k]) rfl hown'; clear hown' hgrow hown)
      rw [← List.take_succ_eq_append_getElem hlt] at ho
      go_roundw
      case rel => exact ⟨k + 1, by omega, by go_num, ho, hb⟩
      case measure => simp [intOf]; omega
    · have hkR : R.take k = R := List.take_of_length_le (by omega)
      rw [hkR] at hown
      clear hkR
      go_wp2_with fail
      refine (l1parts_any s _ hs).mono ?_
      rintro e w2 ⟨vp, rfl, hpr, hpb⟩
      rw [← HP.out] at hpr
      have hown2 := own_below hown hpb (Nat.le_refl _)
      have hB2 : Below w.heap.size w w2 := hB.trans (hpb.mono hsz)
      have hap : Apart u6 vp := by
        cases hv : vp.ownBlock with
        | none => exact .inl hv
        | some g =>
          right; rw [hv]; intro e'
          have h1 := (hown.lt g e'.symm).2
          have h2 := (hpr.lt g hv).1
          omega
      obtain ⟨ap, capp, rfl, hcapp, _, hcellp⟩ := row_shape hpr
      obtain ⟨gp, rfl, hgp, _, _⟩ := hcellp 0 hPp
      clear hcellp hown hpb hB
      go_wp2
      go_loopw [6, 26] (fun v i wr' => ∃ j : Nat, j ≤ P.length ∧ i = .int .i64 j ∧ (Pl.walkP R (P.take j)).2 = 0 ∧ wr'.ownsRow w.heap.size 9 1 v (Pl.walkP R (P.take j)).1.length ((Pl.walkP R (P.take j)).1.map strV) ∧ wr'.ownsRow w.heap.size 9 1 (.slice (some ⟨gp, 0, none⟩) P.length capp) P.length (P.map strV) ∧ Apart v (.slice (some ⟨gp, 0, none⟩) P.length capp) ∧ Below w.heap.size w wr') (fun _ i _ => P.length - (intOf i).toNat)
      case atStart => exact ⟨0, Nat.zero_le _, rfl, rfl, hown2, own_mono hpr hsz, hap, hB2⟩
      case round =>
        obtain ⟨j, hj, rfl, hz, hown, hprj, hapj, hB⟩ := hrel
        have hsz' := hB.size
        have hbl := HW.out j
        by_cases hlt : j < P.length
        · have HS := walkP_succ R P j hlt hz
          have hql := HL.out j hlt
          obtain ⟨D, hD⟩ : ∃ D, D = (Pl.walkP R (P.take j)).1 := ⟨_, rfl⟩
          rw [← hD] at hown hbl HS
          obtain ⟨p, hp⟩ : ∃ p, p = P[j] := ⟨_, rfl⟩
          rw [← hp] at HS hql
          have HS' : Hid (Pl.walkP R (P.take (j + 1)) = if (Pl.stepW D p).2 = 0 then Pl.stepW D p else ([], (Pl.stepW D p).2)) := HS
          obtain ⟨q, hq⟩ : ∃ q : ByteArray, q.data.toList = p := ⟨⟨p.toArray⟩, by simp⟩
          have hcq : wr.cell? ⟨gp, j, none⟩ = some (.string q) := by
            rw [hprj.cellAt j (by omega)]; simp [hlt, ← hp, ← hq, strV_data]
          have hqs : q.size ≤ 1048577 := by rw [size_data, hq]; exact hql
          have hql' : q.toList = p := by rw [Go.ByteArray.toList_eq, hq]
          clear HS hD hz hp hql
          obtain ⟨a6, cap6, rfl, hcap6, _, _⟩ := row_shape hown
          by_cases c1 : p = [46]
          · have t1 : (q.toList == [46]) = true := by rw [hql', c1]; rfl
            have HF : Hid (Pl.walkP R (P.take (j + 1)) = (D, 0)) := by unfold Hid; rw [HS'.out]; simp [Pl.stepW, c1]
            clear hql' hq c1
            go_wp2
            go_roundw
            case rel => exact ⟨j + 1, by omega, by go_num, by rw [HF.out], by rw [HF.out]; exact hown, hprj, hapj, hB⟩
            case measure => simp [intOf]; omega
          · have t1 : (q.toList == [46]) = false := by rw [hql']; simpa using c1
            by_cases c2 : p = [46, 46]
            · have t2 : (q.toList == [46, 46]) = true := by rw [hql', c2]; rfl
              by_cases c3 : D = []
              · have t3 : ((D.length : Int) == 0) = true := by rw [c3]; rfl
                have HF : Hid (Pl.walkP R P = ([], 2)) := by
                  have h2 : Pl.walkP R (P.take (j + 1)) = ([], 2) := by rw [HS'.out]; simp [Pl.stepW, c2, c3]
                  unfold Hid; rw [walkP_stop R P (j + 1) (by rw [h2]; decide), h2]
                clear hql' hq c1 c2 c3
                go_wp2
                go_ret2
                exact ⟨_, by rw [HF.out]; rfl, by rw [HF.out]; exact World.ownsRow_nil _ _ _ _, hB⟩
              · have hDp : 0 < D.length := List.length_pos_iff.2 c3
                have t3 : ((D.length : Int) == 0) = false := by rw [beq_eq_false_iff_ne]; omega
                have HF : Hid (Pl.walkP R (P.take (j + 1)) = (D.dropLast, 0)) := by unfold Hid; rw [HS'.out]; simp [Pl.stepW, c2, c3]
                obtain ⟨g6, cap6', hv6, _, hpop⟩ := pop_row c3 hown
                cases hv6
                clear hql' hq c1 c2 c3
                go_wp2
                go_roundw
                case rel => exact ⟨j + 1, by omega, by go_num, by rw [HF.out], by rw [HF.out]; exact hpop, hprj, hapj, hB⟩
                case measure => simp [intOf]; omega
            · have t2 : (q.toList == [46, 46]) = false := by rw [hql']; simpa using c2
              by_cases c3 : p = []
              · have t3 : q.toList.isEmpty = true := by rw [hql', c3]; rfl
                have HF : Hid (Pl.walkP R P = ([], 1)) := by
                  have h2 : Pl.walkP R (P.take (j + 1)) = ([], 1) := by rw [HS'.out]; simp [Pl.stepW, c3, Pl.plainP]
                  unfold Hid; rw [walkP_stop R P (j + 1) (by rw [h2]; decide), h2]
                clear hql' hq c1 c2 c3
                go_wp2
                go_ret2
                exact ⟨_, by rw [HF.out]; rfl, by rw [HF.out]; exact World.ownsRow_nil _ _ _ _, hB⟩
              · have t3 : q.toList.isEmpty = false := by rw [hql']; simpa using c3
                have HG : Hid (p.all Pl.okB = true → Pl.walkP R (P.take (j + 1)) = (D ++ [p], 0)) := fun h => by
                  rw [HS'.out]; simp [Pl.stepW, c1, c2, Pl.plainP, c3, h]
                have HN : Hid (p.all Pl.okB = false → Pl.walkP R P = ([], 1)) := fun h => by
                  have h2 : Pl.walkP R (P.take (j + 1)) = ([], 1) := by rw [HS'.out]; simp [Pl.stepW, c1, c2, Pl.plainP, h]
                  rw [walkP_stop R P (j + 1) (by rw [h2]; decide), h2]
                have HQ : Hid (q.data.toList = p) := hq
                clear hql' hq c1 c2 c3 HS'
                go_wp2
                go_loop [11] (fun i => ∃ k : Nat, k ≤ q.size ∧ i = .int .i64 k ∧ (q.data.toList.take k).all Pl.okB = true) (fun i => q.size - (intOf i).toNat)
                case atStart => exact ⟨0, Nat.zero_le _, rfl, rfl⟩
                case round =>
                  obtain ⟨k, hk, rfl, hall⟩ := hrel
                  by_cases hkq : k < q.size
                  · cases hok : Pl.okB q[k] with
                    | true =>
                      have HA : Hid ((q.data.toList.take (k + 1)).all Pl.okB = true) := by unfold Hid; rw [take_snoc q k hkq, List.all_append, hall]; simp [hok]
                      clear hall
                      go_wp2_with (go_at_call 107; refine (l1byte_any _ _).mono ?_; rintro e w' ⟨rfl, rfl⟩)
                      go_round
                      case rel => exact ⟨k + 1, by omega, by go_num, HA.out⟩
                      case measure => simp [intOf]; omega
                    | false =>
                      have HF : Hid (Pl.walkP R P = ([], 1)) := HN.out (by
                        rw [← HQ.out, List.all_eq_false]
                        exact ⟨q[k], by show q.data[k] ∈ q.data.toList; simp, by simp [hok]⟩)
                      clear hall
                      go_wp2_with (go_at_call 107; refine (l1byte_any _ _).mono ?_; rintro e w' ⟨rfl, rfl⟩)
                      go_ret2
                      exact ⟨_, by rw [HF.out]; rfl, by rw [HF.out]; exact World.ownsRow_nil _ _ _ _, hB⟩
                  · have HF : Hid (Pl.walkP R (P.take (j + 1)) = (D ++ [p], 0)) := HG.out (by
                      rw [List.take_of_length_le (by rw [← size_data]; omega)] at hall
                      rw [← HQ.out]; exact hall)
                    clear hall
                    go_wp2_with (at_builtin; refine wpList_app1 _ rfl _ _ 22 rfl w.heap.size 9 i0 (.string ByteArray.empty) 16 Tryz.underlying22 hi hz0 hz1 hz2 rfl _ _ _ rfl (hown.alloc _) ⟨wr.heap.size, 0, none⟩ 1 (.string q) rfl (cell_one_new _ _ _) (by simp [Value.oneCell']) (by unfold maxLen; omega) (by omega) (by simp; omega) ?_; intro v' w1 hown' hgrow hsep; have hb := below_append hB hsz' hown hgrow; have hap' := hapj.app (hprj.alloc _) hsep; have hpr' := (hprj.alloc _).kept hgrow hapj; have ho := row_snoc (p := p) (by rw [← HQ.out, strV_data]) hown'; clear hown' hgrow hown hsep)
                    go_roundw
                    case rel => exact ⟨j + 1, by omega, by go_num, by rw [HF.out], by rw [HF.out]; exact ho, hpr', hap', hb⟩
                    case measure => simp [intOf]; omega
        · have hjP : P.take j = P := List.take_of_length_le (by omega)
          rw [hjP] at hown hz
          have HZ : Hid ((Pl.walkP R P).2 = 0) := hz
          clear hz hjP
          go_wp2
          go_ret2
          exact ⟨_, by rw [HZ.out]; rfl, hown, hB⟩

end Go.Proofs.YtimgafblpmjajabGreat
