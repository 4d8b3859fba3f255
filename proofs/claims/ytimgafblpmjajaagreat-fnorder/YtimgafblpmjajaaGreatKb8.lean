import Derived.Test.YtimgafblpmjajaaGreatKb7
namespace Go.Proofs.YtimgafblpmjajaaGreat
open Go.RowKit

theorem cur_new {w : World} {a : Option Addr} {len cap : Nat} (hlc : len ≤ cap) (hl : len ≤ 1048576) (h : ∀ i, i < len → ∃ b o z, a = some ⟨b, o, none⟩ ∧ b < w.heap.size ∧ 0 ≤ z ∧ z ≤ 255 ∧ w.cell? ⟨b, o + i, none⟩ = some (.int .u8 z)) :
    Cur (w.alloc (.cells #[.slice a len cap, .int .i64 0, .int .u64 0] 44)) w.heap.size 0 := by
  refine ⟨a, len, cap, 0, 0, heap_alloc_new w _, Nat.le_refl _, hlc, hl, fun i hi => ?_⟩
  obtain ⟨b, o, z, ha, hlt, h0, h255, hc⟩ := h i hi
  exact ⟨b, o, z, ha, hlt, h0, h255, by rw [World.cell?_alloc_past _ _ _ hlt]; exact hc⟩

theorem below_grown_new {w w' : World} {o : Obj} (hg : (w.alloc o).grownBy w' (some w.heap.size)) : Below w.heap.size w w' :=
  ((Below.refl _ w).alloc (Nat.le_refl _) o).grown hg (by simp) (fun k e => by cases e; exact Nat.le_refl _)

theorem total_le (n : Nat) (R : List (List UInt8)) (h : ∀ l ∈ R, l.length ≤ n) : Pl.total R ≤ (n + 1) * R.length := by
  induction R with
  | nil => simp [Pl.total, Lib.lens]
  | cons x r ih =>
    have h1 := h x (by simp)
    have h2 := ih (fun l hl => h l (by simp [hl]))
    simp only [Pl.total, Lib.lens, List.map_cons, List.sum_cons, List.length_cons, Nat.mul_add] at h2 ⊢
    omega
theorem sum_le (n : Nat) : ∀ L : List Nat, (∀ x ∈ L, x ≤ n) → L.sum ≤ n * L.length
  | [], _ => by simp
  | x :: r, h => by
    have h1 := h x (by simp)
    have h2 := sum_le n r (fun l hl => h l (by simp [hl]))
    simp only [List.sum_cons, List.length_cons, Nat.mul_add]
    omega
theorem mdOk_t {m : Md} (h : MdOk m) : m.t ≤ 200 := by
  obtain ⟨h1, h2, h3⟩ := h
  have h4 := sum_le 20 (m.lines.map Ln.t) (fun x hx => by
    obtain ⟨l, hl, rfl⟩ := List.mem_map.1 hx
    exact h3 l hl)
  rw [List.length_map] at h4
  unfold Md.t lnsT
  omega
theorem drawn_t {D : Wd} (h1 : D.roots.length ≤ 3) (h2 : ∀ l ∈ D.roots, l.length ≤ 3) (h3 : D.mods.length ≤ 7) (h4 : ∀ m ∈ D.mods, MdOk m) (h5 : D.faults.length ≤ 2) : D.t ≤ 1048576 := by
  have a1 := total_le 3 D.roots h2
  have a2 := sum_le 200 (D.mods.map Md.t) (fun x hx => by
    obtain ⟨m, hm, rfl⟩ := List.mem_map.1 hx
    exact mdOk_t (h4 m hm))
  rw [List.length_map] at a2
  unfold Wd.t mdsT
  omega

set_option linter.unusedSimpArgs false in
set_option maxHeartbeats 4000000 in
set_option maxRecDepth 100000 in
theorem drawn_ok : DrawnOk := by
  intro a len cap w hlc hl h
  obtain ⟨W0, hW0⟩ : ∃ W0, W0 = w.alloc (.cells #[.slice none 0 0, .slice none 0 0, .slice none 0 0] 27) := ⟨_, rfl⟩
  have hs0 : W0.heap.size = w.heap.size + 1 := by rw [hW0]; simp
  have hb0 : W0.heap[w.heap.size]? = some (.cells #[.slice none 0 0, .slice none 0 0, .slice none 0 0] 27 (0, 0)) := by rw [hW0]; exact new_blk _ _
  have hB0 : Below w.heap.size w W0 := by rw [hW0]; exact (Below.refl _ w).alloc (Nat.le_refl _) _
  have h0 : ∀ i, i < len → ∃ b o z, a = some ⟨b, o, none⟩ ∧ b < W0.heap.size ∧ 0 ≤ z ∧ z ≤ 255 ∧ W0.cell? ⟨b, o + i, none⟩ = some (.int .u8 z) := fun i hi => by
    obtain ⟨b, o, z, ha, hlt, h0, h255, hc⟩ := h i hi
    exact ⟨b, o, z, ha, by omega, h0, h255, by rw [hW0, World.cell?_alloc_past _ _ _ hlt]; exact hc⟩
  have hcur := cur_new hlc hl h0
  rw [hs0] at hcur
  obtain ⟨W1, hW1⟩ : ∃ W1, W1 = W0.alloc (.cells #[.slice a len cap, .int .i64 0, .int .u64 0] 44) := ⟨_, rfl⟩
  rw [← hW1] at hcur
  have hs1 : W1.heap.size = w.heap.size + 2 := by rw [hW1]; simp; omega
  have hg01 : W0.grownBy W1 (some (w.heap.size + 1)) := by rw [hW1]; exact grown_alloc_some _ _ _
  have HW1 : Hid ((w.alloc (.cells #[.slice none 0 0, .slice none 0 0, .slice none 0 0] 27)).alloc (.cells #[.slice a len cap, .int .i64 0, .int .u64 0] 44) = W1) := by rw [hW1, hW0]; exact rfl
  clear h h0 hW0 hW1
  have hwd := world_any (w.heap.size + 1) 0 W1 hcur (by decide)
  rw [hs1] at hwd
  go_enter Tryz.func4, Tryz.ntmps4
  go_wp2_with fail
  rw [HW1.out]
  refine hwd.mono ?_
  rintro e w1 ⟨v, D, rfl, hW, hr1, hr2, hm1, hm2, hf1, hc1, hg1⟩
  have hDt := drawn_t hr1 hr2 hm1 hm2 hf1
  have hGW := grown_trans hg01 hg1
  obtain ⟨r, m, f, X, rfl, h1, h2, h3⟩ := hW
  obtain ⟨a1, k1, rfl, _, _⟩ := row_form h1
  obtain ⟨a2, k2, rfl, _, _⟩ := row_form h2.1
  obtain ⟨a3, k3, rfl, _, _⟩ := row_form h3
  have hs1' : w.heap.size + 2 ≤ w1.heap.size := by have := hg1.size; omega
  obtain ⟨V, hV⟩ : ∃ V, V = w1.alloc (.cells #[.slice a1 D.roots.length k1, .slice a2 D.mods.length k2, .slice a3 D.faults.length k3] 27) := ⟨_, rfl⟩
  have hVs : V.heap.size = w1.heap.size + 1 := by rw [hV]; simp
  have hVb : V.heap[w1.heap.size]? = some (.cells #[.slice a1 D.roots.length k1, .slice a2 D.mods.length k2, .slice a3 D.faults.length k3] 27 (0, 0)) := by rw [hV]; exact new_blk _ _
  have hVc : Cur V (w.heap.size + 1) 2400 := by rw [hV]; exact hc1.alloc _
  have hVg : w1.grownBy V (some (w.heap.size + 1)) := by rw [hV]; exact grown_alloc_some _ _ _
  have hWds : Wds V (.agg #[.slice a1 D.roots.length k1, .slice a2 D.mods.length k2, .slice a3 D.faults.length k3]) D := by
    refine Wdo.wds (base := w.heap.size + 2 + 2) ⟨_, _, _, X, rfl, ?_, ?_, ?_⟩
    · rw [hV]; exact h1.alloc _
    · rw [hV]; exact h2.alloc _
    · rw [hV]; exact h3.alloc _
  have hMo : V.ownsRow (w.heap.size + 1 + 1) 39 2 (.slice a2 D.mods.length k2) D.mods.length X := own_mono (own_draw h2.1 hVg (by omega)) (by omega)
  have hNm : NmX D.mods X := fun j hj => by obtain ⟨ls, hx, _⟩ := h2.2 j hj; exact hx
  have hG0 := grown_trans hGW hVg
  have HV : Hid (V = w1.alloc (.cells #[.slice a1 D.roots.length k1, .slice a2 D.mods.length k2, .slice a3 D.faults.length k3] 27)) := hV
  have HWO : Hid (Wdo (w.heap.size + 2 + 2) V (.agg #[.slice a1 D.roots.length k1, .slice a2 D.mods.length k2, .slice a3 D.faults.length k3]) D) := by
    refine ⟨_, _, _, X, rfl, ?_, ?_, ?_⟩
    · rw [hV]; exact h1.alloc _
    · rw [hV]; exact h2.alloc _
    · rw [hV]; exact h3.alloc _
  have HP : Hid (∀ V', V.grownBy V' (some (w.heap.size + 1)) → Cur V' (w.heap.size + 1) 2400 → Calls Tryz.prog 13 #[.pointer (some ⟨w.heap.size + 1, 0, none⟩), .agg #[.slice a1 D.roots.length k1, .slice a2 D.mods.length k2, .slice a3 D.faults.length k3]] V' fun e w3 => ∃ q : ByteArray, e = .returned (.string q) ∧ q.size ≤ 20 ∧ V.grownBy w3 (some (w.heap.size + 1))) := by
    intro V' hg' hc'
    refine (main_any (w.heap.size + 1) 2400 (.slice a1 D.roots.length k1) (.slice a3 D.faults.length k3) a2 k2 D.mods X V' hc' (by decide) (own_draw hMo hg' (by omega)) hNm (fun m hm => (hm2 m hm).1) (by omega) ⟨_, _, _, rfl⟩ ⟨_, _, _, rfl⟩).mono ?_
    rintro e w3 ⟨q, rfl, hq, hc3, hg3⟩
    exact ⟨q, rfl, hq, grown_trans hg' hg3⟩
  clear h1 h2 h3 hMo hNm hm2 hwd hc1 hcur hV hWds
  go_wp2
  clear hG0
  have hbV0 : V.heap[w.heap.size]? = some (.cells #[.slice none 0 0, .slice none 0 0, .slice none 0 0] 27 (0, 0)) := (hVg.block _ (by omega) (by intro e; simp at e)).trans ((hGW.block _ (by omega) (by intro e; simp at e)).trans hb0)
  have HPD := HP.out V.drew (grown_drewD V _) hVc
  have HBX : Hid (∀ w3, V.grownBy w3 (some (w.heap.size + 1)) → w3.heap[w1.heap.size]? = some (.cells #[.slice a1 D.roots.length k1, .slice a2 D.mods.length k2, .slice a3 D.faults.length k3] 27 (0, 0)) ∧ w3.heap[w.heap.size]? = some (.cells #[.slice none 0 0, .slice none 0 0, .slice none 0 0] 27 (0, 0))) := fun w3 hg3 =>
    ⟨(hg3.block _ (by omega) (by intro e; simp at e; omega)).trans hVb, (hg3.block _ (by omega) (by intro e; simp at e)).trans hbV0⟩
  have P0 : V.cell? ⟨w1.heap.size, 0, none⟩ = some (.slice a1 D.roots.length k1) := by simp [World.cell?, hVb]
  have P1 : V.cell? ⟨w1.heap.size, 1, none⟩ = some (.slice a2 D.mods.length k2) := by simp [World.cell?, hVb]
  have P2 : V.cell? ⟨w1.heap.size, 2, none⟩ = some (.slice a3 D.faults.length k3) := by simp [World.cell?, hVb]
  clear hVb hbV0 HP
  rw [← HV.out]
  refine wp_region_held_drew (S := (fun w' => w'.cell? ⟨w1.heap.size, 0, none⟩ = some (.slice a1 D.roots.length k1) ∧ w'.cell? ⟨w1.heap.size, 1, none⟩ = some (.slice a2 D.mods.length k2) ∧ w'.cell? ⟨w1.heap.size, 2, none⟩ = some (.slice a3 D.faults.length k3))) (by kernel_rfl) ⟨P0, P1, P2⟩ (fun hHeld => ?_)
  refine wpAnyH_take (i := 0) (v := ?_) rfl (by kernel_rfl) (by kernel_rfl) (by kernel_rfl) (fun _ _ _ h => h) (Or.inl ⟨by rfl, ?_⟩) (by assumption) ?_
  case refine_2 => (intro w' hSw; go_simp; with_reducible rfl)
  (simp only [List.getElem_toArray, List.getElem_cons_zero, List.getElem_cons_succ, Act.put, List.setIfInBounds_toArray, List.set_cons_zero, List.set_cons_succ])
  refine wpAnyH_take (i := 1) (v := ?_) rfl (by kernel_rfl) (by kernel_rfl) (by kernel_rfl) (fun _ _ _ h => h) (Or.inl ⟨by rfl, ?_⟩) (by assumption) ?_
  case refine_2 => (intro w' hSw; go_simp; with_reducible rfl)
  (simp only [List.getElem_toArray, List.getElem_cons_zero, List.getElem_cons_succ, Act.put, List.setIfInBounds_toArray, List.set_cons_zero, List.set_cons_succ])
  refine wpAnyH_take (i := 2) (v := ?_) rfl (by kernel_rfl) (by kernel_rfl) (by kernel_rfl) (fun _ _ _ h => h) (Or.inl ⟨by rfl, ?_⟩) (by assumption) ?_
  case refine_2 => (intro w' hSw; go_simp; with_reducible rfl)
  (simp only [List.getElem_toArray, List.getElem_cons_zero, List.getElem_cons_succ, Act.put, List.setIfInBounds_toArray, List.set_cons_zero, List.set_cons_succ])
  refine wpAnyH_ready (rs := [3]) (by kernel_rfl) (by simp) ?_
  refine AllReadyH.cons rfl (fun K hK => ?_) AllReadyH.nil
  go_simp
  refine HPD.mono ?_
  rintro e w3 ⟨q, rfl, hq, hg3⟩
  obtain ⟨hx1, hx0⟩ := HBX.out w3 hg3
  have p0 : w3.cell? ⟨w1.heap.size, 0, none⟩ = some (.slice a1 D.roots.length k1) := by simp [World.cell?, hx1]
  have p1 : w3.cell? ⟨w1.heap.size, 1, none⟩ = some (.slice a2 D.mods.length k2) := by simp [World.cell?, hx1]
  have p2 : w3.cell? ⟨w1.heap.size, 2, none⟩ = some (.slice a3 D.faults.length k3) := by simp [World.cell?, hx1]
  have r0 : w3.cell? ⟨w.heap.size, 0, none⟩ = some (.slice none 0 0) := by simp [World.cell?, hx0]
  have r1 : w3.cell? ⟨w.heap.size, 1, none⟩ = some (.slice none 0 0) := by simp [World.cell?, hx0]
  have r2 : w3.cell? ⟨w.heap.size, 2, none⟩ = some (.slice none 0 0) := by simp [World.cell?, hx0]
  have t0 : w3.frozen? ⟨w.heap.size, 0, none⟩ = false := by simp [World.frozen?, hx0]
  have t1 : w3.frozen? ⟨w.heap.size, 1, none⟩ = false := by simp [World.frozen?, hx0]
  have t2 : w3.frozen? ⟨w.heap.size, 2, none⟩ = false := by simp [World.frozen?, hx0]
  obtain ⟨U, hU⟩ : ∃ U, U = ((w3.setCell ⟨w.heap.size, 0, none⟩ (.slice a1 D.roots.length k1)).setCell ⟨w.heap.size, 1, none⟩ (.slice a2 D.mods.length k2)).setCell ⟨w.heap.size, 2, none⟩ (.slice a3 D.faults.length k3) := ⟨_, rfl⟩
  have hUb : U.heap[w.heap.size]? = some (.cells #[.slice a1 D.roots.length k1, .slice a2 D.mods.length k2, .slice a3 D.faults.length k3] 27 (0, 0)) := by rw [hU, blk_set (blk_set (blk_set hx0 _) _) _]; rfl
  have hUg : w3.grownBy U (some w.heap.size) := by rw [hU]; exact grown_trans (grown_trans (grown_set w3 ⟨w.heap.size, 0, none⟩ _) (grown_set _ ⟨w.heap.size, 1, none⟩ _)) (grown_set _ ⟨w.heap.size, 2, none⟩ _)
  have hU1 : U.heap[w1.heap.size]? = some (.cells #[.slice a1 D.roots.length k1, .slice a2 D.mods.length k2, .slice a3 D.faults.length k3] 27 (0, 0)) := (hUg.block _ (by have := hg3.size; omega) (by intro e; simp at e; omega)).trans hx1
  have HU : Hid (((w3.setCell ⟨w.heap.size, 0, none⟩ (.slice a1 D.roots.length k1)).setCell ⟨w.heap.size, 1, none⟩ (.slice a2 D.mods.length k2)).setCell ⟨w.heap.size, 2, none⟩ (.slice a3 D.faults.length k3) = U) := hU.symm
  clear hU
  first | refine hK.out _ _ ⟨p0, p1, p2⟩ (fun hHeld => ?_) | (go_wp2_with fail; refine hK.out _ _ ⟨p0, p1, p2⟩ (fun hHeld => ?_))
  clear hK K
  (try simp only [List.getElem_toArray, List.getElem_cons_zero, List.getElem_cons_succ, Act.put, List.setIfInBounds_toArray, List.set_cons_zero, List.set_cons_succ])
  refine wpAnyH_ready (rs := [4]) (by kernel_rfl) (by simp) ?_
  refine AllReadyH.cons rfl (fun K hK => ?_) AllReadyH.nil
  go_simp
  rw [HU.out]
  refine hK.out _ _ ⟨by simp [World.cell?, hU1], by simp [World.cell?, hU1], by simp [World.cell?, hU1]⟩ (fun hHeld => ?_)
  clear hK K
  refine wpAnyH_take (i := 5) (v := ?_) rfl (by kernel_rfl) (by kernel_rfl) (by kernel_rfl) (fun _ _ _ h => h) (Or.inl ⟨by rfl, ?_⟩) (by assumption) ?_
  case refine_2 => (intro w' hSw; go_simp; with_reducible rfl)
  (simp only [List.getElem_toArray, List.getElem_cons_zero, List.getElem_cons_succ, Act.put, List.setIfInBounds_toArray, List.set_cons_zero, List.set_cons_succ])
  refine wpAnyH_done (by kernel_rfl) ?_ _
  have hW3 : Wdo (w.heap.size + 2 + 2) U (.agg #[.slice a1 D.roots.length k1, .slice a2 D.mods.length k2, .slice a3 D.faults.length k3]) D := by
    obtain ⟨r, m, f, X', e', g1, g2, g3⟩ := HWO.out
    exact ⟨r, m, f, X', e', own_draw (own_draw g1 hg3 (by omega)) hUg (by omega), (g2.draw hg3 (by omega)).draw hUg (by omega), own_draw (own_draw g3 hg3 (by omega)) hUg (by omega)⟩
  have hBel : Below w.heap.size w U := ((((hB0.grown hGW hB0.size (fun k e => by cases e; omega)).grown hVg (by omega) (fun k e => by cases e; omega)).grown hg3 (by omega) (fun k e => by cases e; omega)).grown hUg (by have := hg3.size; omega) (fun k e => by cases e; exact Nat.le_refl _))
  clear HWO HU HBX hHeld
  go_wp2
  refine bodyPost_ret (v := .tuple #[.agg #[.slice a1 D.roots.length k1, .slice a2 D.mods.length k2, .slice a3 D.faults.length k3], .string q]) (by simp [results, Tryz.results4, go_sem, World.cell?, hUb]) rfl ?_
  exact ⟨_, q, D, rfl, hW3.wds, hDt, hq, hBel⟩
end Go.Proofs.YtimgafblpmjajaaGreat
