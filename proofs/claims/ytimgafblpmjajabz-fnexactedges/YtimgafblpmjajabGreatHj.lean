import Derived.Test.YtimgafblpmjajabGreatHg
import Derived.Deep.RegionHeld3
namespace Go.Proofs.YtimgafblpmjajabGreat
open Go.RowKit Go.Maps

set_option linter.unusedSimpArgs false in
set_option maxHeartbeats 8000000 in
set_option maxRecDepth 100000 in
theorem gjoin_any {lo B mb g : Nat} {w : World} {r m f ve : Value} {S : List Value} {E : List Eg} {N : Nat} {DM : DataW Unit} (h : Gst lo B mb g w r m f ve S E E N DM) (line to : Int) (i : Nat) (hiN : i < N) (hto : to = -1 ∨ 0 ≤ to) (hE : E.length < 1048576) :
    Calls Tryz.prog 54 #[.pointer (some ⟨B, 0, none⟩), .agg #[.int .i64 (i : Int), .int .i64 line, .int .i64 to]] w fun ex w' => ex = .returned (.tuple #[]) ∧ (∃ ve' S', Gst lo B mb g w' r m f ve' S' (E ++ [⟨(i : Int), line, to⟩]) (E ++ [⟨(i : Int), line, to⟩]) N DM) ∧ Below lo w w' ∧ Kg w w' := by
  obtain ⟨i75, hi75, hz0, hz1, hz2⟩ := info_parts Tryz.info75
  obtain ⟨i3, hi3, jz0, jz1, jz2⟩ := info_parts Tryz.info3
  obtain ⟨av, cv, rfl, hcv, _⟩ := row_form h.edg
  obtain ⟨W0, hW0⟩ : ∃ W0, W0 = w.alloc (.cells #[.int .i64 (i : Int), .int .i64 line, .int .i64 to] 54) := ⟨_, rfl⟩
  have hG0 : Gst lo B mb g W0 r m f (.slice av E.length cv) S E E N DM := by rw [hW0]; exact h.alloc _
  have hs0 : W0.heap.size = w.heap.size + 1 := by rw [hW0]; simp
  have e3 := cells3 w (.int .i64 (i : Int)) (.int .i64 line) (.int .i64 to) 54
  rw [← hW0] at e3
  obtain ⟨x0, x1, x2⟩ := e3
  have hB0 : Below lo w W0 := by rw [hW0]; exact (Below.refl _ _).alloc (by have := h.lt; omega) _
  have hK0 : Kg w W0 := by rw [hW0]; exact Kg.of_keep (fun _ hb => old_blk w _ hb)
  have hel := fun b hb => (h.edg.lt b hb).2
  have HG : Hid (Gst lo B mb g W0.drew r m f (.slice av E.length cv) S E E N DM) := hG0.keep (fun _ _ => rfl)
  have HA : Hid (Below lo w W0 ∧ Kg w W0 ∧ ∀ b, (Value.slice av E.length cv).ownBlock = some b → b < w.heap.size) := ⟨hB0, hK0, hel⟩
  have hlt := hG0.lt
  have hlow := h.low
  obtain ⟨c0, c1, c2, c3, c4, c5, cf⟩ := hG0.cells
  have HW0 : Hid (W0 = w.alloc (.cells #[.int .i64 (i : Int), .int .i64 line, .int .i64 to] 54)) := hW0
  have HNEW : Hid (∀ j u, [Value.int .i64 (i : Int), .int .i64 line, .int .i64 to][j]? = some u → (W0.drew.alloc (.cells #[.int .i64 (i : Int), .int .i64 line, .int .i64 to] 54)).cell? ((⟨w.heap.size + 1, 0, none⟩ : Addr).add j) = some u) := by unfold Hid; rw [← hs0]; exact new3' W0.drew _ _ _ _
  have c4' : ∀ o', (W0.alloc o').cell? ⟨B, 4, none⟩ = some (.slice av E.length cv) := fun o' => below_cell0 ((Below.refl W0.heap.size W0).alloc (Nat.le_refl _) o') hlt.1 c4
  clear h c0 c1 c2 c3 c5 hG0 hB0 hK0 hel hW0
  go_enter Tryz.func54, Tryz.ntmps54
  go_wp2
  rw [← HW0.out]
  go_region_law (refine step_append_lies _ rfl (.tmp 8) (.tmp 10) 28 rfl lo 54 i75 _ 3 24 Tryz.underlying28 hi75 hz0 hz1 hz2 rfl (by decide) (.slice av E.length cv) E.length (E.flatMap egR) (by simp [Act.eval]) (HG.out.edg.alloc _) ⟨w.heap.size + 1, 0, none⟩ 1 1 [.int .i64 (i : Int), .int .i64 line, .int .i64 to] (by simp [Act.eval]) rfl HNEW.out (by intro u hu; simp at hu; rcases hu with rfl | rfl | rfl <;> rfl) (by decide) (by unfold maxLen; omega) (by omega) (by simp; omega) (w.heap.size + 1 + 1) (by simp [hs0]) ?_; intro ge cap w2 hown2 hgrow2 hat2 hlt2; have hbk : w2.heap[B]? = some (.cells #[r, m, f, .map (some mb), .slice av E.length cv, .slice (some ⟨g, 0, none⟩) N N] 62 (0, 0)) := (grown_keep hgrow2 (by simp; omega) (blk_ne HG.out.blk HG.out.edg (by decide))).trans ((old_blk W0.drew _ hlt.1).trans HG.out.blk); have u4 : w2.cell? ⟨B, 4, none⟩ = some (.slice av E.length cv) := (by simp [World.cell?, hbk]); have uf : w2.frozen? ⟨B, 4, none⟩ = false := (by simp [World.frozen?, hbk]))
  all_goals
    have hG3 := (HG.out.alloc (.cells #[.int .i64 (i : Int), .int .i64 line, .int .i64 to] 54)).edge (e := ⟨(i : Int), line, to⟩) hown2 hgrow2 rfl
    have hx3 : (w2.setCell ⟨B, 4, none⟩ (.slice (some ⟨ge, 0, none⟩) (E.length + 1) cap)).heap[w.heap.size]? = W0.heap[w.heap.size]? := by
      rw [Below.heap_setCell _ _ _ _ (by show w.heap.size ≠ B; have := HG.out.low; intro e; have h1 := HG.out.blk; rw [← e] at h1; have h2 : W0.drew.heap[w.heap.size]? = some (.cells #[.int .i64 (i : Int), .int .i64 line, .int .i64 to] 54) := (by show W0.heap[w.heap.size]? = _; rw [HW0.out]; exact new_blk w _); rw [h2] at h1; simp at h1), grown_keep hgrow2 (by simp; omega) (fun e => by have := HA.out.2.2 _ e; omega)]
      exact old_blk W0.drew _ (by show w.heap.size < W0.heap.size; omega)
    have hB3 : Below lo w (w2.setCell ⟨B, 4, none⟩ (.slice (some ⟨ge, 0, none⟩) (E.length + 1) cap)) :=
      (((HA.out.1.drew).alloc (by show lo ≤ W0.heap.size; omega) _).grown hgrow2 (by simp; omega) (fun b e' => (HG.out.edg.lt b e').1)).setCell (p := ⟨B, 4, none⟩) hlow _
    have hK3 : Kg w (w2.setCell ⟨B, 4, none⟩ (.slice (some ⟨ge, 0, none⟩) (E.length + 1) cap)) :=
      (HA.out.2.1.trans ((Kg.of_keep (w := W0.drew) (fun _ hb => old_blk W0.drew _ hb)).trans (Kg.grown hgrow2 (HG.out.edg.alloc _) (.inl rfl)) (by simp)) (by omega)).trans (Kg.set hbk (.inl rfl) _) (by have := hgrow2.size; simp at this; omega)
    obtain ⟨W3, hW3⟩ : ∃ W3, W3 = w2.setCell ⟨B, 4, none⟩ (.slice (some ⟨ge, 0, none⟩) (E.length + 1) cap) := ⟨_, rfl⟩
    rw [← hW3] at hG3 hx3 hB3 hK3 ⊢
    have HXg : Hid (∃ v, W3.heap[w.heap.size]? = some v ∧ ∀ cs fr, v ≠ .cells cs 24 fr) := ⟨.cells #[.int .i64 (i : Int), .int .i64 line, .int .i64 to] 54 (0, 0), by rw [hx3, HW0.out]; exact new_blk w _, fun cs fr h => by simp at h⟩
    have HX : Hid (∃ v, W3.heap[w.heap.size]? = some v ∧ ∀ cs fr, v ≠ .cells cs 3 fr) := ⟨.cells #[.int .i64 (i : Int), .int .i64 line, .int .i64 to] 54 (0, 0), by rw [hx3, HW0.out]; exact new_blk w _, fun cs fr h => by simp at h⟩
    have y0 : W3.cell? ⟨w.heap.size, 0, none⟩ = some (.int .i64 (i : Int)) := (World.cell?_of_block (a := ⟨w.heap.size, 0, none⟩) hx3).trans x0
    have y2 : W3.cell? ⟨w.heap.size, 2, none⟩ = some (.int .i64 to) := (World.cell?_of_block (a := ⟨w.heap.size, 2, none⟩) hx3).trans x2
    have hsz3 : w.heap.size < W3.heap.size := by rcases Nat.lt_or_ge w.heap.size W3.heap.size with h | h; exact h; rw [Array.getElem?_eq_none h] at hx3; rw [Array.getElem?_eq_getElem (by omega)] at hx3; cases hx3
    clear hown2 hgrow2 hat2 hlt2 hbk u4 uf hx3 hW3 c4' c4 cf x0 x1 x2 HNEW HG HW0 HA
    rcases hto with hto | hto
    · subst hto
      have hG4 := hG3.skip (e := ⟨(i : Int), line, -1⟩) (by simp)
      clear hG3
      go_wp2
      first | go_end0 | refine bodyPost_ret (results_none rfl _ _ _) rfl ?_
      exact ⟨rfl, ⟨_, _, hG4⟩, hB3, hK3⟩
    · obtain ⟨t, rfl⟩ : ∃ t : Nat, to = (t : Int) := ⟨to.toNat, by omega⟩
      have htb : ((t : Int) != -1) = true := by rw [bne_iff_ne]; omega
      obtain ⟨s, hs⟩ : ∃ s, S[i]? = some s := ⟨_, List.getElem?_eq_getElem (by rw [hG3.len]; exact hiN)⟩
      have hrow := hG3.lds.row i s hs
      have hll := leadsOf_len E i
      obtain ⟨as', cs', rfl, hcs', _⟩ := row_form hrow
      have d5 : W3.cell? ⟨B, 5, none⟩ = some (.slice (some ⟨g, 0, none⟩) N N) := hG3.cells.2.2.2.2.2.1
      have dg : W3.cell? ⟨g, i, none⟩ = some (.slice as' (leadsOf E i).length cs') := by have := hG3.lds.blk; simp [World.cell?, this, hs]
      have d5' : ∀ o', (W3.alloc o').cell? ⟨B, 5, none⟩ = some (.slice (some ⟨g, 0, none⟩) N N) := fun o' => below_cell0 ((Below.refl W3.heap.size W3).alloc (Nat.le_refl _) o') hG3.lt.1 d5
      have dg' : ∀ o', (W3.alloc o').cell? ⟨g, i, none⟩ = some (.slice as' (leadsOf E i).length cs') := fun o' => below_cell0 ((Below.refl W3.heap.size W3).alloc (Nat.le_refl _) o') hG3.lt.2.1 dg
      have y0' : ∀ o', (W3.alloc o').cell? ⟨w.heap.size, 0, none⟩ = some (.int .i64 (i : Int)) := fun o' => below_cell0 ((Below.refl W3.heap.size W3).alloc (Nat.le_refl _) o') hsz3 y0
      have y2' : ∀ o', (W3.alloc o').cell? ⟨w.heap.size, 2, none⟩ = some (.int .i64 (t : Int)) := fun o' => below_cell0 ((Below.refl W3.heap.size W3).alloc (Nat.le_refl _) o') hsz3 y2
      have HG3 : Hid (Gst lo B mb g W3.drew r m f (.slice (some ⟨ge, 0, none⟩) (E.length + 1) cap) S (E ++ [⟨(i : Int), line, (t : Int)⟩]) E N DM) := hG3.keep (fun _ _ => rfl)
      have HR3 : Hid (W3.drew.ownsRow lo 3 1 (.slice as' (leadsOf E i).length cs') (leadsOf E i).length ((leadsOf E i).map numV)) := hrow
      have HN3 : Hid (∀ j u, [Value.int .i64 (t : Int)][j]? = some u → (W3.drew.alloc (.cells #[.int .i64 (t : Int)] 3)).cell? ((⟨W3.heap.size, 0, none⟩ : Addr).add j) = some u) := cell_one_new W3.drew _ 3
      have HX3 : Hid (∃ v, W3.heap[w.heap.size]? = some v ∧ ∀ cs fr, v ≠ .cells cs 3 fr) := HX.out
      have HBK : Hid (Below lo w W3 ∧ Kg w W3 ∧ S[i]? = some (.slice as' (leadsOf E i).length cs')) := ⟨hB3, hK3, hs⟩
      have hlt3 := hG3.lt
      have hiN' : (i : Int) < (N : Int) := by omega
      clear hG3 hrow hs hB3 hK3
      go_wp2
      have hgB : B ≠ g := fun e => by have h1 := HG3.out.blk; rw [e, HG3.out.lds.blk] at h1; simp at h1
      have hgx : w.heap.size ≠ g := fun e => by obtain ⟨v0, h1, h2⟩ := HXg.out; have h3 : W3.heap[g]? = _ := HG3.out.lds.blk; rw [← e, h1] at h3; exact h2 _ _ (Option.some.inj h3)
      refine wp_region_held_drew (S := (fun w' => w'.cell? ⟨B, 5, none⟩ = some (.slice (some ⟨g, 0, none⟩) N N) ∧ w'.cell? ⟨w.heap.size, 0, none⟩ = some (.int .i64 (i : Int)) ∧ w'.cell? ⟨w.heap.size, 2, none⟩ = some (.int .i64 (t : Int)))) (by kernel_rfl) ⟨d5, y0, y2⟩ (fun hHeld => ?_)
      refine wpAnyH_take (i := 0) (v := ?_) rfl (by kernel_rfl) (by kernel_rfl) (by kernel_rfl) (fun _ _ _ h => h) (Or.inl ⟨by rfl, ?_⟩) (by assumption) ?_
      case refine_2 => (intro w' hSw; go_simp; with_reducible rfl)
      (simp only [List.getElem_toArray, List.getElem_cons_zero, List.getElem_cons_succ, Act.put, List.setIfInBounds_toArray, List.set_cons_zero, List.set_cons_succ])
      refine wpAnyH_take (i := 1) (v := ?_) rfl (by kernel_rfl) (by kernel_rfl) (by kernel_rfl) (fun _ _ _ h => h) (Or.inl ⟨by rfl, ?_⟩) (by assumption) ?_
      case refine_2 => (intro w' hSw; go_simp; with_reducible rfl)
      (simp only [List.getElem_toArray, List.getElem_cons_zero, List.getElem_cons_succ, Act.put, List.setIfInBounds_toArray, List.set_cons_zero, List.set_cons_succ])
      refine wpAnyH_take (i := 2) (v := ?_) rfl (by kernel_rfl) (by kernel_rfl) (by kernel_rfl) (fun _ _ _ h => h) (Or.inl ⟨by rfl, ?_⟩) (by assumption) ?_
      case refine_2 => (intro w' hSw; go_simp; with_reducible rfl)
      (simp only [List.getElem_toArray, List.getElem_cons_zero, List.getElem_cons_succ, Act.put, List.setIfInBounds_toArray, List.set_cons_zero, List.set_cons_succ])
      refine wpAnyH_take (i := 3) (v := ?_) rfl (by kernel_rfl) (by kernel_rfl) (by kernel_rfl) (fun _ _ _ h => h) (Or.inl ⟨by rfl, ?_⟩) (by assumption) ?_
      case refine_2 => (intro w' hSw; go_simp; with_reducible rfl)
      (simp only [List.getElem_toArray, List.getElem_cons_zero, List.getElem_cons_succ, Act.put, List.setIfInBounds_toArray, List.set_cons_zero, List.set_cons_succ])
      refine wpAnyH_take (i := 4) (v := ?_) rfl (by kernel_rfl) (by kernel_rfl) (by kernel_rfl) (fun _ _ _ h => h) (Or.inl ⟨by rfl, ?_⟩) (by assumption) ?_
      case refine_2 => (intro w' hSw; go_simp; with_reducible rfl)
      (simp only [List.getElem_toArray, List.getElem_cons_zero, List.getElem_cons_succ, Act.put, List.setIfInBounds_toArray, List.set_cons_zero, List.set_cons_succ])
      refine wpAnyH_take (i := 5) (v := ?_) rfl (by kernel_rfl) (by kernel_rfl) (by kernel_rfl) (fun _ _ _ h => h) (Or.inl ⟨by rfl, ?_⟩) (by assumption) ?_
      case refine_2 => (intro w' hSw; go_simp; with_reducible rfl)
      (simp only [List.getElem_toArray, List.getElem_cons_zero, List.getElem_cons_succ, Act.put, List.setIfInBounds_toArray, List.set_cons_zero, List.set_cons_succ])
      refine wpAnyH_take (i := 6) (v := ?_) rfl (by kernel_rfl) (by kernel_rfl) (by kernel_rfl) (fun _ _ _ h => h) (Or.inl ⟨by rfl, ?_⟩) (by assumption) ?_
      case refine_2 => (intro w' hSw; go_simp; with_reducible rfl)
      (simp only [List.getElem_toArray, List.getElem_cons_zero, List.getElem_cons_succ, Act.put, List.setIfInBounds_toArray, List.set_cons_zero, List.set_cons_succ])
      refine wpAnyH_take (i := 7) (v := ?_) rfl (by kernel_rfl) (by kernel_rfl) (by kernel_rfl) (fun _ _ _ h => h) (Or.inl ⟨by rfl, ?_⟩) (by assumption) ?_
      case refine_2 => (intro w' hSw; go_simp; with_reducible rfl)
      (simp only [List.getElem_toArray, List.getElem_cons_zero, List.getElem_cons_succ, Act.put, List.setIfInBounds_toArray, List.set_cons_zero, List.set_cons_succ])
      refine wpAnyH_take (i := 8) (v := ?_) rfl (by kernel_rfl) (by kernel_rfl) (by kernel_rfl) (fun _ _ _ h => h) (Or.inl ⟨by rfl, ?_⟩) (by assumption) ?_
      case refine_2 => (intro w' hSw; go_simp; with_reducible rfl)
      (simp only [List.getElem_toArray, List.getElem_cons_zero, List.getElem_cons_succ, Act.put, List.setIfInBounds_toArray, List.set_cons_zero, List.set_cons_succ])
      refine wpAnyH_take (i := 9) (v := ?_) rfl (by kernel_rfl) (by kernel_rfl) (by kernel_rfl) (fun _ _ _ h => h) (Or.inl ⟨by rfl, ?_⟩) (by assumption) ?_
      case refine_2 => (intro w' hSw; go_simp; with_reducible rfl)
      (simp only [List.getElem_toArray, List.getElem_cons_zero, List.getElem_cons_succ, Act.put, List.setIfInBounds_toArray, List.set_cons_zero, List.set_cons_succ])
      refine wpAnyH_take (i := 10) (v := ?_) rfl (by kernel_rfl) (by kernel_rfl) (by kernel_rfl) (fun _ _ _ h => h) (Or.inl ⟨by rfl, ?_⟩) (by assumption) ?_
      case refine_2 => (intro w' hSw; go_simp; with_reducible rfl)
      (simp only [List.getElem_toArray, List.getElem_cons_zero, List.getElem_cons_succ, Act.put, List.setIfInBounds_toArray, List.set_cons_zero, List.set_cons_succ])
      refine wpAnyH_take (i := 11) (v := ?_) rfl (by kernel_rfl) (by kernel_rfl) (by kernel_rfl) (fun _ _ _ h => h) (Or.inl ⟨by rfl, ?_⟩) (by assumption) ?_
      case refine_2 => (intro w' hSw; go_simp; with_reducible rfl)
      (simp only [List.getElem_toArray, List.getElem_cons_zero, List.getElem_cons_succ, Act.put, List.setIfInBounds_toArray, List.set_cons_zero, List.set_cons_succ])
      refine wpAnyH_take (i := 12) (v := ?_) rfl (by kernel_rfl) (by kernel_rfl) (by kernel_rfl) (fun _ _ _ h => h) (Or.inl ⟨by rfl, ?_⟩) (by assumption) ?_
      case refine_2 => (intro w' hSw; go_simp; with_reducible rfl)
      (simp only [List.getElem_toArray, List.getElem_cons_zero, List.getElem_cons_succ, Act.put, List.setIfInBounds_toArray, List.set_cons_zero, List.set_cons_succ])
      refine wpAnyH_take (i := 14) (v := ?_) rfl (by kernel_rfl) (by kernel_rfl) (by kernel_rfl) (fun _ _ _ h => h) (Or.inl ⟨by rfl, ?_⟩) (by assumption) ?_
      case refine_2 => (intro w' hSw; go_simp; with_reducible rfl)
      (simp only [List.getElem_toArray, List.getElem_cons_zero, List.getElem_cons_succ, Act.put, List.setIfInBounds_toArray, List.set_cons_zero, List.set_cons_succ])
      refine wpAnyH_take (i := 15) (v := ?_) rfl (by kernel_rfl) (by kernel_rfl) (by kernel_rfl) (fun _ _ _ h => h) (Or.inl ⟨by rfl, ?_⟩) (by assumption) ?_
      case refine_2 => (intro w' hSw; go_simp; with_reducible rfl)
      (simp only [List.getElem_toArray, List.getElem_cons_zero, List.getElem_cons_succ, Act.put, List.setIfInBounds_toArray, List.set_cons_zero, List.set_cons_succ])
      refine wpAnyH_ready (rs := [13, 16]) (by kernel_rfl) (by simp) ?_
      refine AllReadyH.cons rfl (fun K hK => ?_) (AllReadyH.cons rfl (fun K hK => ?_) AllReadyH.nil)
      case' refine_1 =>
        go_simp
        refine hK.out _ _ ⟨d5, y0, y2⟩ (fun hHeld => ?_)
        clear hK K
        (try simp only [List.getElem_toArray, List.getElem_cons_zero, List.getElem_cons_succ, Act.put, List.setIfInBounds_toArray, List.set_cons_zero, List.set_cons_succ])
        refine wpAnyH_ready (rs := [16]) (by kernel_rfl) (by simp) ?_
        refine AllReadyH.cons rfl (fun K hK => ?_) AllReadyH.nil
        go_simp
        refine hK.out _ _ ⟨d5' _, y0' _, y2' _⟩ (fun hHeld => ?_)
        clear hK K
        (try simp only [List.getElem_toArray, List.getElem_cons_zero, List.getElem_cons_succ, Act.put, List.setIfInBounds_toArray, List.set_cons_zero, List.set_cons_succ])
      case' refine_2 =>
        go_simp
        refine hK.out _ _ ⟨d5' _, y0' _, y2' _⟩ (fun hHeld => ?_)
        clear hK K
        (try simp only [List.getElem_toArray, List.getElem_cons_zero, List.getElem_cons_succ, Act.put, List.setIfInBounds_toArray, List.set_cons_zero, List.set_cons_succ])
        refine wpAnyH_ready (rs := [13]) (by kernel_rfl) (by simp) ?_
        refine AllReadyH.cons rfl (fun K hK => ?_) AllReadyH.nil
        go_simp
        refine hK.out _ _ ⟨d5' _, y0' _, y2' _⟩ (fun hHeld => ?_)
        clear hK K
        (try simp only [List.getElem_toArray, List.getElem_cons_zero, List.getElem_cons_succ, Act.put, List.setIfInBounds_toArray, List.set_cons_zero, List.set_cons_succ])
      all_goals
        refine wpAnyH_ready (rs := [17]) (by kernel_rfl) (by simp) ?_
        refine AllReadyH.cons rfl (fun K hK => ?_) AllReadyH.nil
        refine step_append_lies _ rfl (.tmp 30) (.tmp 33) 24 rfl lo 3 i3 _ 1 8 Tryz.underlying24 hi3 jz0 jz1 jz2 rfl (by decide) (.slice as' (leadsOf E i).length cs') (leadsOf E i).length ((leadsOf E i).map numV) (by simp [Act.eval]) (HR3.out.alloc _) ⟨W3.heap.size, 0, none⟩ 1 1 [.int .i64 (t : Int)] (by simp [Act.eval]) rfl HN3.out (by intro u hu; simp at hu; subst hu; rfl) (by decide) (by unfold maxLen; omega) (by omega) (by simp; omega) (W3.heap.size + 1) (by simp) ?_; intro gs cap4 w4 hown4 hgrow4 hat4 hlt4; have hbB : w4.heap[B]? = W3.heap[B]? := (grown_keep hgrow4 (by simp; omega) (blk_ne HG3.out.blk HR3.out (by decide))).trans (old_blk W3.drew _ hlt3.1); have hbg : w4.heap[g]? = W3.heap[g]? := (grown_keep hgrow4 (by simp; omega) (blk_ne HG3.out.lds.blk HR3.out (by decide))).trans (old_blk W3.drew _ hlt3.2.1); have v5 : w4.cell? ⟨B, 5, none⟩ = some (.slice (some ⟨g, 0, none⟩) N N) := (World.cell?_of_block (a := ⟨B, 5, none⟩) hbB).trans d5; have vg : w4.cell? ⟨g, i, none⟩ = some (.slice as' (leadsOf E i).length cs') := (World.cell?_of_block (a := ⟨g, i, none⟩) hbg).trans dg; have vf : w4.frozen? ⟨g, i, none⟩ = false := ((World.frozen?_of_block (a := ⟨g, i, none⟩) hbg).trans (by have := HG3.out.lds.blk; simp only [World.frozen?]; rw [show W3.heap[g]? = some _ from this]; simp)); have hbx : w4.heap[w.heap.size]? = W3.heap[w.heap.size]? := (grown_keep hgrow4 (by simp; omega) (fun ev => by obtain ⟨v0, h1, h2⟩ := HX3.out; obtain ⟨_, j2 | ⟨q, c, cur, hq0, _, hq, _⟩⟩ := HR3.out; (· rw [j2.1] at ev; cases ev); (· rw [hq0] at ev; simp [Value.ownBlock] at ev; subst ev; exact h2 _ _ (by have h3 : W3.heap[w.heap.size]? = _ := hq; rw [h1] at h3; exact Option.some.inj h3)))).trans (old_blk W3.drew _ hsz3); have vy : w4.cell? ⟨w.heap.size, 0, none⟩ = some (.int .i64 (i : Int)) := (World.cell?_of_block (a := ⟨w.heap.size, 0, none⟩) hbx).trans y0; have vy2 : w4.cell? ⟨w.heap.size, 2, none⟩ = some (.int .i64 (t : Int)) := (World.cell?_of_block (a := ⟨w.heap.size, 2, none⟩) hbx).trans y2; have s5 : ∀ u, (w4.setCell ⟨g, i, none⟩ u).cell? ⟨B, 5, none⟩ = some (.slice (some ⟨g, 0, none⟩) N N) := fun u => (World.cell?_of_block (a := ⟨B, 5, none⟩) (Below.heap_setCell w4 ⟨g, i, none⟩ u B hgB)).trans v5; have s0 : ∀ u, (w4.setCell ⟨g, i, none⟩ u).cell? ⟨w.heap.size, 0, none⟩ = some (.int .i64 (i : Int)) := fun u => (World.cell?_of_block (a := ⟨w.heap.size, 0, none⟩) (Below.heap_setCell w4 ⟨g, i, none⟩ u w.heap.size hgx)).trans vy; have s2 : ∀ u, (w4.setCell ⟨g, i, none⟩ u).cell? ⟨w.heap.size, 2, none⟩ = some (.int .i64 (t : Int)) := fun u => (World.cell?_of_block (a := ⟨w.heap.size, 2, none⟩) (Below.heap_setCell w4 ⟨g, i, none⟩ u w.heap.size hgx)).trans vy2
        refine hK.out _ _ ⟨v5, vy, vy2⟩ (fun hHeld => ?_)
        clear hK K
        (try simp only [List.getElem_toArray, List.getElem_cons_zero, List.getElem_cons_succ, Act.put, List.setIfInBounds_toArray, List.set_cons_zero, List.set_cons_succ])
        refine wpAnyH_take (i := 18) (v := ?_) rfl (by kernel_rfl) (by kernel_rfl) (by kernel_rfl) (fun _ _ _ h => h) (Or.inl ⟨by rfl, ?_⟩) (by assumption) ?_
        case refine_2 => (intro w' hSw; go_simp; with_reducible rfl)
        (simp only [List.getElem_toArray, List.getElem_cons_zero, List.getElem_cons_succ, Act.put, List.setIfInBounds_toArray, List.set_cons_zero, List.set_cons_succ])
        refine wpAnyH_ready (rs := [19]) (by kernel_rfl) (by simp) ?_
        refine AllReadyH.cons rfl (fun K hK => ?_) AllReadyH.nil
        go_simp
        refine hK.out _ _ ⟨s5 _, s0 _, s2 _⟩ (fun hHeld => ?_)
        clear hK K
        refine wpAnyH_done (by kernel_rfl) ?_ _
        have hG5 := (HG3.out.alloc (.cells #[.int .i64 (t : Int)] 3)).lead (e := ⟨(i : Int), line, (t : Int)⟩) (i := i) (t := t) rfl rfl HBK.out.2.2 hown4 hgrow4 (by rcases hat4 with h | h; exact .inl h; exact .inr (by rw [h]; simp)) rfl
        have hB5 : Below lo w (w4.setCell ⟨g, i, none⟩ (.slice (some ⟨gs, 0, none⟩) ((leadsOf E i).length + 1) cap4)) :=
          (((HBK.out.1.drew).alloc (by show lo ≤ W3.heap.size; omega) _).grown hgrow4 (by simp; omega) (fun b e' => (HR3.out.lt b e').1)).setCell (p := ⟨g, i, none⟩) hlt3.2.2 _
        have hK5 : Kg w (w4.setCell ⟨g, i, none⟩ (.slice (some ⟨gs, 0, none⟩) ((leadsOf E i).length + 1) cap4)) :=
          (HBK.out.2.1.trans ((Kg.of_keep (w := W3.drew) (fun _ hb => old_blk W3.drew _ hb)).trans (Kg.grown hgrow4 (HR3.out.alloc _) (.inr rfl)) (by simp)) (by omega)).trans (Kg.set (hbg.trans HG3.out.lds.blk) (.inr rfl) _) (by have := hgrow4.size; simp at this; omega)
        clear hown4 hgrow4 hat4 hlt4 hbB hbg v5 vg vf hbx vy
        first | go_end0 | (go_wp2; go_end0) | (refine bodyPost_ret (results_none rfl _ _ _) rfl ?_)
        exact ⟨rfl, ⟨_, _, hG5⟩, hB5, hK5⟩
end Go.Proofs.YtimgafblpmjajabGreat
