import Derived.Deep.RegionHeld3
import Derived.Deep.OwnRows
import Derived.Deep.RegionWith
import Derived.Deep.AppendLies
import Derived.Deep.RegionLaw
import Derived.Test.YtimgafblpmjajabGreatKa6
namespace Go.Proofs.YtimgafblpmjajabGreat
open Go.RowKit Go.Maps

set_option linter.unusedSimpArgs false in
set_option maxHeartbeats 8000000 in
set_option maxRecDepth 100000 in
theorem gjoin_any {lo B mb g : Nat} {w : World} {r m f ve : Value} {S : List Value} {E : List Eg} {N : Nat} {DM : DataW Unit} (h : Gst lo B mb g w r m f ve S E E N DM) (line to : Int) (i : Nat) (hiN : i < N) (hto : to = -1 ∨ 0 ≤ to) (hE : E.length < 1048576) :
    Calls Tryz.prog 54 #[.pointer (some ⟨B, 0, none⟩), .agg #[.int .i64 (i : Int), .int .i64 line, .int .i64 to]] w fun ex w' => ex = .returned (.tuple #[]) ∧ (∃ ve' S', Gst lo B mb g w' r m f ve' S' (E ++ [⟨(i : Int), line, to⟩]) (E ++ [⟨(i : Int), line, to⟩]) N DM) ∧ Below lo w w' ∧ Kg w w' := by
  obtain ⟨i75, hi75, hz0, hz1, hz2⟩ := info_parts Tryz.info75
  obtain ⟨i3, hi3, jz0, jz1, jz2⟩ := info_parts Tryz.info3
  obtain ⟨av, cv, rfl, hcv, _⟩ := row_form h.edg
  obtain ⟨W0, hW0⟩ : ∃ W0, W0 = w.alloc (.cells #[.int .i64 (i : Int), .int .i64 line, .int .i64 to] 54) := ⟨_, rfl⟩
  have hG0 : Gst lo B mb g W0 r m f (.slice av E.length cv) S E E N DM := by rw [hW0]; exact h.alloc _
  have hs0 : W0.heap.size = w.heap.size + 1 := by rw [hW0]; simp
  have e3 := cells3 w (.int .i64 (i : Int)) (.int .i64 line) (.int .i64 to) 54
  rw [← hW0] at e3
  obtain ⟨x0, x1, x2⟩ := e3
  have hB0 : Below lo w W0 := by rw [hW0]; exact (Below.refl _ _).alloc (by have := h.lt; omega) _
  have hK0 : Kg w W0 := by rw [hW0]; exact Kg.of_keep (fun _ hb => old_blk w _ hb)
  have hel := fun b hb => (h.edg.lt b hb).2
  have HG : Hid (Gst lo B mb g W0.drew r m f (.slice av E.length cv) S E E N DM) := hG0.keep (fun _ _ => rfl)
  have HA : Hid (Below lo w W0 ∧ Kg w W0 ∧ ∀ b, (Value.slice av E.length cv).ownBlock = some b → b < w.heap.size) := ⟨hB0, hK0, hel⟩
  have hlt := hG0.lt
  have hlow := h.low
  obtain ⟨c0, c1, c2, c3, c4, c5, cf⟩ := hG0.cells
  have HW0 : Hid (W0 = w.alloc (.cells #[.int .i64 (i : Int), .int .i64 line, .int .i64 to] 54)) := hW0
  have HNEW : Hid (∀ j u, [Value.int .i64 (i : Int), .int .i64 line, .int .i64 to][j]? = some u → (W0.drew.alloc (.cells #[.int .i64 (i : Int), .int .i64 line, .int .i64 to] 54)).cell? ((⟨w.heap.size + 1, 0, none⟩ : Addr).add j) = some u) := by unfold Hid; rw [← hs0]; exact new3' W0.drew _ _ _ _
  have c4' : ∀ o', (W0.alloc o').cell? ⟨B, 4, none⟩ = some (.slice av E.length cv) := fun o' => below_cell0 ((Below.refl W0.heap.size W0).alloc (Nat.le_refl _) o') hlt.1 c4
  clear h c0 c1 c2 c3 c5 hG0 hB0 hK0 hel hW0
  go_enter Tryz.func54, Tryz.ntmps54
  go_wp2
  rw [← HW0.out]
  go_region_law (refine step_append_lies _ rfl (.tmp 8) (.tmp 10) 28 rfl lo 54 i75 _ 3 24 Tryz.underlying28 hi75 hz0 hz1 hz2 rfl (by decide) (.slice av E.length cv) E.length (E.flatMap egR) (by simp [Act.eval]) (HG.out.edg.alloc _) ⟨w.heap.size + 1, 0, none⟩ 1 1 [.int .i64 (i : Int), .int .i64 line, .int .i64 to] (by simp [Act.eval]) rfl HNEW.out (by intro u hu; simp at hu; rcases hu with rfl | rfl | rfl <;> rfl) (by decide) (by unfold maxLen; omega) (by omega) (by simp; omega) (w.heap.size + 1 + 1) (by simp [hs0]) ?_; intro ge cap w2 hown2 hgrow2 hat2 hlt2; have hbk : w2.heap[B]? = some (.cells #[r, m, f, .map (some mb), .slice av E.length cv, .slice (some ⟨g, 0, none⟩) N N] 62 (0, 0)) := (grown_keep hgrow2 (by simp; omega) (blk_ne HG.out.blk HG.out.edg (by decide))).trans ((old_blk W0.drew _ hlt.1).trans HG.out.blk); have u4 : w2.cell? ⟨B, 4, none⟩ = some (.slice av E.length cv) := (by simp [World.cell?, hbk]); have uf : w2.frozen? ⟨B, 4, none⟩ = false := (by simp [World.frozen?, hbk]))
  all_goals
    have hG3 := (HG.out.alloc (.cells #[.int .i64 (i : Int), .int .i64 line, .int .i64 to] 54)).edge (e := ⟨(i : Int), line, to⟩) hown2 hgrow2 rfl
    have hx3 : (w2.setCell ⟨B, 4, none⟩ (.slice (some ⟨ge, 0, none⟩) (E.length + 1) cap)).heap[w.heap.size]? = W0.heap[w.heap.size]? := by
      rw [Below.heap_setCell _ _ _ _ (by show w.heap.size ≠ B; have := HG.out.low; intro e; have h1 := HG.out.blk; rw [← e] at h1; have h2 : W0.drew.heap[w.heap.size]? = some (.cells #[.int .i64 (i : Int), .int .i64 line, .int .i64 to] 54) := (by show W0.heap[w.heap.size]? = _; rw [HW0.out]; exact new_blk w _); rw [h2] at h1; simp at h1), grown_keep hgrow2 (by simp; omega) (fun e => by have := HA.out.2.2 _ e; omega)]
      exact old_blk W0.drew _ (by show w.heap.size < W0.heap.size; omega)
    have hB3 : Below lo w (w2.setCell ⟨B, 4, none⟩ (.slice (some ⟨ge, 0, none⟩) (E.length + 1) cap)) :=
      (((HA.out.1.drew).alloc (by show lo ≤ W0.heap.size; omega) _).grown hgrow2 (by simp; omega) (fun b e' => (HG.out.edg.lt b e').1)).setCell (p := ⟨B, 4, none⟩) hlow _
    have hK3 : Kg w (w2.setCell ⟨B, 4, none⟩ (.slice (some ⟨ge, 0, none⟩) (E.length + 1) cap)) :=
      (HA.out.2.1.trans ((Kg.of_keep (w := W0.drew) (fun _ hb => old_blk W0.drew _ hb)).trans (Kg.grown hgrow2 (HG.out.edg.alloc _) (.inl rfl)) (by simp)) (by omega)).trans (Kg.set hbk (.inl rfl) _) (by have := hgrow2.size; simp at this; omega)
    obtain ⟨W3, hW3⟩ : ∃ W3, W3 = w2.setCell ⟨B, 4, none⟩ (.slice (some ⟨ge, 0, none⟩) (E.length + 1) cap) := ⟨_, rfl⟩
    rw [← hW3] at hG3 hx3 hB3 hK3 ⊢
    have HXg : Hid (∃ v, W3.heap[w.heap.size]? = some v ∧ ∀ cs fr, v ≠ .cells cs 24 fr) := ⟨.cells #[.int .i64 (i : Int), .int .i64 line, .int .i64 to] 54 (0, 0), by rw [hx3, HW0.out]; exact new_blk w _, fun cs fr h => by simp at h⟩
    have HX : Hid (∃ v, W3.heap[w.heap.size]? = some v ∧ ∀ cs fr, v ≠ .cells cs 3 fr) := ⟨.cells #[.int .i64 (i : Int), .int .i64 line, .int .i64 to] 54 (0, 0), by rw [hx3, HW0.out]; exact new_blk w _, fun cs fr h => by simp at h⟩
    have y0 : W3.cell? ⟨w.heap.size, 0, none⟩ = some (.int .i64 (i : Int)) := (World.cell?_of_block (a := ⟨w.heap.size, 0, none⟩) hx3).trans x0
    have y2 : W3.cell? ⟨w.heap.size, 2, none⟩ = some (.int .i64 to) := (World.cell?_of_block (a := ⟨w.heap.size, 2, none⟩) hx3).trans x2
    have hsz3 : w.heap.size < W3.heap.size := by rcases Nat.lt_or_ge w.heap.size W3.heap.size with h | h; exact h; rw [Array.getElem?_eq_none h] at hx3; rw [Array.getElem?_eq_getElem (by omega)] at hx3; cases hx3
    clear hown2 hgrow2 hat2 hlt2 hbk u4 uf hx3 hW3 c4' c4 cf x0 x1 x2 HNEW HG HW0 HA
    rcases hto with hto | hto
    · subst hto
      have hG4 := hG3.skip (e := ⟨(i : Int), line, -1⟩) (by simp)
      clear hG3
      go_wp2
      first | go_end0 | refine bodyPost_ret (results_none rfl _ _ _) rfl ?_
      exact ⟨rfl, ⟨_, _, hG4⟩, hB3, hK3⟩
    · obtain ⟨t, rfl⟩ : ∃ t : Nat, to = (t : Int) := ⟨to.toNat, by omega⟩
      have htb : ((t : Int) != -1) = true := by rw [bne_iff_ne]; omega
      obtain ⟨s, hs⟩ : ∃ s, S[i]? = some s := ⟨_, List.getElem?_eq_getElem (by rw [hG3.len]; exact hiN)⟩
      have hrow := hG3.lds.row i s hs
      have hll := leadsOf_len E i
      obtain ⟨as', cs', rfl, hcs', _⟩ := row_form hrow
      have d5 : W3.cell? ⟨B, 5, none⟩ = some (.slice (some ⟨g, 0, none⟩) N N) := hG3.cells.2.2.2.2.2.1
      have dg : W3.cell? ⟨g, i, none⟩ = some (.slice as' (leadsOf E i).length cs') := by have := hG3.lds.blk; simp [World.cell?, this, hs]
      have d5' : ∀ o', (W3.alloc o').cell? ⟨B, 5, none⟩ = some (.slice (some ⟨g, 0, none⟩) N N) := fun o' => below_cell0 ((Below.refl W3.heap.size W3).alloc (Nat.le_refl _) o') hG3.lt.1 d5
      have dg' : ∀ o', (W3.alloc o').cell? ⟨g, i, none⟩ = some (.slice as' (leadsOf E i).length cs') := fun o' => below_cell0 ((Below.refl W3.heap.size W3).alloc (Nat.le_refl _) o') hG3.lt.2.1 dg
      have y0' : ∀ o', (W3.alloc o').cell? ⟨w.heap.size, 0, none⟩ = some (.int .i64 (i : Int)) := fun o' => below_cell0 ((Below.refl W3.heap.size W3).alloc (Nat.le_refl _) o') hsz3 y0
      have y2' : ∀ o', (W3.alloc o').cell? ⟨w.heap.size, 2, none⟩ = some (.int .i64 (t : Int)) := fun o' => below_cell0 ((Below.refl W3.heap.size W3).alloc (Nat.le_refl _) o') hsz3 y2
      have HG3 : Hid (Gst lo B mb g W3.drew r m f (.slice (some ⟨ge, 0, none⟩) (E.length + 1) cap) S (E ++ [⟨(i : Int), line, (t : Int)⟩]) E N DM) := hG3.keep (fun _ _ => rfl)
      have HR3 : Hid (W3.drew.ownsRow lo 3 1 (.slice as' (leadsOf E i).length cs') (leadsOf E i).length ((leadsOf E i).map numV)) := hrow
      have HN3 : Hid (∀ j u, [Value.int .i64 (t : Int)][j]? = some u → (W3.drew.alloc (.cells #[.int .i64 (t : Int)] 3)).cell? ((⟨W3.heap.size, 0, none⟩ : Addr).add j) = some u) := cell_one_new W3.drew _ 3
      have HX3 : Hid (∃ v, W3.heap[w.heap.size]? = some v ∧ ∀ cs fr, v ≠ .cells cs 3 fr) := HX.out
      have HBK : Hid (Below lo w W3 ∧ Kg w W3 ∧ S[i]? = some (.slice as' (leadsOf E i).length cs')) := ⟨hB3, hK3, hs⟩
      have hlt3 := hG3.lt
      have hiN' : (i : Int) < (N : Int) := by omega
      clear hG3 hrow hs hB3 hK3
      go_wp2
      have hgB : B ≠ g := fun e => by have h1 := HG3.out.blk; rw [e, HG3.out.lds.blk] at h1; simp at h1
      have hgx : w.heap.size ≠ g := fun e => by obtain ⟨v0, h1, h2⟩ := HXg.out; have h3 : W3.heap[g]? = _ := HG3.out.lds.blk; rw [← e, h1] at h3; exact h2 _ _ (Option.some.inj h3)
      refine wp_region_held_drew (S := (fun w' => w'.cell? ⟨B, 5, none⟩ = some (.slice (some ⟨g, 0, none⟩) N N) ∧ w'.cell? ⟨w.heap.size, 0, none⟩ = some (.int .i64 (i : Int)) ∧ w'.cell? ⟨w.heap.size, 2, none⟩ = some (.int .i64 (t : Int)))) (by kernel_rfl) ⟨d5, y0, y2⟩ (fun hHeld => ?_)
      refine wpAnyH_take (i := 0) (v := ?_) rfl (by kernel_rfl) (by kernel_rfl) (by kernel_rfl) (fun _ _ _ h => h) (Or.inl ⟨by rfl, ?_⟩) (by assumption) ?_
      case refine_2 => (intro w' hSw; go_simp; with_reducible rfl)
      (simp only [List.getElem_toArray, List.getElem_cons_zero, List.getElem_cons_succ, Act.put, List.setIfInBounds_toArray, List.set_cons_zero, List.set_cons_succ])
      refine wpAnyH_take (i := 1) (v := ?_) rfl (by kernel_rfl) (by kernel_rfl) (by kernel_rfl) (fun _ _ _ h => h) (Or.inl ⟨by rfl, ?_⟩) (by assumption) ?_
      case refine_2 => (intro w' hSw; go_simp; with_reducible rfl)
      (simp only [List.getElem_toArray, List.getElem_cons_zero, List.getElem_cons_succ, Act.put, List.setIfInBounds_toArray, List.set_cons_zero, List.set_cons_succ])
      refine wpAnyH_take (i := 2) (v := ?_) rfl (by kernel_rfl) (by kernel_rfl) (by kernel_rfl) (fun _ _ _ h => h) (Or.inl ⟨by rfl, ?_⟩) (by assumption) ?_
      case refine_2 => (intro w' hSw; go_simp; with_reducible rfl)
      (simp only [List.getElem_toArray, List.getElem_cons_zero, List.getElem_cons_succ, Act.put, List.setIfInBounds_toArray, List.set_cons_zero, List.set_cons_succ])
      refine wpAnyH_take (i := 3) (v := ?_) rfl (by kernel_rfl) (by kernel_rfl) (by kernel_rfl) (fun _ _ _ h => h) (Or.inl ⟨by rfl, ?_⟩) (by assumption) ?_
      case refine_2 => (intro w' hSw; go_simp; with_reducible rfl)
      (simp only [List.getElem_toArray, List.getElem_cons_zero, List.getElem_cons_succ, Act.put, List.setIfInBounds_toArray, List.set_cons_zero, List.set_cons_succ])
      refine wpAnyH_take (i := 4) (v := ?_) rfl (by kernel_rfl) (by kernel_rfl) (by kernel_rfl) (fun _ _ _ h => h) (Or.inl ⟨by rfl, ?_⟩) (by assumption) ?_
      case refine_2 => (intro w' hSw; go_simp; with_reducible rfl)
      (simp only [List.getElem_toArray, List.getElem_cons_zero, List.getElem_cons_succ, Act.put, List.setIfInBounds_toArray, List.set_cons_zero, List.set_cons_succ])
      refine wpAnyH_take (i := 5) (v := ?_) rfl (by kernel_rfl) (by kernel_rfl) (by kernel_rfl) (fun _ _ _ h => h) (Or.inl ⟨by rfl, ?_⟩) (by assumption) ?_
      case refine_2 => (intro w' hSw; go_simp; with_reducible rfl)
      (simp only [List.getElem_toArray, List.getElem_cons_zero, List.getElem_cons_succ, Act.put, List.setIfInBounds_toArray, List.set_cons_zero, List.set_cons_succ])
      refine wpAnyH_take (i := 6) (v := ?_) rfl (by kernel_rfl) (by kernel_rfl) (by kernel_rfl) (fun _ _ _ h => h) (Or.inl ⟨by rfl, ?_⟩) (by assumption) ?_
      case refine_2 => (intro w' hSw; go_simp; with_reducible rfl)
      (simp only [List.getElem_toArray, List.getElem_cons_zero, List.getElem_cons_succ, Act.put, List.setIfInBounds_toArray, List.set_cons_zero, List.set_cons_succ])
      refine wpAnyH_take (i := 7) (v := ?_) rfl (by kernel_rfl) (by kernel_rfl) (by kernel_rfl) (fun _ _ _ h => h) (Or.inl ⟨by rfl, ?_⟩) (by assumption) ?_
      case refine_2 => (intro w' hSw; go_simp; with_reducible rfl)
      (simp only [List.getElem_toArray, List.getElem_cons_zero, List.getElem_cons_succ, Act.put, List.setIfInBounds_toArray, List.set_cons_zero, List.set_cons_succ])
      refine wpAnyH_take (i := 8) (v := ?_) rfl (by kernel_rfl) (by kernel_rfl) (by kernel_rfl) (fun _ _ _ h => h) (Or.inl ⟨by rfl, ?_⟩) (by assumption) ?_
      case refine_2 => (intro w' hSw; go_simp; with_reducible rfl)
      (simp only [List.getElem_toArray, List.getElem_cons_zero, List.getElem_cons_succ, Act.put, List.setIfInBounds_toArray, List.set_cons_zero, List.set_cons_succ])
      refine wpAnyH_take (i := 9) (v := ?_) rfl (by kernel_rfl) (by kernel_rfl) (by kernel_rfl) (fun _ _ _ h => h) (Or.inl ⟨by rfl, ?_⟩) (by assumption) ?_
      case refine_2 => (intro w' hSw; go_simp; with_reducible rfl)
      (simp only [List.getElem_toArray, List.getElem_cons_zero, List.getElem_cons_succ, Act.put, List.setIfInBounds_toArray, List.set_cons_zero, List.set_cons_succ])
      refine wpAnyH_take (i := 10) (v := ?_) rfl (by kernel_rfl) (by kernel_rfl) (by kernel_rfl) (fun _ _ _ h => h) (Or.inl ⟨by rfl, ?_⟩) (by assumption) ?_
      case refine_2 => (intro w' hSw; go_simp; with_reducible rfl)
      (simp only [List.getElem_toArray, List.getElem_cons_zero, List.getElem_cons_succ, Act.put, List.setIfInBounds_toArray, List.set_cons_zero, List.set_cons_succ])
      refine wpAnyH_take (i := 11) (v := ?_) rfl (by kernel_rfl) (by kernel_rfl) (by kernel_rfl) (fun _ _ _ h => h) (Or.inl ⟨by rfl, ?_⟩) (by assumption) ?_
      case refine_2 => (intro w' hSw; go_simp; with_reducible rfl)
      (simp only [List.getElem_toArray, List.getElem_cons_zero, List.getElem_cons_succ, Act.put, List.setIfInBounds_toArray, List.set_cons_zero, List.set_cons_succ])
      refine wpAnyH_take (i := 12) (v := ?_) rfl (by kernel_rfl) (by kernel_rfl) (by kernel_rfl) (fun _ _ _ h => h) (Or.inl ⟨by rfl, ?_⟩) (by assumption) ?_
      case refine_2 => (intro w' hSw; go_simp; with_reducible rfl)
      (simp only [List.getElem_toArray, List.getElem_cons_zero, List.getElem_cons_succ, Act.put, List.setIfInBounds_toArray, List.set_cons_zero, List.set_cons_succ])
      refine wpAnyH_take (i := 14) (v := ?_) rfl (by kernel_rfl) (by kernel_rfl) (by kernel_rfl) (fun _ _ _ h => h) (Or.inl ⟨by rfl, ?_⟩) (by assumption) ?_
      case refine_2 => (intro w' hSw; go_simp; with_reducible rfl)
      (simp only [List.getElem_toArray, List.getElem_cons_zero, List.getElem_cons_succ, Act.put, List.setIfInBounds_toArray, List.set_cons_zero, List.set_cons_succ])
      refine wpAnyH_take (i := 15) (v := ?_) rfl (by kernel_rfl) (by kernel_rfl) (by kernel_rfl) (fun _ _ _ h => h) (Or.inl ⟨by rfl, ?_⟩) (by assumption) ?_
      case refine_2 => (intro w' hSw; go_simp; with_reducible rfl)
      (simp only [List.getElem_toArray, List.getElem_cons_zero, List.getElem_cons_succ, Act.put, List.setIfInBounds_toArray, List.set_cons_zero, List.set_cons_succ])
      refine wpAnyH_ready (rs := [13, 16]) (by kernel_rfl) (by simp) ?_
      refine AllReadyH.cons rfl (fun K hK => ?_) (AllReadyH.cons rfl (fun K hK => ?_) AllReadyH.nil)
      case' refine_1 =>
        go_simp
        refine hK.out _ _ ⟨d5, y0, y2⟩ (fun hHeld => ?_)
        clear hK K
        (try simp only [List.getElem_toArray, List.getElem_cons_zero, List.getElem_cons_succ, Act.put, List.setIfInBounds_toArray, List.set_cons_zero, List.set_cons_succ])
        refine wpAnyH_ready (rs := [16]) (by kernel_rfl) (by simp) ?_
        refine AllReadyH.cons rfl (fun K hK => ?_) AllReadyH.nil
        go_simp
        refine hK.out _ _ ⟨d5' _, y0' _, y2' _⟩ (fun hHeld => ?_)
        clear hK K
        (try simp only [List.getElem_toArray, List.getElem_cons_zero, List.getElem_cons_succ, Act.put, List.setIfInBounds_toArray, List.set_cons_zero, List.set_cons_succ])
      case' refine_2 =>
        go_simp
        refine hK.out _ _ ⟨d5' _, y0' _, y2' _⟩ (fun hHeld => ?_)
        clear hK K
        (try simp only [List.getElem_toArray, List.getElem_cons_zero, List.getElem_cons_succ, Act.put, List.setIfInBounds_toArray, List.set_cons_zero, List.set_cons_succ])
        refine wpAnyH_ready (rs := [13]) (by kernel_rfl) (by simp) ?_
        refine AllReadyH.cons rfl (fun K hK => ?_) AllReadyH.nil
        go_simp
        refine hK.out _ _ ⟨d5' _, y0' _, y2' _⟩ (fun hHeld => ?_)
        clear hK K
        (try simp only [List.getElem_toArray, List.getElem_cons_zero, List.getElem_cons_succ, Act.put, List.setIfInBounds_toArray, List.set_cons_zero, List.set_cons_succ])
      all_goals
        refine wpAnyH_ready (rs := [17]) (by kernel_rfl) (by simp) ?_
        refine AllReadyH.cons rfl (fun K hK => ?_) AllReadyH.nil
        refine step_append_lies _ rfl (.tmp 30) (.tmp 33) 24 rfl lo 3 i3 _ 1 8 Tryz.underlying24 hi3 jz0 jz1 jz2 rfl (by decide) (.slice as' (leadsOf E i).length cs') (leadsOf E i).length ((leadsOf E i).map numV) (by simp [Act.eval]) (HR3.out.alloc _) ⟨W3.heap.size, 0, none⟩ 1 1 [.int .i64 (t : Int)] (by simp [Act.eval]) rfl HN3.out (by intro u hu; simp at hu; subst hu; rfl) (by decide) (by unfold maxLen; omega) (by omega) (by simp; omega) (W3.heap.size + 1) (by simp) ?_; intro gs cap4 w4 hown4 hgrow4 hat4 hlt4; have hbB : w4.heap[B]? = W3.heap[B]? := (grown_keep hgrow4 (by simp; omega) (blk_ne HG3.out.blk HR3.out (by decide))).trans (old_blk W3.drew _ hlt3.1); have hbg : w4.heap[g]? = W3.heap[g]? := (grown_keep hgrow4 (by simp; omega) (blk_ne HG3.out.lds.blk HR3.out (by decide))).trans (old_blk W3.drew _ hlt3.2.1); have v5 : w4.cell? ⟨B, 5, none⟩ = some (.slice (some ⟨g, 0, none⟩) N N) := (World.cell?_of_block (a := ⟨B, 5, none⟩) hbB).trans d5; have vg : w4.cell? ⟨g, i, none⟩ = some (.slice as' (leadsOf E i).length cs') := (World.cell?_of_block (a := ⟨g, i, none⟩) hbg).trans dg; have vf : w4.frozen? ⟨g, i, none⟩ = false := ((World.frozen?_of_block (a := ⟨g, i, none⟩) hbg).trans (by have := HG3.out.lds.blk; simp only [World.frozen?]; rw [show W3.heap[g]? = some _ from this]; simp)); have hbx : w4.heap[w.heap.size]? = W3.heap[w.heap.size]? := (grown_keep hgrow4 (by simp; omega) (fun ev => by obtain ⟨v0, h1, h2⟩ := HX3.out; obtain ⟨_, j2 | ⟨q, c, cur, hq0, _, hq, _⟩⟩ := HR3.out; (· rw [j2.1] at ev; cases ev); (· rw [hq0] at ev; simp [Value.ownBlock] at ev; subst ev; exact h2 _ _ (by have h3 : W3.heap[w.heap.size]? = _ := hq; rw [h1] at h3; exact Option.some.inj h3)))).trans (old_blk W3.drew _ hsz3); have vy : w4.cell? ⟨w.heap.size, 0, none⟩ = some (.int .i64 (i : Int)) := (World.cell?_of_block (a := ⟨w.heap.size, 0, none⟩) hbx).trans y0; have vy2 : w4.cell? ⟨w.heap.size, 2, none⟩ = some (.int .i64 (t : Int)) := (World.cell?_of_block (a := ⟨w.heap.size, 2, none⟩) hbx).trans y2; have s5 : ∀ u, (w4.setCell ⟨g, i, none⟩ u).cell? ⟨B, 5, none⟩ = some (.slice (some ⟨g, 0, none⟩) N N) := fun u => (World.cell?_of_block (a := ⟨B, 5, none⟩) (Below.heap_setCell w4 ⟨g, i, none⟩ u B hgB)).trans v5; have s0 : ∀ u, (w4.setCell ⟨g, i, none⟩ u).cell? ⟨w.heap.size, 0, none⟩ = some (.int .i64 (i : Int)) := fun u => (World.cell?_of_block (a := ⟨w.heap.size, 0, none⟩) (Below.heap_setCell w4 ⟨g, i, none⟩ u w.heap.size hgx)).trans vy; have s2 : ∀ u, (w4.setCell ⟨g, i, none⟩ u).cell? ⟨w.heap.size, 2, none⟩ = some (.int .i64 (t : Int)) := fun u => (World.cell?_of_block (a := ⟨w.heap.size, 2, none⟩) (Below.heap_setCell w4 ⟨g, i, none⟩ u w.heap.size hgx)).trans vy2
        refine hK.out _ _ ⟨v5, vy, vy2⟩ (fun hHeld => ?_)
        clear hK K
        (try simp only [List.getElem_toArray, List.getElem_cons_zero, List.getElem_cons_succ, Act.put, List.setIfInBounds_toArray, List.set_cons_zero, List.set_cons_succ])
        refine wpAnyH_take (i := 18) (v := ?_) rfl (by kernel_rfl) (by kernel_rfl) (by kernel_rfl) (fun _ _ _ h => h) (Or.inl ⟨by rfl, ?_⟩) (by assumption) ?_
        case refine_2 => (intro w' hSw; go_simp; with_reducible rfl)
        (simp only [List.getElem_toArray, List.getElem_cons_zero, List.getElem_cons_succ, Act.put, List.setIfInBounds_toArray, List.set_cons_zero, List.set_cons_succ])
        refine wpAnyH_ready (rs := [19]) (by kernel_rfl) (by simp) ?_
        refine AllReadyH.cons rfl (fun K hK => ?_) AllReadyH.nil
        go_simp
        refine hK.out _ _ ⟨s5 _, s0 _, s2 _⟩ (fun hHeld => ?_)
        clear hK K
        refine wpAnyH_done (by kernel_rfl) ?_ _
        have hG5 := (HG3.out.alloc (.cells #[.int .i64 (t : Int)] 3)).lead (e := ⟨(i : Int), line, (t : Int)⟩) (i := i) (t := t) rfl rfl HBK.out.2.2 hown4 hgrow4 (by rcases hat4 with h | h; exact .inl h; exact .inr (by rw [h]; simp)) rfl
        have hB5 : Below lo w (w4.setCell ⟨g, i, none⟩ (.slice (some ⟨gs, 0, none⟩) ((leadsOf E i).length + 1) cap4)) :=
          (((HBK.out.1.drew).alloc (by show lo ≤ W3.heap.size; omega) _).grown hgrow4 (by simp; omega) (fun b e' => (HR3.out.lt b e').1)).setCell (p := ⟨g, i, none⟩) hlt3.2.2 _
        have hK5 : Kg w (w4.setCell ⟨g, i, none⟩ (.slice (some ⟨gs, 0, none⟩) ((leadsOf E i).length + 1) cap4)) :=
          (HBK.out.2.1.trans ((Kg.of_keep (w := W3.drew) (fun _ hb => old_blk W3.drew _ hb)).trans (Kg.grown hgrow4 (HR3.out.alloc _) (.inr rfl)) (by simp)) (by omega)).trans (Kg.set (hbg.trans HG3.out.lds.blk) (.inr rfl) _) (by have := hgrow4.size; simp at this; omega)
        clear hown4 hgrow4 hat4 hlt4 hbB hbg v5 vg vf hbx vy
        first | go_end0 | (go_wp2; go_end0) | (refine bodyPost_ret (results_none rfl _ _ _) rfl ?_)
        exact ⟨rfl, ⟨_, _, hG5⟩, hB5, hK5⟩
end Go.Proofs.YtimgafblpmjajabGreat
namespace Go.Proofs.YtimgafblpmjajabGreat
open Go.RowKit Go.Maps

theorem firstN_no {p : Nat → Bool} : ∀ {f i : Nat}, firstN p f i = i + f → ∀ j, i ≤ j → j < i + f → p j = false
  | 0, i, _, j, h1, h2 => absurd h2 (by omega)
  | f + 1, i, h, j, h1, h2 => by
    rw [firstN] at h
    split at h
    · omega
    · rename_i hp
      by_cases hj : j = i
      · subst hj; simpa using hp
      · exact firstN_no (f := f) (i := i + 1) (by omega) j (by omega) (by omega)
theorem wok_good {D : Wd} (h : (wok D).1 = 0) : wok D = (0, 0, 0) ∧ (∀ j, j < D.mods.length → badMd D.mods j = false) ∧ D.mods.length ≤ 60 := by
  unfold wok at h ⊢
  split at h
  · simp at h
  rename_i h1
  rw [if_neg h1]
  split at h
  · simp at h
  rename_i h2
  rw [if_neg h2]
  split at h
  · simp at h
  rename_i h3
  rw [if_neg h3]
  split at h
  · simp at h
  rename_i h4
  rw [if_neg h4]
  have h5 := firstN_le (badMd D.mods) D.mods.length 0
  have h6 := fun k (hk : k < D.mods.length) => firstN_no (p := badMd D.mods) (f := D.mods.length) (i := 0) (by omega) k (by omega) (by omega)
  refine ⟨?_, h6, by omega⟩
  split at h
  · rfl
  · simp at h

theorem Tryz.infoInts : (Tryz.prog.info? 24).map (fun i => (i.zero, i.size, i.bytes)) = some (some (.slice none 0 0), 1, 24) := by kernel_rfl
theorem made_rows (n : Nat) : madeCells #[Value.slice none 0 0] n = (List.replicate n (Value.slice none 0 0)).toArray := by
  apply Array.ext'
  rw [toList_madeCells_one]
/-- A graph without edges. -/
theorem Gst.start {lo mb N : Nat} {w2 W3 : World} {r m f : Value} {DM : DataW Unit} (hlo : lo ≤ w2.heap.size) (hm : w2.ownsMap Tryz.prog 106 (plainElem Tryz.prog 3) mb N DM)
    (hW3 : W3 = ((w2.alloc (.cells (madeCells #[Value.slice none 0 0] N) 24)).alloc (.cells #[r, m, f, .map (some mb), .slice none 0 0, .slice (some ⟨w2.heap.size, 0, none⟩) N N] 62)).drew) :
    Gst lo (w2.heap.size + 1) mb w2.heap.size W3 r m f (.slice none 0 0) (List.replicate N (.slice none 0 0)) [] [] N DM := by
  subst hW3
  refine ⟨?_, by omega, World.ownsRow_nil _ _ _ _, ⟨?_, hlo, ?_, ?_⟩, by simp, ?_⟩
  · have h := new_blk (w2.alloc (.cells (madeCells #[Value.slice none 0 0] N) 24)) (.cells #[r, m, f, .map (some mb), .slice none 0 0, .slice (some ⟨w2.heap.size, 0, none⟩) N N] 62)
    rw [World.size_alloc] at h; exact h
  · show ((w2.alloc _).alloc _).heap[w2.heap.size]? = _
    rw [old_blk _ _ (by simp), new_blk, made_rows]
  · intro j s hs
    have : s = .slice none 0 0 := by rw [List.getElem?_replicate] at hs; split at hs; exact (Option.some.inj hs).symm; cases hs
    subst this
    exact World.ownsRow_nil _ _ _ _
  · intro i j a b q ha _ _ hq
    have : a = .slice none 0 0 := by rw [List.getElem?_replicate] at ha; split at ha; exact (Option.some.inj ha).symm; cases ha
    subst this
    cases hq
  · exact (Kg.of_keep (fun b hb => ((old_blk _ _ (by simp; omega)).trans (old_blk w2 _ hb)))).map hm
theorem thereT_form (D : Wd) : ∀ T : List (List UInt8), thereT D T = -1 ∨ 0 ≤ thereT D T
  | [] => .inl rfl
  | n :: r => by
    rw [thereT]
    split
    · exact .inr (by omega)
    · exact thereT_form D r
theorem toOf_form (D : Wd) (f n : List UInt8) : toOf D f n = -1 ∨ 0 ≤ toOf D f n := thereT_form D _
/-- A graph of no world. -/
def GBad (B : Nat) (w : World) : Prop := w.heap[B]? = some (.cells #[.slice none 0 0, .slice none 0 0, .slice none 0 0, .map none, .slice none 0 0, .slice none 0 0] 62 (0, 0))

set_option maxHeartbeats 4000000 in
set_option maxRecDepth 100000 in
theorem graphOf_bad (v : Value) (D : Wd) (w : World) (h : Wds w v D) (hD : D.t ≤ 1048576) (hbad : ¬ (wok D).1 = 0) :
    Calls Tryz.prog 30 #[v] w fun e w' => ∃ B, e = .returned (.pointer (some ⟨B, 0, none⟩)) ∧ w.heap.size ≤ B ∧ GBad B w' ∧ Below w.heap.size w w' := by
  obtain ⟨a1, a2, a3, k1, k2, k3, rfl⟩ := h.agg'
  obtain ⟨W, hW⟩ : ∃ W, W = w.alloc (.cells #[.slice a1 D.roots.length k1, .slice a2 D.mods.length k2, .slice a3 D.faults.length k3] 32) := ⟨_, rfl⟩
  have hWB : Below w.heap.size w W := by rw [hW]; exact (Below.refl _ _).alloc (Nat.le_refl _) _
  have hok := implWorldOk_any _ D W (h.below hWB (Nat.le_refl _)) hD
  obtain ⟨rc, rm, rl, hrr⟩ : ∃ rc rm rl, wok D = (rc, rm, rl) := ⟨_, _, _, rfl⟩
  have hrc : (rc == 0) = false := by rw [hrr] at hbad; simpa using hbad
  have hwv : wrongV (wok D) = .agg #[.int .i64 rc, .int .i64 rm, .int .i64 rl] := by rw [hrr]; rfl
  rw [hwv] at hok
  have HW : Hid (W = w.alloc (.cells #[.slice a1 D.roots.length k1, .slice a2 D.mods.length k2, .slice a3 D.faults.length k3] 32)) := hW
  clear hW h hrr hwv hbad
  go_enter Tryz.func30, Tryz.ntmps30
  go_wp2_with fail
  rw [← HW.out]
  refine hok.mono ?_
  rintro e w1 ⟨rfl, hb1⟩
  go_wp2
  go_ret
  exact ⟨_, rfl, by have := hb1.size; have := hWB.size; omega, by unfold GBad; exact new_blk _ _, (hWB.trans (hb1.mono hWB.size)).alloc (by have := hb1.size; have := hWB.size; omega) _⟩

set_option maxHeartbeats 8000000 in
set_option maxRecDepth 100000 in
theorem graphOf_good (v : Value) (D : Wd) (w : World) (h : Wds w v D) (hD : D.t ≤ 1048576) (hgood : (wok D).1 = 0) :
    Calls Tryz.prog 30 #[v] w fun e w' => ∃ B mb g r m f ve S DM, v = .agg #[r, m, f] ∧ e = .returned (.pointer (some ⟨B, 0, none⟩)) ∧ Gst w.heap.size B mb g w' r m f ve S (edgesOf D) (edgesOf D) D.mods.length DM ∧ Shelved D.mods D.mods.length DM ∧ Placed D.mods D.mods.length DM ∧ Below w.heap.size w w' := by
  obtain ⟨a1, a2, a3, k1, k2, k3, rfl⟩ := h.agg'
  obtain ⟨W, hW⟩ : ∃ W, W = w.alloc (.cells #[.slice a1 D.roots.length k1, .slice a2 D.mods.length k2, .slice a3 D.faults.length k3] 32) := ⟨_, rfl⟩
  have hWB : Below w.heap.size w W := by rw [hW]; exact (Below.refl _ _).alloc (Nat.le_refl _) _
  have hWs : W.heap.size = w.heap.size + 1 := by rw [hW]; simp
  have hbxw : W.heap[w.heap.size]? = some (.cells #[.slice a1 D.roots.length k1, .slice a2 D.mods.length k2, .slice a3 D.faults.length k3] 32 (0, 0)) := by rw [hW]; exact new_blk _ _
  have hWd := h.below hWB (Nat.le_refl _)
  have hroots : Strs w (.slice a1 D.roots.length k1) D.roots := by
    obtain ⟨r, m, f, hv, h1, h2, h3⟩ := h
    have : r = .slice a1 D.roots.length k1 := by simp at hv; exact hv.1.symm
    rw [← this]; exact h1
  have hmods : Mds w (.slice a2 D.mods.length k2) D.mods := by
    obtain ⟨r, m, f, hv, h1, h2, h3⟩ := h
    have : m = .slice a2 D.mods.length k2 := by simp at hv; exact hv.2.1.symm
    rw [← this]; exact h2
  obtain ⟨hw0, hgm, hm60⟩ := wok_good hgood
  have hok := implWorldOk_any _ D W hWd hD
  have hwv : wrongV (wok D) = .agg #[.int .i64 0, .int .i64 0, .int .i64 0] := by rw [hw0]; rfl
  rw [hwv] at hok
  have hml : D.mods.length ≤ 1048576 := by omega
  have hrt : Pl.total D.roots ≤ 1048576 := by unfold Wd.t at hD; omega
  have hmt : mdsT D.mods ≤ 1048576 := by unfold Wd.t at hD; omega
  have HMS : Hid (∀ m ∈ D.mods, m.t ≤ 1048576) := fun m hm => by
    have h1 : m.t ≤ (D.mods.map Md.t).sum := mem_le_sum _ _ (List.mem_map.2 ⟨m, hm, rfl⟩)
    unfold mdsT at hmt; omega
  have HLE : Hid (lineN D.mods < 1048576) := by
    unfold Hid
    have := lineN_le D.mods
    unfold Wd.t at hD
    rcases Nat.eq_zero_or_pos D.mods.length with h0 | h0
    · rw [List.eq_nil_of_length_eq_zero h0]; decide
    · omega
  have HGM : Hid (∀ j, j < D.mods.length → badMd D.mods j = false) := hgm
  have HMD : Hid (Mds w (.slice a2 D.mods.length k2) D.mods) := hmods
  have HRT : Hid (Strs w (.slice a1 D.roots.length k1) D.roots ∧ Pl.total D.roots ≤ 1048576) := ⟨hroots, hrt⟩
  have hE : edgesOf D = modE D 0 D.mods := by unfold edgesOf; rw [if_pos hgood]
  have HW : Hid (W = w.alloc (.cells #[.slice a1 D.roots.length k1, .slice a2 D.mods.length k2, .slice a3 D.faults.length k3] 32)) := hW
  rw [hE]
  clear hW h hwv hgood hE hgm hw0 hWd hroots hmods hrt hmt hD
  go_enter Tryz.func30, Tryz.ntmps30
  go_wp2_with fail
  rw [← HW.out]
  refine hok.mono ?_
  rintro e w1 ⟨rfl, hb1⟩
  have hbx1 := (hb1.block _ (by omega)).trans hbxw
  have x0 : w1.cell? ⟨w.heap.size, 0, none⟩ = some (.slice a1 D.roots.length k1) := by simp [World.cell?, hbx1]
  have x1 : w1.cell? ⟨w.heap.size, 1, none⟩ = some (.slice a2 D.mods.length k2) := by simp [World.cell?, hbx1]
  have x2 : w1.cell? ⟨w.heap.size, 2, none⟩ = some (.slice a3 D.faults.length k3) := by simp [World.cell?, hbx1]
  have HSV : Hid (∀ V : World, Below W.heap.size W V → Calls Tryz.prog 51 #[.slice a2 D.mods.length k2] V fun e w' => e = .returned (.tuple #[.map (some V.heap.size), .int .i64 (D.mods.length : Nat)]) ∧ (∃ DM, w'.ownsMap Tryz.prog 106 (plainElem Tryz.prog 3) V.heap.size D.mods.length DM ∧ Shelved D.mods D.mods.length DM ∧ Placed D.mods D.mods.length DM) ∧ Below V.heap.size V w') := fun V hV => shelve_full _ D.mods V (HMD.out.below (hWB.trans (hV.mono hWB.size)) (Nat.le_refl _)) hml HMS.out HGM.out
  go_wp2_with fail
  refine (HSV.out _ hb1).mono ?_
  rintro e w2 ⟨rfl, ⟨DM, hmap, hsh, hpl⟩, hb2⟩
  have hB2 : Below W.heap.size W w2 := hb1.trans (hb2.mono hb1.size)
  have hbx2 := (hB2.block _ (by omega)).trans hbxw
  have y0 : w2.cell? ⟨w.heap.size, 0, none⟩ = some (.slice a1 D.roots.length k1) := by simp [World.cell?, hbx2]
  have y1 : w2.cell? ⟨w.heap.size, 1, none⟩ = some (.slice a2 D.mods.length k2) := by simp [World.cell?, hbx2]
  have y2 : w2.cell? ⟨w.heap.size, 2, none⟩ = some (.slice a3 D.faults.length k3) := by simp [World.cell?, hbx2]
  have HM : Hid (w2.ownsMap Tryz.prog 106 (plainElem Tryz.prog 3) w1.heap.size D.mods.length DM ∧ Shelved D.mods D.mods.length DM ∧ Placed D.mods D.mods.length DM) := ⟨hmap, hsh, hpl⟩
  have hmk := run_make_row' (P := Tryz.prog) 60 24 (.slice none 0 0) 24 Tryz.underlying60 Tryz.infoInts rfl .i64 .i64 D.mods.length (by omega) (by omega)
  have hl2 : w.heap.size < w2.heap.size := by have := hB2.size; omega
  have Y0 := fun o' => below_cell0 ((Below.refl w2.heap.size w2).alloc (Nat.le_refl _) o') hl2 y0
  have Y1 := fun o' => below_cell0 ((Below.refl w2.heap.size w2).alloc (Nat.le_refl _) o') hl2 y1
  have Y2 := fun o' => below_cell0 ((Below.refl w2.heap.size w2).alloc (Nat.le_refl _) o') hl2 y2
  have Z0 := fun o' o'' => below_cell0 ((Below.refl (w2.alloc o').heap.size (w2.alloc o')).alloc (Nat.le_refl _) o'') (by simp; omega) (Y0 o')
  have Z1 := fun o' o'' => below_cell0 ((Below.refl (w2.alloc o').heap.size (w2.alloc o')).alloc (Nat.le_refl _) o'') (by simp; omega) (Y1 o')
  have Z2 := fun o' o'' => below_cell0 ((Below.refl (w2.alloc o').heap.size (w2.alloc o')).alloc (Nat.le_refl _) o'') (by simp; omega) (Y2 o')
  clear hmap hsh hpl x0 x1 x2 hbx1
  go_wp2
  go_region_held3 (fun w' => w'.cell? ⟨w.heap.size, 0, none⟩ = some (.slice a1 D.roots.length k1) ∧ w'.cell? ⟨w.heap.size, 1, none⟩ = some (.slice a2 D.mods.length k2) ∧ w'.cell? ⟨w.heap.size, 2, none⟩ = some (.slice a3 D.faults.length k3)) (first | exact ⟨y0, y1, y2⟩ | exact ⟨Y0 _, Y1 _, Y2 _⟩ | exact ⟨Z0 _ _, Z1 _ _, Z2 _ _⟩) (first | fail)
  obtain ⟨W3, hW3⟩ : ∃ W3, W3 = ((w2.alloc (.cells (madeCells #[Value.slice none 0 0] D.mods.length) 24)).alloc (.cells #[.slice a1 D.roots.length k1, .slice a2 D.mods.length k2, .slice a3 D.faults.length k3, .map (some w1.heap.size), .slice none 0 0, .slice (some ⟨w2.heap.size, 0, none⟩) D.mods.length D.mods.length] 62)).drew := ⟨_, rfl⟩
  rw [← hW3]
  have hG3 := Gst.start (lo := w.heap.size) (by omega) HM.out.1 hW3
  have hB3 : Below W.heap.size W W3 := by rw [hW3]; exact ((hB2.alloc hB2.size _).alloc (by have := hB2.size; simp; omega) _).drew
  have hbx3 : W3.heap[w.heap.size]? = _ := (hB3.block _ (by omega)).trans hbxw
  have z1 : W3.cell? ⟨w.heap.size, 1, none⟩ = some (.slice a2 D.mods.length k2) := by simp [World.cell?, hbx3]
  clear hW3 Y0 Y1 Y2 Z0 Z1 Z2 y0 y1 y2 hmk hb2 hbx2
  obtain ⟨B, hBB⟩ : ∃ B, B = w2.heap.size + 1 := ⟨_, rfl⟩
  obtain ⟨g, hgg⟩ : ∃ g, g = w2.heap.size := ⟨_, rfl⟩
  obtain ⟨mb, hmbb⟩ : ∃ mb, mb = w1.heap.size := ⟨_, rfl⟩
  rw [← hBB, ← hgg, ← hmbb] at hG3
  rw [← hBB, ← hgg, ← hmbb]
  have hB30 : Below w.heap.size w W3 := hWB.trans (hB3.mono hWB.size)
  obtain ⟨am, capm, hvm, hcapm, hmaxm, hcm⟩ := HMD.out
  have HCM : Hid (∀ k, (hk : k < D.mods.length) → ∃ b o s, a2 = some ⟨b, o, none⟩ ∧ b < w.heap.size ∧
    w.cell? ⟨b, o + k * 2, none⟩ = some (strV D.mods[k].name) ∧ w.cell? ⟨b, o + k * 2 + 1, none⟩ = some s ∧ Lns w s D.mods[k].lines) := by
    cases hvm; exact hcm
  have hk2 : D.mods.length ≤ k2 := by cases hvm; exact hcapm
  have HM2 : Hid (Shelved D.mods D.mods.length DM ∧ Placed D.mods D.mods.length DM) := HM.out.2
  clear hBB hgg hmbb hcm hvm hmaxm hcapm HM HSV hB3 hB2 hb1 hbx3 hbxw HMD HW hok hWB hWs hl2 HGM
  go_wp2
  go_loopw [35] (fun i wr => ∃ (k : Nat) (ve : Value) (S : List Value), k ≤ D.mods.length ∧ i = .int .i64 k ∧ Gst w.heap.size B mb g wr (.slice a1 D.roots.length k1) (.slice a2 D.mods.length k2) (.slice a3 D.faults.length k3) ve S (modE D 0 (D.mods.take k)) (modE D 0 (D.mods.take k)) D.mods.length DM ∧ Below w.heap.size w wr) (fun i _ => D.mods.length - (intOf i).toNat)
  case atStart => exact ⟨0, _, _, Nat.zero_le _, rfl, by simpa [modE] using hG3, hB30⟩
  case round =>
    obtain ⟨k, ve, S, hk, rfl, hG, hB⟩ := hrel
    by_cases hlt : k < D.mods.length
    · obtain ⟨b, o, ls, rfl, hb, h0, h1, h2⟩ := HCM.out k hlt
      obtain ⟨la, lcap, rfl⟩ := h2.slice
      obtain ⟨hs1, hs2, hs3⟩ := Md.small (HMS.out _ (List.getElem_mem hlt))
      obtain ⟨ns, hns⟩ : ∃ ns : ByteArray, ns.data.toList = D.mods[k].name := ⟨⟨D.mods[k].name.toArray⟩, by simp⟩
      have hnv : strV D.mods[k].name = .string ns := by rw [← hns, strV_data]
      rw [hnv] at h0
      have hnsz : ns.size ≤ 1048576 := by rw [size_data, hns]; exact hs1
      have y0 := below_cell0 hB hb h0
      have y1 := below_cell0 hB hb h1
      obtain ⟨L, hL⟩ : ∃ L, L = D.mods[k].lines := ⟨_, rfl⟩
      have hEk : modE D 0 (D.mods.take (k + 1)) = modE D 0 (D.mods.take k) ++ lineE D k D.mods[k].name 0 D.mods[k].lines := by
        rw [List.take_succ_eq_append_getElem hlt, modE_snoc, List.length_take, Nat.min_eq_left (by omega), Nat.zero_add]
      have hEl : (modE D 0 (D.mods.take (k + 1))).length < 1048576 := by
        have e1 := modE_len D (D.mods.take (k + 1)) 0
        have e2 := lineN_mono D.mods (k + 1)
        have e3 := HLE.out
        omega
      rw [← hL, ← hns] at hEk
      rw [← hL] at h2 hs2 hs3 y1
      obtain ⟨E, hE⟩ : ∃ E, E = modE D 0 (D.mods.take k) := ⟨_, rfl⟩
      rw [← hE] at hG hEk
      obtain ⟨NM, hNM⟩ : ∃ NM, NM = ns.data.toList := ⟨_, rfl⟩
      rw [← hNM] at hEk
      have HEK : Hid (modE D 0 (D.mods.take (k + 1)) = E ++ lineE D k NM 0 L) := hEk
      have HNM : Hid (NM = ns.data.toList) := hNM
      have hEL2 : (E ++ lineE D k NM 0 L).length < 1048576 := by rw [← hEk]; exact hEl
      have hsplit : ∀ q, q ≤ L.length → (E ++ lineE D k NM 0 (L.take q)).length ≤ (E ++ lineE D k NM 0 L).length := fun q hq => by
        have : lineE D k NM 0 L = lineE D k NM 0 (L.take q) ++ lineE D k NM q (L.drop q) := by
          have h := lineE_app D k NM (L.take q) (L.drop q) 0
          rw [List.take_append_drop, List.length_take, Nat.min_eq_left hq, Nat.zero_add] at h
          exact h
        rw [this]; simp only [List.length_append]; omega
      have HSP : Hid (∀ q, q ≤ L.length → (E ++ lineE D k NM 0 (L.take q)).length < 1048576) := fun q hq => Nat.lt_of_le_of_lt (hsplit q hq) hEL2
      obtain ⟨al, capl, hvl, hcapl, hmaxl, hcl⟩ := h2
      have HCL : Hid (∀ q, (hq : q < L.length) → ∃ b o, la = some ⟨b, o, none⟩ ∧ b < w.heap.size ∧
        w.cell? ⟨b, o + q * 4, none⟩ = some (.int .i64 L[q].op) ∧ w.cell? ⟨b, o + q * 4 + 1, none⟩ = some (strV L[q].name) ∧ w.cell? ⟨b, o + q * 4 + 2, none⟩ = some (.int .i64 L[q].num) ∧ w.cell? ⟨b, o + q * 4 + 3, none⟩ = some (.int .i64 L[q].skip)) := by
        cases hvl; exact hcl
      have hlc : L.length ≤ lcap := by cases hvl; exact hcapl
      have HS3 : Hid (∀ l ∈ L, l.name.length ≤ 1048576) := hs3
      have hszB := hB.size
      clear h0 h1 hs1 hnv hns hL hEk hEl hE hNM hEL2 hsplit hvl hcapl hmaxl hcl hs3
      have HE0 : Hid (E ++ lineE D k NM 0 (L.take 0) = E) := by unfold Hid; simp [lineE]
      obtain ⟨wo, rfl⟩ : ∃ wo, wo = wr := ⟨_, rfl⟩
      go_wp2
      go_loopw [43] (fun j wi => ∃ (q : Nat) (ve : Value) (S : List Value), q ≤ L.length ∧ j = .int .i64 q ∧ Gst w.heap.size B mb g wi (.slice a1 D.roots.length k1) (.slice (some ⟨b, o, none⟩) D.mods.length k2) (.slice a3 D.faults.length k3) ve S (E ++ lineE D k NM 0 (L.take q)) (E ++ lineE D k NM 0 (L.take q)) D.mods.length DM ∧ Below w.heap.size w wi ∧ wo.heap.size < wi.heap.size ∧ wi.heap[wo.heap.size]? = some (.cells #[.string ns, .slice la L.length lcap] 49 (0, 0))) (fun j _ => L.length - (intOf j).toNat)
      case atStart => exact ⟨0, ve, S, Nat.zero_le _, rfl, by rw [HE0.out]; exact hG.alloc _, hB.alloc hszB _, by simp, new_blk _ _⟩
      case round =>
        obtain ⟨q, vq, Sq, hq, rfl, hGq, hBq, hzi, hbx⟩ := hrel
        by_cases hlq : q < L.length
        · obtain ⟨b', o', rfl, hb', l0, l1, l2, l3⟩ := HCL.out q hlq
          obtain ⟨ln, hln⟩ : ∃ ln : ByteArray, ln.data.toList = L[q].name := ⟨⟨L[q].name.toArray⟩, by simp⟩
          have hlv : strV L[q].name = .string ln := by rw [← hln, strV_data]
          rw [hlv] at l1
          have hlnsz : ln.size ≤ 1048576 := by rw [size_data, hln]; exact HS3.out _ (List.getElem_mem hlq)
          have m0 := below_cell0 hBq hb' l0
          have m1 := below_cell0 hBq hb' l1
          have m2 := below_cell0 hBq hb' l2
          have m3 := below_cell0 hBq hb' l3
          have hsn : E ++ lineE D k NM 0 (L.take (q + 1)) = (E ++ lineE D k NM 0 (L.take q)) ++ (if L[q].op = 3 ∨ L[q].op = 4 then [⟨(k : Int), (q : Int), toOf D NM L[q].name⟩] else []) := by
            rw [List.take_succ_eq_append_getElem hlq, lineE_snoc, List.length_take, Nat.min_eq_left (by omega), Nat.zero_add, List.append_assoc]
          rw [← hln] at hsn
          have hspq := HSP.out q (by omega)
          obtain ⟨F, hF⟩ : ∃ F, F = E ++ lineE D k NM 0 (L.take q) := ⟨_, rfl⟩
          rw [← hF] at hsn hGq hspq
          obtain ⟨op, hop⟩ : ∃ op, op = L[q].op := ⟨_, rfl⟩
          obtain ⟨nu, hnu⟩ : ∃ nu, nu = L[q].num := ⟨_, rfl⟩
          obtain ⟨sk, hsk⟩ : ∃ sk, sk = L[q].skip := ⟨_, rfl⟩
          rw [← hop] at hsn m0
          rw [← hnu] at m2
          rw [← hsk] at m3
          have HSN : Hid (E ++ lineE D k NM 0 (L.take (q + 1)) = F ++ (if op = 3 ∨ op = 4 then [⟨(k : Int), (q : Int), toOf D NM ln.data.toList⟩] else [])) := hsn
          have hszq := hBq.size
          clear l0 l1 l2 l3 hlv hln hsn hF hop hnu hsk
          obtain ⟨V, hV⟩ : ∃ V, V = wr.alloc (.cells #[.int .i64 op, .string ln, .int .i64 nu, .int .i64 sk] 51) := ⟨_, rfl⟩
          have hGV : Gst w.heap.size B mb g V (.slice a1 D.roots.length k1) (.slice (some ⟨b, o, none⟩) D.mods.length k2) (.slice a3 D.faults.length k3) vq Sq F F D.mods.length DM := by rw [hV]; exact hGq.alloc _
          have hBV : Below w.heap.size w V := by rw [hV]; exact hBq.alloc hszq _
          have hzV : wo.heap.size < V.heap.size := by rw [hV]; simp; omega
          have hbxV : V.heap[wo.heap.size]? = some (.cells #[.string ns, .slice (some ⟨b', o', none⟩) L.length lcap] 49 (0, 0)) := by rw [hV]; exact (old_blk _ _ hzi).trans hbx
          have HV : Hid (V = wr.alloc (.cells #[.int .i64 op, .string ln, .int .i64 nu, .int .i64 sk] 51)) := hV
          clear hV hGq hBq hzi hbx
          go_wp2_with fail
          rw [← HV.out]
          refine (stepOf_any op nu sk ln V).mono ?_
          rintro e w4 ⟨rfl, hb4⟩
          have hG4 := hGV.below hb4
          have hB4 : Below w.heap.size w w4 := hBV.trans (hb4.mono hBV.size)
          have hbx4 := (hb4.block _ hzV).trans hbxV
          have hz4 : wo.heap.size < w4.heap.size := Nat.lt_of_lt_of_le hzV hb4.size
          clear hGV hBV hbxV hzV hb4 m0 m1 m2 m3
          go_wp2_with fail
          refine (importedBy_any op nu sk ln w4).mono ?_
          rintro e w5 ⟨rfl, hb5⟩
          have hG5 := hG4.below hb5
          have hB5 : Below w.heap.size w w5 := hB4.trans (hb5.mono hB4.size)
          have hbx5 := (hb5.block _ hz4).trans hbx4
          have hz5 : wo.heap.size < w5.heap.size := Nat.lt_of_lt_of_le hz4 hb5.size
          clear hG4 hB4 hbx4 hz4 hb5
          by_cases hyes : op = 3 ∨ op = 4
          · rw [impV, if_pos hyes]
            have HF : Hid (E ++ lineE D k NM 0 (L.take (q + 1)) = F ++ [⟨(k : Int), (q : Int), toOf D NM ln.data.toList⟩]) := by unfold Hid; rw [HSN.out, if_pos hyes]
            have z0 : w5.cell? ⟨wo.heap.size, 0, none⟩ = some (.string ns) := by simp [World.cell?, hbx5]
            have hfd := find_any hG5 (HRT.out.1.below hB5 (Nat.le_refl _)) HM2.out.1 HM2.out.2 ns ln HRT.out.2 hlnsz
            rw [← HNM.out] at hfd
            have hT1 : toOf D NM ln.data.toList = -1 ∨ 0 ≤ toOf D NM ln.data.toList := toOf_form D _ _
            obtain ⟨tt, htt⟩ : ∃ tt, tt = toOf D NM ln.data.toList := ⟨_, rfl⟩
            rw [← htt] at hfd HF hT1
            clear hyes htt
            go_wp2_with fail
            refine hfd.mono ?_
            rintro e w6 ⟨rfl, hb6⟩
            have hG6 := hG5.below hb6
            have hB6 : Below w.heap.size w w6 := hB5.trans (hb6.mono hB5.size)
            have hbx6 := (hb6.block _ hz5).trans hbx5
            have hz6 : wo.heap.size < w6.heap.size := Nat.lt_of_lt_of_le hz5 hb6.size
            clear hG5 hB5 hbx5 hz5 hb6 z0 hfd
            go_wp2_with fail
            refine (gjoin_any hG6 (q : Int) tt k (by omega) hT1 hspq).mono ?_
            rintro e w7 ⟨rfl, ⟨v7, S7, hG7⟩, hb7, hk7⟩
            have hbx7 := (hk7 _ hz6 (fun cs t fr e => by rw [hbx6] at e; simp at e; rw [← e.2.1]; decide)).trans hbx6
            go_wp2
            go_roundw
            case rel => exact ⟨q + 1, v7, S7, by omega, by go_num, by rw [HF.out]; exact hG7, hB6.trans hb7, Nat.lt_of_lt_of_le hz6 hb7.size, hbx7⟩
            case measure => simp [intOf]; omega
          · rw [impV, if_neg hyes]
            have HF : Hid (E ++ lineE D k NM 0 (L.take (q + 1)) = F) := by unfold Hid; rw [HSN.out, if_neg hyes, List.append_nil]
            clear hyes
            go_wp2
            go_roundw
            case rel => exact ⟨q + 1, vq, Sq, by omega, by go_num, by rw [HF.out]; exact hG5, hB5, hz5, hbx5⟩
            case measure => simp [intOf]; omega
        · have HQ : Hid (L.take q = L) := List.take_of_length_le (by omega)
          rw [HQ.out, ← HEK.out] at hGq
          go_wp2
          go_roundw
          case rel => exact ⟨k + 1, vq, Sq, by omega, by go_num, hGq, hBq⟩
          case measure => simp [intOf]; omega
    · obtain rfl : k = D.mods.length := by omega
      rw [List.take_length] at hG
      go_wp2
      go_ret
      exact ⟨_, _, _, _, _, _, _, _, _, rfl, rfl, hG, HM2.out.1, HM2.out.2, hB⟩
end Go.Proofs.YtimgafblpmjajabGreat
namespace Go.Proofs.YtimgafblpmjajabGreat
open Go.RowKit Go.Maps

set_option maxHeartbeats 2000000 in
set_option maxRecDepth 100000 in
theorem edges_ok : EdgesOk := by
  intro v D w h hD
  obtain ⟨a1, a2, a3, k1, k2, k3, rfl⟩ := h.agg'
  obtain ⟨W, hW⟩ : ∃ W, W = w.alloc (.cells #[.slice a1 D.roots.length k1, .slice a2 D.mods.length k2, .slice a3 D.faults.length k3] 32) := ⟨_, rfl⟩
  have hWB : Below w.heap.size w W := by rw [hW]; exact (Below.refl _ _).alloc (Nat.le_refl _) _
  have hWd := h.below hWB (Nat.le_refl _)
  have HW : Hid (W = w.alloc (.cells #[.slice a1 D.roots.length k1, .slice a2 D.mods.length k2, .slice a3 D.faults.length k3] 32)) := hW
  clear hW h
  by_cases hg : (wok D).1 = 0
  · have hcall := graphOf_good _ D W hWd hD hg
    clear hWd hg
    go_enter Tryz.func9, Tryz.ntmps9
    go_wp2_with fail
    rw [← HW.out]
    refine hcall.mono ?_
    rintro e w1 ⟨B, mb, g, r, m, f, ve, S, DM, _, rfl, hG, _, _, hB⟩
    have c4 : w1.cell? ⟨B, 4, none⟩ = some ve := hG.cells.2.2.2.2.1
    obtain ⟨av, cv, rfl, _, _⟩ := row_form hG.edg
    have HE : Hid (w1.ownsRow w.heap.size 54 3 (.slice av (edgesOf D).length cv) (edgesOf D).length ((edgesOf D).flatMap egR)) := own_mono hG.edg hWB.size
    clear hG hcall
    go_wp2
    go_ret
    exact ⟨_, rfl, HE.out, hWB.trans (hB.mono hWB.size)⟩
  · have hcall := graphOf_bad _ D W hWd hD hg
    have hE : edgesOf D = [] := by unfold edgesOf; rw [if_neg hg]
    rw [hE]
    clear hWd hg hE
    go_enter Tryz.func9, Tryz.ntmps9
    go_wp2_with fail
    rw [← HW.out]
    refine hcall.mono ?_
    rintro e w1 ⟨B, rfl, _, hG, hB⟩
    have c4 : w1.cell? ⟨B, 4, none⟩ = some (.slice none 0 0) := by unfold GBad at hG; simp [World.cell?, hG]
    clear hG hcall
    go_wp2
    go_ret
    exact ⟨_, rfl, World.ownsRow_nil _ _ _ _, hWB.trans (hB.mono hWB.size)⟩
end Go.Proofs.YtimgafblpmjajabGreat
namespace Go.Proofs.YtimgafblpmjajabGreat

open Go.RowKit

/-- How many are not met. -/
def unmet (l : List Bool) : Nat := (l.filter (fun b => !b)).length
theorem unmet_set : ∀ (l : List Bool) (k : Nat), l[k]? = some false → unmet (l.set k true) + 1 = unmet l
  | [], k, h => by simp at h
  | b :: r, 0, h => by simp at h; subst h; simp [unmet]
  | b :: r, k + 1, h => by
    have := unmet_set r k (by simpa using h)
    cases b <;> simp [unmet] at this ⊢ <;> omega
/-- A visit: what was met, and the modules behind those that they lead to. -/
def vis (E : List Eg) : Nat → Nat → List Bool × List Nat → List Bool × List Nat
  | 0, _, s => s
  | f + 1, k, s => if s.1[k]? = some false then
      ((E.foldl (fun s e => if e.src = (k : Int) ∧ 0 ≤ e.to then vis E f e.to.toNat s else s) (s.1.set k true, s.2)).1,
       (E.foldl (fun s e => if e.src = (k : Int) ∧ 0 ≤ e.to then vis E f e.to.toNat s else s) (s.1.set k true, s.2)).2 ++ [k]) else s
def visStep (E : List Eg) (f k : Nat) (s : List Bool × List Nat) (e : Eg) : List Bool × List Nat := if e.src = (k : Int) ∧ 0 ≤ e.to then vis E f e.to.toNat s else s
theorem vis_eq (E : List Eg) (f k : Nat) (s : List Bool × List Nat) (h : s.1[k]? = some false) : vis E (f + 1) k s = ((E.foldl (visStep E f k) (s.1.set k true, s.2)).1, (E.foldl (visStep E f k) (s.1.set k true, s.2)).2 ++ [k]) := by
  rw [vis, if_pos h]; rfl
theorem vis_met (E : List Eg) (f k : Nat) (s : List Bool × List Nat) (h : s.1[k]? ≠ some false) : vis E f k s = s := by
  cases f with
  | zero => rfl
  | succ f => rw [vis, if_neg h]
/-- All stand in a list as long as the modules, and there is room for what is to come. -/
def VInv (N c : Nat) (s : List Bool × List Nat) : Prop := s.1.length = N ∧ s.2.length + unmet s.1 + c ≤ N ∧ ∀ k ∈ s.2, k < N
theorem foldl_vinv {E : List Eg} {N f k : Nat} (hE : ∀ e ∈ E, e.to < (N : Int))
    (ih : ∀ k s c, k < N → VInv N c s → VInv N c (vis E f k s) ∧ unmet (vis E f k s).1 ≤ unmet s.1) : ∀ (L : List Eg), (∀ e ∈ L, e ∈ E) → ∀ s c, VInv N c s → VInv N c (L.foldl (visStep E f k) s) ∧ unmet (L.foldl (visStep E f k) s).1 ≤ unmet s.1
  | [], _, s, c, h => ⟨h, Nat.le_refl _⟩
  | e :: r, hL, s, c, h => by
    rw [List.foldl_cons]
    have hs : VInv N c (visStep E f k s e) ∧ unmet (visStep E f k s e).1 ≤ unmet s.1 := by
      unfold visStep
      split
      · rename_i hc
        have := hE e (hL e (by simp))
        exact ih _ _ _ (by omega) h
      · exact ⟨h, Nat.le_refl _⟩
    have := foldl_vinv (k := k) hE ih r (fun x hx => hL x (by simp [hx])) _ c hs.1
    exact ⟨this.1, Nat.le_trans this.2 hs.2⟩
theorem vis_inv {E : List Eg} {N : Nat} (hE : ∀ e ∈ E, e.to < (N : Int)) : ∀ (f k : Nat) (s : List Bool × List Nat) (c : Nat), k < N → VInv N c s → VInv N c (vis E f k s) ∧ unmet (vis E f k s).1 ≤ unmet s.1
  | 0, _, s, c, _, h => ⟨h, Nat.le_refl _⟩
  | f + 1, k, s, c, hk, h => by
    by_cases hm : s.1[k]? = some false
    · have hu := unmet_set s.1 k hm
      have h0 : VInv N (c + 1) (s.1.set k true, s.2) := ⟨by simp [h.1], by have := h.2.1; simp only []; omega, h.2.2⟩
      obtain ⟨h1, h2⟩ := foldl_vinv (k := k) hE (fun k s c hk hs => vis_inv hE f k s c hk hs) E (fun _ h => h) _ _ h0
      rw [vis_eq E f k s hm]
      refine ⟨⟨h1.1, ?_, ?_⟩, ?_⟩
      · have := h1.2.1; simp only [List.length_append, List.length_singleton]; omega
      · intro x hx
        simp only [List.mem_append, List.mem_singleton] at hx
        rcases hx with hx | rfl
        · exact h1.2.2 x hx
        · exact hk
      · simp only [] at h2 ⊢; omega
    · rw [vis_met E _ k s hm]; exact ⟨h, Nat.le_refl _⟩

/-- The modules' names that lie below. -/
def Nmd (lo : Nat) (w : World) (vm : Value) (M : List Md) : Prop := ∃ a km, vm = .slice a M.length km ∧ M.length ≤ km ∧ ∀ k (hk : k < M.length), ∃ b o, a = some ⟨b, o, none⟩ ∧ b < lo ∧ w.cell? ⟨b, o + k * 2, none⟩ = some (strV M[k].name)
theorem Nmd.below {lo : Nat} {w w' : World} {vm : Value} {M : List Md} (h : Nmd lo w vm M) (hb : Below lo w w') : Nmd lo w' vm M := by
  obtain ⟨a, km, hv, hk, hc⟩ := h
  exact ⟨a, km, hv, hk, fun k hk => by obtain ⟨b, o, ha, hl, h0⟩ := hc k hk; exact ⟨b, o, ha, hl, below_cell0 hb hl h0⟩⟩
def nmV (M : List Md) (k : Nat) : Value := strV ((M[k]?.map Md.name).getD [])
/-- The machine that puts modules behind those that they import. -/
structure Vm (lo B : Nat) (w : World) (E : List Eg) (M : List Md) (vr vm vf ve vs vo : Value) (s : List Bool × List Nat) : Prop where
  blk : w.heap[B]? = some (.cells #[vr, vm, vf, ve, vs, vo] 72 (0, 0))
  low : lo ≤ B
  seen : w.ownsRow lo 4 1 vs M.length (s.1.map Value.bool)
  out : w.ownsRow lo 9 1 vo s.2.length (s.2.map (nmV M))
  edg : w.ownsRow lo 54 3 ve E.length (E.flatMap egR)
theorem Vm.grow {lo B : Nat} {w w' : World} {E : List Eg} {M : List Md} {vr vm vf ve vs vo : Value} {s : List Bool × List Nat} (h : Vm lo B w E M vr vm vf ve vs vo s) (hb : Below w.heap.size w w') : Vm lo B w' E M vr vm vf ve vs vo s :=
  ⟨(hb.block B (Array.getElem?_eq_some_iff.1 h.blk).1).trans h.blk, h.low, own_below h.seen hb (Nat.le_refl _), own_below h.out hb (Nat.le_refl _), own_below h.edg hb (Nat.le_refl _)⟩
theorem Vm.lt {lo B : Nat} {w : World} {E : List Eg} {M : List Md} {vr vm vf ve vs vo : Value} {s : List Bool × List Nat} (h : Vm lo B w E M vr vm vf ve vs vo s) : B < w.heap.size := (Array.getElem?_eq_some_iff.1 h.blk).1
theorem Vm.cells {lo B : Nat} {w : World} {E : List Eg} {M : List Md} {vr vm vf ve vs vo : Value} {s : List Bool × List Nat} (h : Vm lo B w E M vr vm vf ve vs vo s) : w.cell? ⟨B, 1, none⟩ = some vm ∧ w.cell? ⟨B, 3, none⟩ = some ve ∧ w.cell? ⟨B, 4, none⟩ = some vs ∧ w.cell? ⟨B, 5, none⟩ = some vo ∧ w.frozen? ⟨B, 5, none⟩ = false := by
  have hb := h.blk
  simp [World.cell?, World.frozen?, hb]
end Go.Proofs.YtimgafblpmjajabGreat
namespace Go.Proofs.YtimgafblpmjajabGreat

open Go.RowKit

set_option maxHeartbeats 16000000 in
set_option maxRecDepth 100000 in
theorem visit_any (E : List Eg) (M : List Md) (hE : ∀ e ∈ E, e.to < (M.length : Int)) (hEl : E.length ≤ 1048576) (hML : M.length ≤ 1048576) : ∀ (f : Nat) (lo B : Nat) (vr vm vf ve vs vo : Value) (s : List Bool × List Nat) (k : Nat) (w : World),
    Vm lo B w E M vr vm vf ve vs vo s → Nmd lo w vm M → VInv M.length 0 s → k < M.length → unmet s.1 < f →
    Calls Tryz.prog 36 #[.pointer (some ⟨B, 0, none⟩), .int .i64 k] w fun e w' => e = .returned (.tuple #[]) ∧ ∃ vo', Vm lo B w' E M vr vm vf ve vs vo' (vis E f k s) ∧ Below lo w w'
  | 0, _, _, _, _, _, _, _, _, _, _, _, _, _, _, _, h => absurd h (by omega)
  | f + 1, lo, B, vr, vm, vf, ve, vs, vo, s, k, w, hV, hN, hI, hk, hu => by
    obtain ⟨i9, hi9, hz0, hz1, hz2⟩ := info_parts Tryz.info9
    have IH := visit_any E M hE hEl hML f
    have HIH : Hid (∀ (lo B : Nat) (vr vm vf ve vs vo : Value) (s : List Bool × List Nat) (k : Nat) (w : World),
      Vm lo B w E M vr vm vf ve vs vo s → Nmd lo w vm M → VInv M.length 0 s → k < M.length → unmet s.1 < f →
      Calls Tryz.prog 36 #[.pointer (some ⟨B, 0, none⟩), .int .i64 k] w fun e w' => e = .returned (.tuple #[]) ∧ ∃ vo', Vm lo B w' E M vr vm vf ve vs vo' (vis E f k s) ∧ Below lo w w') := IH
    clear IH
    obtain ⟨c1, c3, c4, c5, cf⟩ := hV.cells
    obtain ⟨asl, cs, rfl, hcs, hgs⟩ := row_form hV.seen
    obtain ⟨gs, rfl⟩ := hgs (by omega)
    have hsl : s.1.length = M.length := hI.1
    have hcell : w.cell? ⟨gs, k, none⟩ = some (.bool s.1[k]) := by rw [hV.seen.cellAt k (by omega)]; simp [hsl, hk]
    cases hb : s.1[k]'(by omega) with
    | true =>
      have hm : s.1[k]? ≠ some false := by rw [List.getElem?_eq_getElem (by omega), hb]; simp
      rw [vis_met E _ k s hm]
      rw [hb] at hcell
      clear HIH
      go_enter Tryz.func36, Tryz.ntmps36
      go_wp2
      first | go_end0 | refine bodyPost_ret (results_none rfl _ _ _) rfl ?_
      exact ⟨rfl, vo, hV, Below.refl _ _⟩
    | false =>
      have hm : s.1[k]? = some false := by rw [List.getElem?_eq_getElem (by omega), hb]
      rw [vis_eq E f k s hm]
      have hus := unmet_set s.1 k hm
      have hI1 : VInv M.length 1 (s.1.set k true, s.2) := ⟨by simp [hI.1], by have := hI.2.1; simp only []; omega, hI.2.2⟩
      rw [hb] at hcell
      have hfz := hV.seen.frozenAt k
      have hst := hV.seen.stored k (.bool true)
      obtain ⟨W1, hW1⟩ : ∃ W1, W1 = w.setCell ⟨gs, k, none⟩ (.bool true) := ⟨_, rfl⟩
      rw [← hW1] at hst
      have hV1 : Vm lo B W1 E M vr vm vf ve (.slice (some ⟨gs, 0, none⟩) M.length cs) vo (s.1.set k true, s.2) := by
        refine ⟨?_, hV.low, ?_, ?_, ?_⟩
        · rw [hst.2.block B hV.lt (fun e => blk_ne hV.blk hV.seen (by decide) e.symm)]; exact hV.blk
        · have := hst.1; rw [show (s.1.map Value.bool).set k (.bool true) = (s.1.set k true).map Value.bool by rw [List.map_set]] at this; exact this
        · exact own_block hV.out (fun b hb => hst.2.block b (hV.out.lt b hb).2 (rows_apart' (by decide) hV.seen hV.out b hb).symm)
        · exact own_block hV.edg (fun b hb => hst.2.block b (hV.edg.lt b hb).2 (rows_apart' (by decide) hV.seen hV.edg b hb).symm)
      have hB1 : Below lo w W1 := (Below.refl lo w).grown hst.2 (by have := hV.lt; have := hV.low; omega) (fun b e => (hV.seen.lt b e).1)
      have hN1 := hN.below hB1
      have HW1 : Hid (W1 = w.setCell ⟨gs, k, none⟩ (.bool true)) := hW1
      have d := hV1.cells
      obtain ⟨ae, ce, rfl, hce, hge⟩ := row_form hV1.edg
      have HFV : Hid (∀ i, i ≤ E.length → VInv M.length 1 ((E.take i).foldl (visStep E f k) (s.1.set k true, s.2)) ∧ unmet ((E.take i).foldl (visStep E f k) (s.1.set k true, s.2)).1 ≤ unmet (s.1.set k true)) := fun i _ =>
        foldl_vinv (k := k) hE (fun k s c hk hs => vis_inv hE f k s c hk hs) (E.take i) (fun e he => List.mem_of_mem_take he) _ _ hI1
      obtain ⟨d1, d3, d4, d5, df⟩ := d
      have d3' := d3
      rw [HW1.out] at d3'
      have hWB : Hid (Below lo w W1) := hB1
      have HV1 : Hid (Vm lo B W1 E M vr vm vf (.slice ae E.length ce) (.slice (some ⟨gs, 0, none⟩) M.length cs) vo (s.1.set k true, s.2)) := hV1
      have HN1 : Hid (Nmd lo W1 vm M) := hN1
      have hkI : (k : Int) < 1048577 := by omega
      obtain ⟨s0, hs0⟩ : ∃ s0, s0 = (s.1.set k true, s.2) := ⟨_, rfl⟩
      rw [← hs0] at HFV HV1 ⊢
      have HUS : Hid (unmet (s.1.set k true) < f) := by unfold Hid; omega
      have HGE : Hid (0 < E.length → ∃ g, ae = some ⟨g, 0, none⟩) := hge
      have HE : Hid (∀ e ∈ E, e.to < (M.length : Int)) := hE
      have hlowB : lo ≤ B := hV.low
      have hBlt : B < W1.heap.size := hV1.lt
      clear hW1 hst hm hI hI1 hV hV1 hN hN1 hus d1 d3 d4 d5 df c1 c5 cf hb hB1 hge hE hu hs0
      go_enter Tryz.func36, Tryz.ntmps36
      go_wp2
      rw [← HW1.out]
      go_loopw [24] (fun i wr => ∃ (n : Nat) (vo' : Value), n ≤ E.length ∧ i = .int .i64 n ∧ Vm lo B wr E M vr vm vf (.slice ae E.length ce) (.slice (some ⟨gs, 0, none⟩) M.length cs) vo' ((E.take n).foldl (visStep E f k) s0) ∧ Below lo W1 wr) (fun i _ => E.length - (intOf i).toNat)
      case atStart => exact ⟨0, vo, Nat.zero_le _, rfl, HV1.out, Below.refl _ _⟩
      case round =>
        obtain ⟨n, vn, hn, rfl, hVn, hBn⟩ := hrel
        obtain ⟨hIn, hUn⟩ := HFV.out n hn
        obtain ⟨sn, hsn⟩ : ∃ sn, sn = (E.take n).foldl (visStep E f k) s0 := ⟨_, rfl⟩
        rw [← hsn] at hVn hIn hUn
        have HSN : Hid (sn = (E.take n).foldl (visStep E f k) s0) := hsn
        clear hsn
        by_cases hlt : n < E.length
        · have HSS : Hid ((E.take (n + 1)).foldl (visStep E f k) s0 = visStep E f k sn E[n]) := by unfold Hid; rw [List.take_succ_eq_append_getElem hlt, List.foldl_append, ← HSN.out]; rfl
          obtain ⟨ge, rfl⟩ := HGE.out (by omega)
          have hgl := hVn.edg.lt ge rfl
          obtain ⟨e0, e1, e2⟩ := egR_get E n hlt
          have hca := hVn.edg.cellAt
          have m0 : wr.cell? ⟨ge, n * 3, none⟩ = some (.int .i64 E[n].src) := by rw [hca _ (by omega)]; exact e0
          have m1 : wr.cell? ⟨ge, n * 3 + 1, none⟩ = some (.int .i64 E[n].line) := by rw [hca _ (by omega)]; exact e1
          have m2 : wr.cell? ⟨ge, n * 3 + 2, none⟩ = some (.int .i64 E[n].to) := by rw [hca _ (by omega)]; exact e2
          have hto := HE.out _ (List.getElem_mem hlt)
          obtain ⟨es, hes⟩ : ∃ es, es = E[n].src := ⟨_, rfl⟩
          obtain ⟨el, hel⟩ : ∃ el, el = E[n].line := ⟨_, rfl⟩
          obtain ⟨et, het⟩ : ∃ et, et = E[n].to := ⟨_, rfl⟩
          rw [← hes] at m0
          rw [← hel] at m1
          rw [← het] at m2 hto
          have HVS : Hid (visStep E f k sn E[n] = if es = (k : Int) ∧ 0 ≤ et then vis E f et.toNat sn else sn) := by unfold Hid visStep; rw [hes, het]
          have hbal : Below wr.heap.size wr (wr.alloc (.cells #[.int .i64 es, .int .i64 el, .int .i64 et] 54)) := (Below.refl _ _).alloc (Nat.le_refl _) _
          have hszl : lo ≤ wr.heap.size := by have := hVn.lt; omega
          clear e0 e1 e2 hca hes hel het
          by_cases hyes : es = (k : Int) ∧ 0 ≤ et
          · obtain ⟨hy1, hy2⟩ := hyes
            obtain ⟨tn, htn⟩ : ∃ tn : Nat, et = (tn : Int) := ⟨et.toNat, by omega⟩
            subst hy1
            subst htn
            have HVS2 : Hid (visStep E f k sn E[n] = vis E f tn sn) := by unfold Hid; rw [HVS.out, if_pos ⟨rfl, by omega⟩]; simp
            have hrec := HIH.out lo B vr vm vf (.slice (some ⟨ge, 0, none⟩) E.length ce) (.slice (some ⟨gs, 0, none⟩) M.length cs) vn sn tn _ (hVn.grow hbal) ((HN1.out.below hBn).below (hbal.mono hszl)) ⟨hIn.1, by have := hIn.2.1; omega, hIn.2.2⟩ (by omega) (by have := HUS.out; omega)
            clear HVS
            go_wp2_with fail
            refine hrec.mono ?_
            rintro e w2 ⟨rfl, vo2, hV2, hB2⟩
            go_wp2
            go_roundw
            case rel => exact ⟨n + 1, vo2, by omega, by go_num, by rw [HSS.out, HVS2.out]; exact hV2, hBn.trans ((hbal.mono hszl).trans hB2)⟩
            case measure => simp [intOf]; omega
          · have HVS2 : Hid (visStep E f k sn E[n] = sn) := by unfold Hid; rw [HVS.out, if_neg hyes]
            by_cases hy1 : es = (k : Int)
            · have hy2 : ¬ 0 ≤ et := fun h => hyes ⟨hy1, h⟩
              subst hy1
              clear HVS hyes
              go_wp2
              go_roundw
              case rel => exact ⟨n + 1, vn, by omega, by go_num, by rw [HSS.out, HVS2.out]; exact hVn.grow hbal, hBn.trans (hbal.mono hszl)⟩
              case measure => simp [intOf]; omega
            · have hy3 : (es == (k : Int)) = false := by simpa using hy1
              clear HVS hyes hy1
              go_wp2
              go_roundw
              case rel => exact ⟨n + 1, vn, by omega, by go_num, by rw [HSS.out, HVS2.out]; exact hVn.grow hbal, hBn.trans (hbal.mono hszl)⟩
              case measure => simp [intOf]; omega
        · have HK : Hid (E.take n = E) := List.take_of_length_le (by omega)
          rw [HK.out] at HSN
          obtain ⟨am, km, rfl, hkm, hcm⟩ := HN1.out.below hBn
          obtain ⟨mb, mo, rfl, hmb, hmc⟩ := hcm k hk
          obtain ⟨ns, hns⟩ : ∃ ns, strV M[k].name = .string ns := ⟨_, rfl⟩
          rw [hns] at hmc
          have HNV : Hid (nmV M k = .string ns) := by unfold Hid nmV; rw [List.getElem?_eq_getElem hk]; exact hns
          obtain ⟨an, cn, rfl, hcn, _⟩ := row_form hVn.out
          obtain ⟨q1, q3, q4, q5, qf⟩ := hVn.cells
          have hsnl : sn.2.length ≤ 1048576 := by have := hIn.2.1; omega
          have HO : Hid (wr.drew.ownsRow lo 9 1 (.slice an sn.2.length cn) sn.2.length (sn.2.map (nmV M))) := hVn.out
          have hszl : lo ≤ wr.heap.size := by have := hVn.lt; omega
          have HVN : Hid (Vm lo B wr E M vr (.slice (some ⟨mb, mo, none⟩) M.length km) vf (.slice ae E.length ce) (.slice (some ⟨gs, 0, none⟩) M.length cs) (.slice an sn.2.length cn) sn) := hVn
          have HHN : Hid (∀ j u, [Value.string ns][j]? = some u → (wr.drew.alloc (.cells #[.string ns] 9)).cell? ((⟨wr.heap.size, 0, none⟩ : Addr).add j) = some u) := cell_one_new wr.drew (.string ns) 9
          have hBlt2 : B < wr.heap.size := hVn.lt
          clear hcm hns hVn q3 q4 HIH HFV HE HUS hIn hUn
          go_wp2
          go_region_law (refine step_append_lies _ rfl (.tmp 46) (.tmp 56) 22 rfl lo 9 i9 (.string ByteArray.empty) 1 16 Tryz.underlying22 hi9 hz0 hz1 hz2 rfl (by decide) (.slice an sn.2.length cn) sn.2.length (sn.2.map (nmV M)) (by simp [Act.eval]) (HO.out.alloc _) ⟨wr.heap.size, 0, none⟩ 1 1 [.string ns] (by simp [Act.eval]) rfl HHN.out (by intro u hu; simp at hu; subst hu; rfl) (by decide) (by unfold maxLen; omega) (by omega) (by simp; omega) (wr.heap.size + 1) (by simp) ?_; intro g cap w2 hown2 hgrow2 hat2 hlt2; have hbk : w2.heap[B]? = some (.cells #[vr, .slice (some ⟨mb, mo, none⟩) M.length km, vf, .slice ae E.length ce, .slice (some ⟨gs, 0, none⟩) M.length cs, .slice an sn.2.length cn] 72 (0, 0)) := (grown_keep hgrow2 (by simp; omega) (blk_ne HVN.out.blk HVN.out.out (by decide))).trans ((old_blk wr.drew _ hBlt2).trans HVN.out.blk); have u5 : w2.cell? ⟨B, 5, none⟩ = some (.slice an sn.2.length cn) := (by simp [World.cell?, hbk]); have uf : w2.frozen? ⟨B, 5, none⟩ = false := (by simp [World.frozen?, hbk]))
          all_goals
            have hblk3 : (w2.setCell ⟨B, 5, none⟩ (.slice (some ⟨g, 0, none⟩) (sn.2.length + 1) cap)).heap[B]? = some (.cells #[vr, .slice (some ⟨mb, mo, none⟩) M.length km, vf, .slice ae E.length ce, .slice (some ⟨gs, 0, none⟩) M.length cs, .slice (some ⟨g, 0, none⟩) (sn.2.length + 1) cap] 72 (0, 0)) := by
              rw [heap_setCell_same w2 B 5 _ _ _ hbk]; rfl
            have kept : ∀ {e : TypeId} {size n : Nat} {v : Value} {xs : List Value}, wr.ownsRow lo e size v n xs → e ≠ 9 → e ≠ 72 → (w2.setCell ⟨B, 5, none⟩ (.slice (some ⟨g, 0, none⟩) (sn.2.length + 1) cap)).ownsRow lo e size v n xs := fun {e size n v xs} hr h9 h81 =>
              own_block hr (fun b hb => by
                rw [Below.heap_setCell _ _ _ _ (fun e' => blk_ne HVN.out.blk hr (fun e'' => h81 e''.symm) (by rw [hb]; exact congrArg some e'))]
                exact (grown_keep hgrow2 (by have := (hr.lt b hb).2; simp; omega) (fun e' => rows_apart' (fun e'' => h9 e''.symm) HVN.out.out hr b hb e')).trans (old_blk wr.drew _ (hr.lt b hb).2))
            have hout3 : (w2.setCell ⟨B, 5, none⟩ (.slice (some ⟨g, 0, none⟩) (sn.2.length + 1) cap)).ownsRow lo 9 1 (.slice (some ⟨g, 0, none⟩) (sn.2.length + 1) cap) (sn.2.length + 1) (sn.2.map (nmV M) ++ [.string ns]) :=
              own_block hown2 (fun b hb => Below.heap_setCell _ _ _ _ (fun e' => blk_ne hbk hown2 (by decide) (by rw [hb]; exact congrArg some e')))
            have hBl : Below lo w (w2.setCell ⟨B, 5, none⟩ (.slice (some ⟨g, 0, none⟩) (sn.2.length + 1) cap)) :=
              (hWB.out.trans ((hBn.drew.alloc hszl _).grown hgrow2 (by simp; omega) (fun b e' => (HVN.out.out.lt b e').1))).setCell (p := ⟨B, 5, none⟩) hlowB _
            have hV3 : Vm lo B (w2.setCell ⟨B, 5, none⟩ (.slice (some ⟨g, 0, none⟩) (sn.2.length + 1) cap)) E M vr (.slice (some ⟨mb, mo, none⟩) M.length km) vf (.slice ae E.length ce) (.slice (some ⟨gs, 0, none⟩) M.length cs) (.slice (some ⟨g, 0, none⟩) (sn.2.length + 1) cap) (sn.1, sn.2 ++ [k]) :=
              ⟨hblk3, hlowB, kept HVN.out.seen (by decide) (by decide), by rw [List.length_append, List.length_singleton, List.map_append, List.map_singleton, HNV.out]; exact hout3, kept HVN.out.edg (by decide) (by decide)⟩
            clear kept hout3 hblk3 hown2 hgrow2 hat2 hlt2 hbk u5 uf
            first | go_end0 | (go_wp2; go_end0) | (refine bodyPost_ret (results_none rfl _ _ _) rfl ?_)
            exact ⟨rfl, _, by rw [← HSN.out]; exact hV3, hBl⟩
end Go.Proofs.YtimgafblpmjajabGreat
namespace Go.Proofs.YtimgafblpmjajabGreat

open Go.RowKit

def nmain : List UInt8 := [109, 97, 105, 110]
def orderK (D : Wd) (n : List UInt8) : List Nat := if (wok D).1 = 0 then (if 0 ≤ toOf D nmain n then (vis (edgesOf D) (D.mods.length + 1) (toOf D nmain n).toNat (List.replicate D.mods.length false, [])).2 else []) else []
def nameK (M : List Md) (k : Nat) : List UInt8 := (M[k]?.map Md.name).getD []
def orderOf (D : Wd) (n : List UInt8) : List (List UInt8) := (orderK D n).map (nameK D.mods)
theorem thereT_lt (D : Wd) : ∀ T : List (List UInt8), thereT D T < (D.mods.length : Int)
  | [] => by simp [thereT]; omega
  | n :: r => by
    rw [thereT]
    split
    · omega
    · exact thereT_lt D r
theorem lineE_to (D : Wd) (i : Nat) (nm : List UInt8) : ∀ (L : List Ln) (k : Nat), ∀ e ∈ lineE D i nm k L, e.to < (D.mods.length : Int)
  | [], _, e, h => by simp [lineE] at h
  | x :: r, k, e, h => by
    rw [lineE] at h
    rcases List.mem_append.1 h with h | h
    · split at h
      · simp at h; subst h; exact thereT_lt D _
      · simp at h
    · exact lineE_to D i nm r (k + 1) e h
theorem modE_to (D : Wd) : ∀ (M : List Md) (i : Nat), ∀ e ∈ modE D i M, e.to < (D.mods.length : Int)
  | [], _, e, h => by simp [modE] at h
  | x :: r, i, e, h => by
    rw [modE] at h
    rcases List.mem_append.1 h with h | h
    · exact lineE_to D i _ _ _ e h
    · exact modE_to D r (i + 1) e h
theorem edgesOf_to (D : Wd) : ∀ e ∈ edgesOf D, e.to < (D.mods.length : Int) := by
  unfold edgesOf
  split
  · exact modE_to D D.mods 0
  · intro e h; simp at h
theorem unmet_rep (n : Nat) : unmet (List.replicate n false) = n := by
  induction n with
  | zero => rfl
  | succ n ih => rw [List.replicate_succ]; simp [unmet] at ih ⊢
theorem vinv_start (N : Nat) : VInv N 0 (List.replicate N false, []) := ⟨by simp, by simp [unmet_rep], by simp⟩
theorem Tryz.info4 : (Tryz.prog.info? 4).map (fun i => (i.zero, i.size, i.bytes)) = some (some (.bool false), 1, 1) := by kernel_rfl
theorem made_bools (n : Nat) : (madeCells #[Value.bool false] n).toList = (List.replicate n false).map Value.bool := by
  rw [List.map_replicate]; exact toList_madeCells_one _ n
theorem own_made (w : World) (lo n : Nat) (hlo : lo ≤ w.heap.size) (hn : n ≤ maxLen) : (w.alloc (.cells (madeCells #[Value.bool false] n) 4)).ownsRow lo 4 1 (.slice (some ⟨w.heap.size, 0, none⟩) n n) n ((List.replicate n false).map Value.bool) := by
  have hl : (madeCells #[Value.bool false] n).toList.length = n := by rw [made_bools]; simp
  refine ⟨by simp, .inr ⟨w.heap.size, n, _, rfl, hlo, new_blk _ _, Nat.le_refl _, hn, ?_, ?_⟩⟩
  · rw [← Array.length_toList, hl, Nat.mul_one]
  · rw [made_bools, List.take_of_length_le (by simp)]

set_option maxHeartbeats 16000000 in
set_option maxRecDepth 100000 in
theorem specOrder_any (v : Value) (D : Wd) (n : ByteArray) (w : World) (h : Wds w v D) (hD : D.t ≤ 1048576) (hn : n.size ≤ 1048576) :
    Calls Tryz.prog 15 #[v, .string n] w fun e w' => ∃ v', e = .returned v' ∧ w'.ownsRow w.heap.size 9 1 v' (orderOf D n.data.toList).length ((orderOf D n.data.toList).map strV) ∧ Below w.heap.size w w' := by
  obtain ⟨a1, a2, a3, k1, k2, k3, rfl⟩ := h.agg'
  obtain ⟨W, hW⟩ : ∃ W, W = w.alloc (.cells #[.slice a1 D.roots.length k1, .slice a2 D.mods.length k2, .slice a3 D.faults.length k3] 32) := ⟨_, rfl⟩
  have hWB : Below w.heap.size w W := by rw [hW]; exact (Below.refl _ _).alloc (Nat.le_refl _) _
  have hWs : W.heap.size = w.heap.size + 1 := by rw [hW]; simp
  have hc3 := cells3 w (.slice a1 D.roots.length k1) (.slice a2 D.mods.length k2) (.slice a3 D.faults.length k3) 32
  rw [← hW] at hc3
  have hWd := h.below hWB (Nat.le_refl _)
  have HWD : Hid (Wds W (.agg #[.slice a1 D.roots.length k1, .slice a2 D.mods.length k2, .slice a3 D.faults.length k3]) D) := hWd
  have hmods : Mds W (.slice a2 D.mods.length k2) D.mods := by
    obtain ⟨r, m, f, hv, h1, h2, h3⟩ := hWd
    have : m = .slice a2 D.mods.length k2 := by simp at hv; exact hv.2.1.symm
    rw [← this]; exact h2
  have HNM : Hid (Nmd W.heap.size W (.slice a2 D.mods.length k2) D.mods) := by
    obtain ⟨a, cap, hv, hcap, hmax, hc⟩ := hmods
    cases hv
    exact ⟨a2, k2, rfl, hcap, fun k hk => by obtain ⟨b, o, s, ha, hb, h0, _⟩ := hc k hk; exact ⟨b, o, ha, hb, h0⟩⟩
  have hok := l4ok_any _ D W hWd hD
  have hml : D.mods.length ≤ 1048576 := by unfold Wd.t mdsT at hD; omega
  have HW : Hid (W = w.alloc (.cells #[.slice a1 D.roots.length k1, .slice a2 D.mods.length k2, .slice a3 D.faults.length k3] 32)) := hW
  have HTO : Hid (∀ (V : World), Below W.heap.size W V → Calls Tryz.prog 26 #[.agg #[.slice a1 D.roots.length k1, .slice a2 D.mods.length k2, .slice a3 D.faults.length k3], .string ⟨#[109, 97, 105, 110]⟩, .string n] V fun e w' => e = .returned (.int .i64 (toOf D nmain n.data.toList)) ∧ Below V.heap.size V w') := fun V hV => l4to_any _ D ⟨#[109, 97, 105, 110]⟩ n V (hWd.below hV (Nat.le_refl _)) hD (by decide) hn
  have HED : Hid (∀ (V : World), Below W.heap.size W V → Calls Tryz.prog 7 #[.agg #[.slice a1 D.roots.length k1, .slice a2 D.mods.length k2, .slice a3 D.faults.length k3]] V fun e w' => ∃ v', e = .returned v' ∧ w'.ownsRow V.heap.size 54 3 v' (edgesOf D).length ((edgesOf D).flatMap egR) ∧ Below V.heap.size V w') := fun V hV => specEdges_any _ D V (hWd.below hV (Nat.le_refl _)) hD
  have hEl := edgesOf_len D hD
  have HVI : Hid (∀ (lo B : Nat) (vr vm vf ve vs vo : Value) (s : List Bool × List Nat) (k : Nat) (w : World),
      Vm lo B w (edgesOf D) D.mods vr vm vf ve vs vo s → Nmd lo w vm D.mods → VInv D.mods.length 0 s → k < D.mods.length → unmet s.1 < D.mods.length + 1 →
      Calls Tryz.prog 36 #[.pointer (some ⟨B, 0, none⟩), .int .i64 k] w fun e w' => e = .returned (.tuple #[]) ∧ ∃ vo', Vm lo B w' (edgesOf D) D.mods vr vm vf ve vs vo' (vis (edgesOf D) (D.mods.length + 1) k s) ∧ Below lo w w') := visit_any (edgesOf D) D.mods (edgesOf_to D) hEl hml (D.mods.length + 1)
  have hmk := run_make_row' (P := Tryz.prog) 70 4 (.bool false) 1 Tryz.underlying70 Tryz.info4 rfl .i64 .i64 D.mods.length (by omega) (by omega)
  have hlt := thereT_lt D (Pl.tries D.roots nmain n.data.toList)
  clear hW h hWd hmods
  by_cases hgood : (wok D).1 = 0
  · have hdec : decide ((wok D).1 = 0) = true := by simpa using hgood
    rw [hdec] at hok
    have hO : orderK D n.data.toList = if 0 ≤ toOf D nmain n.data.toList then (vis (edgesOf D) (D.mods.length + 1) (toOf D nmain n.data.toList).toNat (List.replicate D.mods.length false, [])).2 else [] := by unfold orderK; rw [if_pos hgood]
    have hlt' : toOf D nmain n.data.toList < (D.mods.length : Int) := hlt
    obtain ⟨t, ht⟩ : ∃ t, t = toOf D nmain n.data.toList := ⟨_, rfl⟩
    rw [← ht] at hO HTO hlt'
    unfold orderOf
    obtain ⟨R, hR⟩ : ∃ R, R = orderK D n.data.toList := ⟨_, rfl⟩
    rw [← hR] at hO ⊢
    have HO : Hid (R = if 0 ≤ t then (vis (edgesOf D) (D.mods.length + 1) t.toNat (List.replicate D.mods.length false, [])).2 else []) := hO
    clear hdec hgood hlt ht hR hO
    by_cases hneg : t < 0
    · have HR : Hid (R = []) := by unfold Hid; rw [HO.out, if_neg (by omega)]
      rw [HR.out]
      go_enter Tryz.func15, Tryz.ntmps15
      go_wp2_with fail
      rw [← HW.out]
      refine hok.mono ?_
      rintro e w1 ⟨rfl, hb1⟩
      have x0 := below_cell0 hb1 (by omega) hc3.1
      have x1 := below_cell0 hb1 (by omega) hc3.2.1
      have x2 := below_cell0 hb1 (by omega) hc3.2.2
      go_wp2_with fail
      refine (HTO.out w1 hb1).mono ?_
      rintro e w2 ⟨rfl, hb2⟩
      go_wp2
      go_ret
      exact ⟨_, rfl, World.ownsRow_nil _ _ _ _, hWB.trans ((hb1.trans (hb2.mono hb1.size)).mono hWB.size)⟩
    · obtain ⟨k, rfl⟩ : ∃ k : Nat, t = (k : Int) := ⟨t.toNat, by omega⟩
      have HR : Hid (R = (vis (edgesOf D) (D.mods.length + 1) k (List.replicate D.mods.length false, [])).2) := by unfold Hid; rw [HO.out, if_pos (by omega)]; simp
      go_enter Tryz.func15, Tryz.ntmps15
      go_wp2_with fail
      rw [← HW.out]
      refine hok.mono ?_
      rintro e w1 ⟨rfl, hb1⟩
      have x0 := below_cell0 hb1 (by omega) hc3.1
      have x1 := below_cell0 hb1 (by omega) hc3.2.1
      have x2 := below_cell0 hb1 (by omega) hc3.2.2
      go_wp2_with fail
      refine (HTO.out w1 hb1).mono ?_
      rintro e w2 ⟨rfl, hb2⟩
      have hB2 : Below W.heap.size W w2 := hb1.trans (hb2.mono hb1.size)
      clear x0 x1 x2
      have x0 := below_cell0 hB2 (by omega) hc3.1
      have x1 := below_cell0 hB2 (by omega) hc3.2.1
      have x2 := below_cell0 hB2 (by omega) hc3.2.2
      have hz2 : W.heap.size ≤ w2.heap.size := hB2.size
      clear hb1 hb2 hneg hok
      have HA := HED.out w2.drew hB2.drew
      obtain ⟨V, hV⟩ : ∃ V, V = w2.alloc (.cells (madeCells #[Value.bool false] D.mods.length) 4) := ⟨_, rfl⟩
      have hVB : Below w2.heap.size w2 V := by rw [hV]; exact (Below.refl _ _).alloc (Nat.le_refl _) _
      have hVs : V.heap.size = w2.heap.size + 1 := by rw [hV]; simp
      have HB := HED.out V.drew (hB2.trans (hVB.mono hz2)).drew
      have HHA : Hid (Calls Tryz.prog 7 #[.agg #[.slice a1 D.roots.length k1, .slice a2 D.mods.length k2, .slice a3 D.faults.length k3]] w2.drew fun e w' => ∃ v', e = .returned v' ∧ w'.ownsRow w2.heap.size 54 3 v' (edgesOf D).length ((edgesOf D).flatMap egR) ∧ Below w2.heap.size w2.drew w') := HA
      have HHB : Hid (Calls Tryz.prog 7 #[.agg #[.slice a1 D.roots.length k1, .slice a2 D.mods.length k2, .slice a3 D.faults.length k3]] (w2.alloc (.cells (madeCells #[Value.bool false] D.mods.length) 4)).drew fun e w' => ∃ v', e = .returned v' ∧ w'.ownsRow V.heap.size 54 3 v' (edgesOf D).length ((edgesOf D).flatMap egR) ∧ Below V.heap.size V.drew w') := by
        unfold Hid; rw [← hV]; exact HB
      have HVV : Hid (V = w2.alloc (.cells (madeCells #[Value.bool false] D.mods.length) 4)) := hV
      have hlw : w.heap.size < w2.heap.size := by omega
      have hnw : ¬ w.heap.size = w2.heap.size := by omega
      have X0 := fun o' => below_cell0 ((Below.refl w2.heap.size w2).alloc (Nat.le_refl _) o') hlw x0
      have X1 := fun o' => below_cell0 ((Below.refl w2.heap.size w2).alloc (Nat.le_refl _) o') hlw x1
      have X2 := fun o' => below_cell0 ((Below.refl w2.heap.size w2).alloc (Nat.le_refl _) o') hlw x2
      have v0 : V.drew.cell? ⟨w.heap.size, 0, none⟩ = some (.slice a1 D.roots.length k1) := by rw [HVV.out]; exact X0 _
      have v1 : V.drew.cell? ⟨w.heap.size, 1, none⟩ = some (.slice a2 D.mods.length k2) := by rw [HVV.out]; exact X1 _
      have v2 : V.drew.cell? ⟨w.heap.size, 2, none⟩ = some (.slice a3 D.faults.length k3) := by rw [HVV.out]; exact X2 _
      have u0 : w2.drew.cell? ⟨w.heap.size, 0, none⟩ = some (.slice a1 D.roots.length k1) := x0
      have u1 : w2.drew.cell? ⟨w.heap.size, 1, none⟩ = some (.slice a2 D.mods.length k2) := x1
      have u2 : w2.drew.cell? ⟨w.heap.size, 2, none⟩ = some (.slice a3 D.faults.length k3) := x2
      have HU : Hid (w2.drew.cell? ⟨w.heap.size, 0, none⟩ = some (.slice a1 D.roots.length k1) ∧ w2.drew.cell? ⟨w.heap.size, 1, none⟩ = some (.slice a2 D.mods.length k2) ∧ w2.drew.cell? ⟨w.heap.size, 2, none⟩ = some (.slice a3 D.faults.length k3)) := ⟨u0, u1, u2⟩
      have HV' : Hid (V.drew.cell? ⟨w.heap.size, 0, none⟩ = some (.slice a1 D.roots.length k1) ∧ V.drew.cell? ⟨w.heap.size, 1, none⟩ = some (.slice a2 D.mods.length k2) ∧ V.drew.cell? ⟨w.heap.size, 2, none⟩ = some (.slice a3 D.faults.length k3)) := ⟨v0, v1, v2⟩
      clear HA HB hV u0 u1 u2 v0 v1 v2
      go_wp2
      go_region_held3 (fun w' => w'.cell? ⟨w.heap.size, 0, none⟩ = some (.slice a1 D.roots.length k1) ∧ w'.cell? ⟨w.heap.size, 1, none⟩ = some (.slice a2 D.mods.length k2) ∧ w'.cell? ⟨w.heap.size, 2, none⟩ = some (.slice a3 D.faults.length k3)) (first | go_keep | exact ⟨by assumption, by assumption, by assumption⟩) (first | (go_at_call 7; refine HHA.out.mono ?_; rintro e w3 ⟨ve, rfl, re3, hb3⟩; obtain ⟨ea, ec, rfl, _, _⟩ := row_form re3; obtain ⟨y0, y1, y2⟩ := keep3 hb3 hlw HU.out; have hl3 : w.heap.size < w3.heap.size := (by have : w2.heap.size ≤ w3.heap.size := hb3.size; omega); have Y0 := fun o' => below_cell0 ((Below.refl w3.heap.size w3).alloc (Nat.le_refl _) o') hl3 y0; have Y1 := fun o' => below_cell0 ((Below.refl w3.heap.size w3).alloc (Nat.le_refl _) o') hl3 y1; have Y2 := fun o' => below_cell0 ((Below.refl w3.heap.size w3).alloc (Nat.le_refl _) o') hl3 y2; have ORD : Hid True := trivial) | (go_at_call 7; refine HHB.out.mono ?_; rintro e w3 ⟨ve, rfl, re3, hb3⟩; obtain ⟨ea, ec, rfl, _, _⟩ := row_form re3; obtain ⟨y0, y1, y2⟩ := keep3 hb3 (by omega) HV'.out; have hl3 : w.heap.size < w3.heap.size := (by have : V.heap.size ≤ w3.heap.size := hb3.size; omega); have Y0 := fun o' => below_cell0 ((Below.refl w3.heap.size w3).alloc (Nat.le_refl _) o') hl3 y0; have Y1 := fun o' => below_cell0 ((Below.refl w3.heap.size w3).alloc (Nat.le_refl _) o') hl3 y1; have Y2 := fun o' => below_cell0 ((Below.refl w3.heap.size w3).alloc (Nat.le_refl _) o') hl3 y2; have ORD : Hid (0 = 0) := rfl))
      · have hz23 : w2.heap.size ≤ w3.heap.size := hb3.size
        have hB3 : Below W.heap.size W w3 := hB2.drew.trans (hb3.mono hz2)
        have hBU : Below W.heap.size W ((w3.alloc (.cells (madeCells #[Value.bool false] D.mods.length) 4)).alloc (.cells #[.slice a1 D.roots.length k1, .slice a2 D.mods.length k2, .slice a3 D.faults.length k3, .slice ea (edgesOf D).length ec, .slice (some ⟨w3.heap.size, 0, none⟩) D.mods.length D.mods.length, .slice none 0 0] 72)) := ((hB3.alloc (by omega) _).alloc (by simp; omega) _)
        have hVm : Vm W.heap.size (w3.heap.size + 1) ((w3.alloc (.cells (madeCells #[Value.bool false] D.mods.length) 4)).alloc (.cells #[.slice a1 D.roots.length k1, .slice a2 D.mods.length k2, .slice a3 D.faults.length k3, .slice ea (edgesOf D).length ec, .slice (some ⟨w3.heap.size, 0, none⟩) D.mods.length D.mods.length, .slice none 0 0] 72)) (edgesOf D) D.mods (.slice a1 D.roots.length k1) (.slice a2 D.mods.length k2) (.slice a3 D.faults.length k3) (.slice ea (edgesOf D).length ec) (.slice (some ⟨w3.heap.size, 0, none⟩) D.mods.length D.mods.length) (.slice none 0 0) (List.replicate D.mods.length false, []) :=
          ⟨by have h := new_blk (w3.alloc (.cells (madeCells #[Value.bool false] D.mods.length) 4)) (.cells #[.slice a1 D.roots.length k1, .slice a2 D.mods.length k2, .slice a3 D.faults.length k3, .slice ea (edgesOf D).length ec, .slice (some ⟨w3.heap.size, 0, none⟩) D.mods.length D.mods.length, .slice none 0 0] 72); rw [World.size_alloc] at h; exact h, by omega, (own_made w3 W.heap.size D.mods.length (by omega) (by unfold maxLen; omega)).alloc _, World.ownsRow_nil _ _ _ _, ((own_mono re3 hz2).alloc _).alloc _⟩
        have hvis := HVI.out W.heap.size (w3.heap.size + 1) _ _ _ _ _ _ _ k _ hVm (HNM.out.below hBU) (vinv_start _) (by omega) (by rw [unmet_rep]; omega)
        go_wp2_with fail
        refine hvis.mono ?_
        rintro e w4 ⟨rfl, vo', hV4, hB4⟩
        obtain ⟨q1, q3, q4, q5, qf⟩ := hV4.cells
        have HV4 : Hid (Vm W.heap.size (w3.heap.size + 1) w4 (edgesOf D) D.mods (.slice a1 D.roots.length k1) (.slice a2 D.mods.length k2) (.slice a3 D.faults.length k3) (.slice ea (edgesOf D).length ec) (.slice (some ⟨w3.heap.size, 0, none⟩) D.mods.length D.mods.length) vo' (vis (edgesOf D) (D.mods.length + 1) k (List.replicate D.mods.length false, []))) := hV4
        clear hV4 q1 q3 q4
        obtain ⟨ov, oc, rfl, _, _⟩ := row_form HV4.out.out
        go_wp2
        go_ret
        refine ⟨_, rfl, ?_, hWB.trans ((hBU.trans hB4).mono hWB.size)⟩
        have hr := HV4.out.out
        rw [← HR.out] at hr ⊢
        rw [List.map_map, List.length_map]
        exact own_mono hr hWB.size
      · have hz23 : V.heap.size ≤ w3.heap.size := hb3.size
        have hB3 : Below W.heap.size W w3 := (hB2.trans (hVB.mono hz2)).trans ((Below.refl V.heap.size V).drew.trans hb3 |>.mono (by omega))
        have hb3V : Below (w2.alloc (.cells (madeCells #[Value.bool false] D.mods.length) 4)).heap.size (w2.alloc (.cells (madeCells #[Value.bool false] D.mods.length) 4)) w3 := by rw [← HVV.out]; exact (Below.refl V.heap.size V).drew.trans hb3
        have hBU : Below W.heap.size W (w3.alloc (.cells #[.slice a1 D.roots.length k1, .slice a2 D.mods.length k2, .slice a3 D.faults.length k3, .slice ea (edgesOf D).length ec, .slice (some ⟨w2.heap.size, 0, none⟩) D.mods.length D.mods.length, .slice none 0 0] 72)) := hB3.alloc (by omega) _
        have hVm : Vm W.heap.size (w3.heap.size) (w3.alloc (.cells #[.slice a1 D.roots.length k1, .slice a2 D.mods.length k2, .slice a3 D.faults.length k3, .slice ea (edgesOf D).length ec, .slice (some ⟨w2.heap.size, 0, none⟩) D.mods.length D.mods.length, .slice none 0 0] 72)) (edgesOf D) D.mods (.slice a1 D.roots.length k1) (.slice a2 D.mods.length k2) (.slice a3 D.faults.length k3) (.slice ea (edgesOf D).length ec) (.slice (some ⟨w2.heap.size, 0, none⟩) D.mods.length D.mods.length) (.slice none 0 0) (List.replicate D.mods.length false, []) :=
          ⟨new_blk _ _, by omega, (own_below (own_made w2 W.heap.size D.mods.length hz2 (by unfold maxLen; omega)) hb3V (Nat.le_refl _)).alloc _, World.ownsRow_nil _ _ _ _, (own_mono re3 (by omega)).alloc _⟩
        have hvis := HVI.out W.heap.size (w3.heap.size) _ _ _ _ _ _ _ k _ hVm (HNM.out.below hBU) (vinv_start _) (by omega) (by rw [unmet_rep]; omega)
        go_wp2_with fail
        refine hvis.mono ?_
        rintro e w4 ⟨rfl, vo', hV4, hB4⟩
        obtain ⟨q1, q3, q4, q5, qf⟩ := hV4.cells
        have HV4 : Hid (Vm W.heap.size (w3.heap.size) w4 (edgesOf D) D.mods (.slice a1 D.roots.length k1) (.slice a2 D.mods.length k2) (.slice a3 D.faults.length k3) (.slice ea (edgesOf D).length ec) (.slice (some ⟨w2.heap.size, 0, none⟩) D.mods.length D.mods.length) vo' (vis (edgesOf D) (D.mods.length + 1) k (List.replicate D.mods.length false, []))) := hV4
        clear hV4 q1 q3 q4
        obtain ⟨ov, oc, rfl, _, _⟩ := row_form HV4.out.out
        go_wp2
        go_ret
        refine ⟨_, rfl, ?_, hWB.trans ((hBU.trans hB4).mono hWB.size)⟩
        have hr := HV4.out.out
        rw [← HR.out] at hr ⊢
        rw [List.map_map, List.length_map]
        exact own_mono hr hWB.size
  · have hdec : decide ((wok D).1 = 0) = false := by simpa using hgood
    rw [hdec] at hok
    have hE : orderOf D n.data.toList = [] := by unfold orderOf orderK; rw [if_neg hgood]; rfl
    rw [hE]
    clear hdec hgood hE
    go_enter Tryz.func15, Tryz.ntmps15
    go_wp2_with fail
    rw [← HW.out]
    refine hok.mono ?_
    rintro e w1 ⟨rfl, hb1⟩
    go_wp2
    go_ret
    exact ⟨_, rfl, World.ownsRow_nil _ _ _ _, hWB.trans (hb1.mono hWB.size)⟩
end Go.Proofs.YtimgafblpmjajabGreat
