
import Derived.Test.YtimgafblpmjajabGreatWmk

namespace Go.Proofs.YtimgafblpmjajabGreat

open Go.RowKit

/-- Only what lies from one block to another is turned. -/
structure Btw (lo hi : Nat) (w w' : World) : Prop where
  os : w'.os = w.os
  tape : w'.tape = w.tape
  output : w'.output = w.output
  size : w.heap.size ≤ w'.heap.size
  block : ∀ b, b < w.heap.size → b < lo ∨ hi ≤ b → w'.heap[b]? = w.heap[b]?
theorem Btw.refl (lo hi : Nat) (w : World) : Btw lo hi w w := ⟨rfl, rfl, rfl, Nat.le_refl _, fun _ _ _ => rfl⟩
theorem Btw.trans {lo hi : Nat} {w w1 w2 : World} (h : Btw lo hi w w1) (k : Btw lo hi w1 w2) : Btw lo hi w w2 :=
  ⟨k.os.trans h.os, k.tape.trans h.tape, k.output.trans h.output, Nat.le_trans h.size k.size, fun b hb hn => (k.block b (Nat.lt_of_lt_of_le hb h.size) hn).trans (h.block b hb hn)⟩
theorem Btw.of_below {lo hi : Nat} {w w1 : World} (h : Below w.heap.size w w1) : Btw lo hi w w1 := ⟨h.os, h.tape, h.output, h.size, fun b hb _ => h.block b hb⟩
theorem Btw.of_grown {lo hi : Nat} {w w1 : World} {row : Option Nat} (h : w.grownBy w1 row) (hr : ∀ b, row = some b → lo ≤ b ∧ b < hi) : Btw lo hi w w1 :=
  ⟨h.os, h.tape, h.output, h.size, fun b hb hn => h.block b hb (fun e => by have := hr b e.symm; omega)⟩
theorem Btw.below {lo hi : Nat} {w w1 : World} (h : Btw lo hi w w1) (hlo : lo ≤ w.heap.size) : Below lo w w1 :=
  ⟨h.os, h.tape, h.output, h.size, fun b hb => h.block b (by omega) (.inl hb)⟩
theorem Btw.own {lo hi base n size : Nat} {w w1 : World} {e : TypeId} {v : Value} {xs : List Value} (h : Btw lo hi w w1) (ho : w.ownsRow base e size v n xs) (hb : hi ≤ base) : w1.ownsRow base e size v n xs :=
  own_block ho (fun b hv => h.block b (ho.lt b hv).2 (.inr (Nat.le_trans hb (ho.lt b hv).1)))
theorem Btw.own_old {lo hi base n size : Nat} {w w1 : World} {e : TypeId} {v : Value} {xs : List Value} (h : Btw lo hi w w1) (ho : w.ownsRow base e size v n xs) (hb : ∀ b, v.ownBlock = some b → b < lo) : w1.ownsRow base e size v n xs :=
  own_block ho (fun b hv => h.block b (ho.lt b hv).2 (.inl (hb b hv)))

theorem own_twin {w w' : World} {lo lo' : Nat} {e : TypeId} {size n n' : Nat} {v v' : Value} {xs ys xs' : List Value} (h : w.ownsRow lo e size v n xs) (h1 : w'.ownsRow lo e size v n ys) (h' : w.ownsRow lo' e size v' n' xs') (hg : w.grownBy w' v.ownBlock) : ∃ zs, w'.ownsRow lo' e size v' n' zs := by
  obtain ⟨k1, h2 | ⟨g, cap, cur, rfl, hlo, hh, hc, hm, hs, ht⟩⟩ := h'
  · exact ⟨xs', k1, .inl h2⟩
  · by_cases hv : v.ownBlock = some g
    · obtain ⟨j1, j2 | ⟨ga, capa, cura, rfl, _, hha, _, _, hsa, _⟩⟩ := h
      · rw [j2.1] at hv; cases hv
      · simp [Value.ownBlock] at hv
        subst hv
        obtain ⟨i1, i2 | ⟨gb, capb, curb, hvb, _, hhb, _, _, hsb, _⟩⟩ := h1
        · cases i2.1
        · cases hvb
          rw [hh] at hha
          have hcc : cur = cura := by simpa using hha
          subst hcc
          refine ⟨curb.toList.take (n' * size), ?_, .inr ⟨ga, cap, curb, rfl, hlo, hhb, hc, hm, by omega, rfl⟩⟩
          rw [List.length_take, Array.length_toList, hsb, ← hsa, hs]
          exact Nat.min_eq_left (Nat.mul_le_mul_right _ hc)
    · exact ⟨xs', k1, .inr ⟨g, cap, cur, rfl, hlo, by rw [hg.block g (Array.getElem?_eq_some_iff.1 hh).1 (fun e => hv (by rw [e]))]; exact hh, hc, hm, hs, ht⟩⟩

theorem rows_apart' {w : World} {b1 b2 : Nat} {e1 e2 : TypeId} {s1 s2 n1 n2 : Nat} {v1 v2 : Value} {x1 x2 : List Value} (he : e1 ≠ e2) (h1 : w.ownsRow b1 e1 s1 v1 n1 x1) (h2 : w.ownsRow b2 e2 s2 v2 n2 x2) : ∀ b, v2.ownBlock = some b → v1.ownBlock ≠ some b := by
  intro b hb hb1
  obtain ⟨_, j2 | ⟨g, cap, cur, rfl, _, hg, _⟩⟩ := h2
  · rw [j2.1] at hb; cases hb
  · obtain ⟨_, i2 | ⟨g', cap', cur', rfl, _, hg', _⟩⟩ := h1
    · rw [i2.1] at hb1; cases hb1
    · simp [Value.ownBlock] at hb hb1
      subst hb hb1
      rw [hg] at hg'
      simp at hg'
      exact he hg'.2.symm

/-- Blocks of other types than a module's and a line's stand. -/
def Kt (w w' : World) : Prop := ∀ (b : Nat) (cs : Array Value) (t : TypeId) (fr : Nat × Nat), w.heap[b]? = some (.cells cs t fr) → t ≠ 49 → t ≠ 51 → w'.heap[b]? = w.heap[b]?
theorem Kt.refl (w : World) : Kt w w := fun _ _ _ _ _ _ _ => rfl
theorem Kt.trans {w w1 w2 : World} (h : Kt w w1) (k : Kt w1 w2) : Kt w w2 := fun b cs t fr hb h1 h2 => (k b cs t fr ((h b cs t fr hb h1 h2).trans hb) h1 h2).trans (h b cs t fr hb h1 h2)
theorem Kt.of_below {w w1 : World} (h : Below w.heap.size w w1) : Kt w w1 := fun b _ _ _ hb _ _ => h.block b (Array.getElem?_eq_some_iff.1 hb).1
theorem Kt.of_grown {w w1 : World} {lo : Nat} {e : TypeId} {size n : Nat} {v : Value} {xs : List Value} (h : w.grownBy w1 v.ownBlock) (hr : w.ownsRow lo e size v n xs) (he : e = 49 ∨ e = 51) : Kt w w1 := fun b cs t fr hb h1 h2 =>
  h.block b (Array.getElem?_eq_some_iff.1 hb).1 (fun ev => by
    obtain ⟨_, j2 | ⟨g, cap, cur, rfl, _, hg, _⟩⟩ := hr
    · rw [j2.1] at ev; cases ev
    · simp [Value.ownBlock] at ev
      subst ev
      rw [hb] at hg
      have : t = e := by simp at hg; exact hg.2.1
      rcases he with he | he
      · exact h1 (this.trans he)
      · exact h2 (this.trans he))
theorem Kt.own {w w1 : World} {lo : Nat} {e : TypeId} {size n : Nat} {v : Value} {xs : List Value} (h : Kt w w1) (hr : w.ownsRow lo e size v n xs) (h1 : e ≠ 49) (h2 : e ≠ 51) : w1.ownsRow lo e size v n xs := by
  obtain ⟨k, j2 | ⟨g, cap, cur, hv, hlo, hg, r⟩⟩ := hr
  · exact ⟨k, .inl j2⟩
  · exact ⟨k, .inr ⟨g, cap, cur, hv, hlo, (h g _ _ _ hg h1 h2).trans hg, r⟩⟩
theorem Mrow.grown {lo b : Nat} {w w' : World} {v u : Value} {M : List Md} {X : List Value} {e : TypeId} {size n : Nat} {xs : List Value} (h : Mrow lo w v M X) (hr : w.ownsRow b e size u n xs) (h1 : e ≠ 49) (h2 : e ≠ 51) (hg : w.grownBy w' u.ownBlock) : Mrow lo w' v M X :=
  ⟨own_block h.1 (fun b hb => hg.block b (h.1.lt b hb).2 (rows_apart' h1 hr h.1 b hb).symm), fun j hj => by
    obtain ⟨ls, k1, k2, k3⟩ := h.2 j hj
    exact ⟨ls, k1, k2, own_block k3 (fun b hb => hg.block b (k3.lt b hb).2 (rows_apart' h2 hr k3 b hb).symm)⟩⟩

def lineN (M : List Md) : Nat := (M.map (fun m => m.lines.length)).sum
theorem lineN_take (M : List Md) (j : Nat) (hj : j < M.length) : lineN (M.take (j + 1)) = lineN (M.take j) + M[j].lines.length := by
  unfold lineN; rw [List.take_succ_eq_append_getElem hj, List.map_append, List.sum_append]; simp
theorem lineN_le (M : List Md) : M.length + lineN M ≤ mdsT M := by
  unfold lineN mdsT
  have : ∀ L : List Md, (L.map (fun m => m.lines.length)).sum ≤ (L.map Md.t).sum := fun L => by
    induction L with
    | nil => simp
    | cons x r ih => simp only [List.map_cons, List.sum_cons]; have : x.lines.length ≤ x.t := by unfold Md.t lnsT; omega
                     omega
  have := this M; omega
theorem lineN_mono (M : List Md) (j : Nat) : lineN (M.take j) ≤ lineN M := by
  have h : lineN M = lineN (M.take j) + lineN (M.drop j) := by unfold lineN; rw [← List.sum_append, ← List.map_append, List.take_append_drop]
  omega

set_option maxHeartbeats 4000000 in
set_option maxRecDepth 100000 in
theorem markM_any (lo hi : Nat) (v : Value) (M : List Md) (X : List Value) (K : Nat) (w : World) (h : Mrow lo w v M X) (hv : ∀ b, v.ownBlock = some b → b < hi) (hl : ∀ j ls b, X[j * 2 + 1]? = some ls → ls.ownBlock = some b → b < hi) (hM : mdsT M ≤ 1048576) (hK : 0 < K) (hK2 : K ≤ 8388608) :
    Calls Tryz.prog 34 #[v, .int .i64 K] w fun e w' => e = .returned (.int .i64 ((K + M.length + 4 * lineN M : Nat) : Int)) ∧ Btw lo hi w w' ∧ Kt w w' := by
  obtain ⟨hrow, hlns⟩ := h
  have hML := lineN_le M
  obtain ⟨a, cap, rfl, hcap, ha⟩ := row_form hrow
  have hXl := hrow.1
  have HL : Hid (∀ j (hj : j < M.length), ∃ ls xs, X[j * 2 + 1]? = some ls ∧ w.ownsRow lo 51 4 ls M[j].lines.length xs) := fun j hj => by obtain ⟨ls, _, h2, h3⟩ := hlns j hj; exact ⟨ls, _, h2, h3⟩
  have HHL : Hid (∀ j ls b, X[j * 2 + 1]? = some ls → ls.ownBlock = some b → b < hi) := hl
  have HMO : Hid (∀ j, lineN (M.take j) ≤ lineN M) := lineN_mono M
  have hvlo : ∀ b, (Value.slice a M.length cap).ownBlock = some b → lo ≤ b ∧ b < hi := fun b hb => ⟨(hrow.lt b hb).1, hv b hb⟩
  have HVL : Hid (∀ b, (Value.slice a M.length cap).ownBlock = some b → lo ≤ b ∧ b < hi) := hvlo
  clear hlns hl hv hvlo
  go_enter Tryz.func34, Tryz.ntmps34
  go_wp2
  go_loopw [1, 5] (fun kv i wr => ∃ (j : Nat) (Y : List Value), j ≤ M.length ∧ i = .int .i64 j ∧ kv = .int .i64 ((K + j + 4 * lineN (M.take j) : Nat) : Int) ∧ wr.ownsRow lo 49 2 (.slice a M.length cap) M.length Y ∧ (∀ j, Y[j * 2 + 1]? = X[j * 2 + 1]?) ∧ (∀ j (hj : j < M.length), ∃ ls xs, X[j * 2 + 1]? = some ls ∧ wr.ownsRow lo 51 4 ls M[j].lines.length xs) ∧ Btw lo hi w wr ∧ Kt w wr) (fun _ i _ => M.length - (intOf i).toNat)
  case atStart => exact ⟨0, X, Nat.zero_le _, rfl, rfl, hrow, fun _ => rfl, HL.out, Btw.refl _ _ _, Kt.refl _⟩
  case round =>
    obtain ⟨j, Y, hj, rfl, rfl, hown, hY, hls, hB, hKt⟩ := hrel
    by_cases hlt : j < M.length
    · obtain ⟨g, rfl⟩ := ha (by omega)
      obtain ⟨ls, lx, hlx, hlo⟩ := hls j hlt
      obtain ⟨la, lcap, rfl, hlcap, _⟩ := row_form hlo
      obtain ⟨N, hN⟩ : ∃ N, N = M[j].lines.length := ⟨_, rfl⟩
      have hst := lineN_take M j hlt
      have hmo1 := HMO.out (j + 1)
      rw [← hN] at hlo hlx hst
      obtain ⟨kk, hkk⟩ : ∃ kk, kk = K + j + 4 * lineN (M.take j) := ⟨_, rfl⟩
      have HKN : Hid (K + (j + 1) + 4 * lineN (M.take (j + 1)) = kk + 1 + 4 * N) := by unfold Hid; rw [hst, hkk]; omega
      have hNb : N ≤ 1048576 := by omega
      have hkb : kk ≤ 16777216 := by omega
      have hkp : 0 < kk := by omega
      rw [← hkk]
      have HY : Hid (∀ j, Y[j * 2 + 1]? = X[j * 2 + 1]?) := hY
      have HLS : Hid (∀ j (hj : j < M.length), ∃ ls xs, X[j * 2 + 1]? = some ls ∧ wr.ownsRow lo 51 4 ls M[j].lines.length xs) := hls
      have HLX : Hid (X[j * 2 + 1]? = some (.slice la N lcap)) := hlx
      have HNE : Hid (N = M[j].lines.length) := hN
      clear hkk hst hmo1 hls hlx hN
      have hmt := markText_big kk wr (by omega) (by omega)
      obtain ⟨q, hq⟩ : ∃ q, strV (mkT kk) = .string q := ⟨_, rfl⟩
      rw [hq] at hmt
      clear hq
      have hgl := (hown.lt g rfl).2
      have hyl : Y.length = M.length * 2 := hown.1
      go_wp2_with fail
      refine hmt.mono ?_
      rintro e w1 ⟨rfl, hb⟩
      have hown1 := own_below hown hb (Nat.le_refl _)
      have hlo1 := own_below hlo hb (Nat.le_refl _)
      have hf1 := hown1.frozenAt (j * 2)
      obtain ⟨u, hcu⟩ := row_cell hown1 (j * 2) (by omega)
      have hcl : w1.cell? ⟨g, j * 2 + 1, none⟩ = some (.slice la N lcap) := by rw [hown1.cellAt _ (by omega), HY.out]; exact HLX.out
      have hst := hown1.stored (j * 2) (.string q)
      have hlo2 := own_block (w' := w1.setCell ⟨g, j * 2, none⟩ (.string q)) hlo1 (fun b hb' => Below.heap_setCell _ _ _ _ (fun e => rows_apart' (by decide) hown1 hlo1 b hb' (by simp [Value.ownBlock, e])))
      have hml := markL_any lo (.slice la N lcap) N lx (kk + 1) (w1.setCell ⟨g, j * 2, none⟩ (.string q)) hlo2 hNb (by omega) (by omega)
      push_cast at hml
      have hcl2 : (w1.setCell ⟨g, j * 2, none⟩ (.string q)).cell? ⟨g, j * 2 + 1, none⟩ = some (.slice la N lcap) := set_far hcl (.inr (by omega))
      clear hown hlo
      go_wp2_with fail
      refine hml.mono ?_
      rintro e w2 ⟨rfl, ⟨ys, hlo3⟩, hg3⟩
      have hown2 := own_block (w' := w2) hst.1 (fun b hb' => hg3.block b (hst.1.lt b hb').2 (rows_apart' (by decide) hlo2 hst.1 b hb').symm)
      have hB2 : Btw lo hi w w2 := ((hB.trans (Btw.of_below hb)).trans (Btw.of_grown hst.2 HVL.out)).trans (Btw.of_grown hg3 (fun b hb' => ⟨(hlo2.lt b hb').1, HHL.out j _ b HLX.out hb'⟩))
      have hKt2 : Kt w w2 := ((hKt.trans (Kt.of_below hb)).trans (Kt.of_grown hst.2 hown1 (.inl rfl))).trans (Kt.of_grown hg3 hlo2 (.inr rfl))
      go_wp2
      go_roundw
      case rel =>
        refine ⟨j + 1, _, by omega, by go_num, by rw [HKN.out]; go_num, hown2, fun i => ?_, fun i hi' => ?_, hB2, hKt2⟩
        · rw [List.getElem?_set_ne (by omega)]; exact HY.out i
        · obtain ⟨li, xi, h1, h2⟩ := HLS.out i hi'
          have k1 := own_below h2 hb (Nat.le_refl _)
          have k2 := own_block (w' := w1.setCell ⟨g, j * 2, none⟩ (.string q)) k1 (fun b hb' => Below.heap_setCell _ _ _ _ (fun e => rows_apart' (by decide) hown1 k1 b hb' (by simp [Value.ownBlock, e])))
          obtain ⟨zs, k3⟩ := own_twin hlo2 hlo3 k2 hg3
          exact ⟨li, zs, h1, k3⟩
      case measure => simp [intOf]; omega
    · have hjn : j = M.length := by omega
      subst hjn
      have HE : Hid (M.take M.length = M) := List.take_length
      rw [HE.out]
      go_wp2
      go_ret
      exact ⟨rfl, hB, hKt⟩

set_option maxHeartbeats 4000000 in
set_option maxRecDepth 100000 in
theorem markWorld_any (lo hi : Nat) (v : Value) (D : Wd) (w0 w : World) (h0 : Wdo lo w0 v D) (hhi : w0.heap.size ≤ hi) (hhw : hi ≤ w.heap.size) (hb : Below w0.heap.size w0 w) (hD : D.t ≤ 1048576) :
    Calls Tryz.prog 12 #[v, .int .i64 1] w fun e w' => ∃ k : Nat, e = .returned (.int .i64 (k : Int)) ∧ Btw lo hi w w' := by
  obtain ⟨r, m, f, X, rfl, h1, h2, h3⟩ := h0
  have r1 := own_below h1 hb (Nat.le_refl _)
  have r2 := h2.below hb (Nat.le_refl _)
  have r3 := own_below h3 hb (Nat.le_refl _)
  have e1 : ∀ b, r.ownBlock = some b → lo ≤ b ∧ b < hi := fun b hb' => by have := h1.lt b hb'; omega
  have e3 : ∀ b, f.ownBlock = some b → lo ≤ b ∧ b < hi := fun b hb' => by have := h3.lt b hb'; omega
  have e2 : ∀ b, m.ownBlock = some b → b < hi := fun b hb' => by have := h2.1.lt b hb'; omega
  have e4 : ∀ j ls b, X[j * 2 + 1]? = some ls → ls.ownBlock = some b → b < hi := fun j ls b hx hb' => by
    have hj : j < D.mods.length := by
      have hl := h2.1.1
      rcases Nat.lt_or_ge j D.mods.length with h | h
      · exact h
      · rw [List.getElem?_eq_none (by omega)] at hx; cases hx
    obtain ⟨ls', _, h5, h6⟩ := h2.2 j hj
    rw [hx] at h5
    cases h5
    have := h6.lt b hb'; omega
  have hts : Pl.total D.roots + mdsT D.mods + D.faults.length ≤ 1048576 := hD
  have hrl : D.roots.length ≤ 1048576 := by have : D.roots.length ≤ Pl.total D.roots := by unfold Pl.total; omega
                                            omega
  have hmN := lineN_le D.mods
  obtain ⟨a1, k1, rfl, _, _⟩ := row_form r1
  obtain ⟨a2, k2, rfl, _, _⟩ := row_form r2.1
  obtain ⟨a3, k3, rfl, _, _⟩ := row_form r3
  obtain ⟨W, hW⟩ : ∃ W, W = w.alloc (.cells #[.slice a1 D.roots.length k1, .slice a2 D.mods.length k2, .slice a3 D.faults.length k3] 32) := ⟨_, rfl⟩
  have hWB : Below w.heap.size w W := by rw [hW]; exact (Below.refl _ _).alloc (Nat.le_refl _) _
  have c1 : W.cell? ⟨w.heap.size, 1, none⟩ = some (.slice a2 D.mods.length k2) := by rw [hW]; simp [go_sem]
  have c2 : W.cell? ⟨w.heap.size, 2, none⟩ = some (.slice a3 D.faults.length k3) := by rw [hW]; simp [go_sem]
  have hWs : W.heap.size = w.heap.size + 1 := by rw [hW]; simp
  have hm1 := markS_any lo _ _ _ 1 W (own_below r1 hWB (Nat.le_refl _)) hrl (by omega) (by omega)
  have r2' := r2.below hWB (Nat.le_refl _)
  have r3' := own_below r3 hWB (Nat.le_refl _)
  have HW : Hid (W = w.alloc (.cells #[.slice a1 D.roots.length k1, .slice a2 D.mods.length k2, .slice a3 D.faults.length k3] 32)) := hW
  clear hW r2 r3 h1 h2 h3
  go_enter Tryz.func12, Tryz.ntmps12
  go_wp2_with fail
  rw [← HW.out]
  refine hm1.mono ?_
  rintro e w1 ⟨rfl, _, hg1⟩
  have r1' := own_below r1 hWB (Nat.le_refl _)
  have b1 : Btw lo hi W w1 := Btw.of_grown hg1 e1
  have hblk : w1.heap[w.heap.size]? = W.heap[w.heap.size]? := b1.block _ (by omega) (.inr hhw)
  have d1 : w1.cell? ⟨w.heap.size, 1, none⟩ = some (.slice a2 D.mods.length k2) := (World.cell?_of_block hblk).trans c1
  have d2 : w1.cell? ⟨w.heap.size, 2, none⟩ = some (.slice a3 D.faults.length k3) := (World.cell?_of_block hblk).trans c2
  have m2 := markM_any lo hi _ D.mods X (1 + D.roots.length) w1 (r2'.grown r1' (by decide) (by decide) hg1) e2 e4 (by omega) (by omega) (by omega)
  have r3'' := own_block (w' := w1) r3' (fun b hb' => hg1.block b (r3'.lt b hb').2 (rows_apart' (by decide) r1' r3' b hb').symm)
  clear c1 c2 hm1 r2' r3' hg1 hblk
  push_cast at m2
  go_wp2_with fail
  refine m2.mono ?_
  rintro e w2 ⟨rfl, b2, kt2⟩
  have hblk : w2.heap[w.heap.size]? = w1.heap[w.heap.size]? := b2.block _ (by have := b1.size; omega) (.inr hhw)
  have f2 : w2.cell? ⟨w.heap.size, 2, none⟩ = some (.slice a3 D.faults.length k3) := (World.cell?_of_block hblk).trans d2
  have m3 := markI_any lo _ D.faults.length _ (1 + D.roots.length + D.mods.length + 4 * lineN D.mods) w2 (kt2.own r3'' (by decide) (by decide)) (by omega) (by omega)
  clear d1 d2 m2 hblk
  push_cast at m3
  go_wp2_with fail
  refine m3.mono ?_
  rintro e w3 ⟨rfl, hg3⟩
  have b3 : Btw lo hi w2 w3 := Btw.of_grown hg3 e3
  go_wp2
  go_ret
  exact ⟨1 + D.roots.length + D.mods.length + 4 * lineN D.mods + D.faults.length, ret_int (by omega), (Btw.of_below hWB).trans (b1.trans (b2.trans b3))⟩
end Go.Proofs.YtimgafblpmjajabGreat
