import Derived.Test.YtimgafblpmjajabGreatKa4
namespace Go.Proofs.YtimgafblpmjajabGreat

open Go.RowKit

/-- Only what lies from one block to another is turned. -/
structure Btw (lo hi : Nat) (w w' : World) : Prop where
  os : w'.os = w.os
  tape : w'.tape = w.tape
  output : w'.output = w.output
  size : w.heap.size ≤ w'.heap.size
  block : ∀ b, b < w.heap.size → b < lo ∨ hi ≤ b → w'.heap[b]? = w.heap[b]?
theorem Btw.refl (lo hi : Nat) (w : World) : Btw lo hi w w := ⟨rfl, rfl, rfl, Nat.le_refl _, fun _ _ _ => rfl⟩
theorem Btw.trans {lo hi : Nat} {w w1 w2 : World} (h : Btw lo hi w w1) (k : Btw lo hi w1 w2) : Btw lo hi w w2 :=
  ⟨k.os.trans h.os, k.tape.trans h.tape, k.output.trans h.output, Nat.le_trans h.size k.size, fun b hb hn => (k.block b (Nat.lt_of_lt_of_le hb h.size) hn).trans (h.block b hb hn)⟩
theorem Btw.of_below {lo hi : Nat} {w w1 : World} (h : Below w.heap.size w w1) : Btw lo hi w w1 := ⟨h.os, h.tape, h.output, h.size, fun b hb _ => h.block b hb⟩
theorem Btw.of_grown {lo hi : Nat} {w w1 : World} {row : Option Nat} (h : w.grownBy w1 row) (hr : ∀ b, row = some b → lo ≤ b ∧ b < hi) : Btw lo hi w w1 :=
  ⟨h.os, h.tape, h.output, h.size, fun b hb hn => h.block b hb (fun e => by have := hr b e.symm; omega)⟩
theorem Btw.below {lo hi : Nat} {w w1 : World} (h : Btw lo hi w w1) (hlo : lo ≤ w.heap.size) : Below lo w w1 :=
  ⟨h.os, h.tape, h.output, h.size, fun b hb => h.block b (by omega) (.inl hb)⟩
theorem Btw.own {lo hi base n size : Nat} {w w1 : World} {e : TypeId} {v : Value} {xs : List Value} (h : Btw lo hi w w1) (ho : w.ownsRow base e size v n xs) (hb : hi ≤ base) : w1.ownsRow base e size v n xs :=
  own_block ho (fun b hv => h.block b (ho.lt b hv).2 (.inr (Nat.le_trans hb (ho.lt b hv).1)))
theorem Btw.own_old {lo hi base n size : Nat} {w w1 : World} {e : TypeId} {v : Value} {xs : List Value} (h : Btw lo hi w w1) (ho : w.ownsRow base e size v n xs) (hb : ∀ b, v.ownBlock = some b → b < lo) : w1.ownsRow base e size v n xs :=
  own_block ho (fun b hv => h.block b (ho.lt b hv).2 (.inl (hb b hv)))

theorem own_twin {w w' : World} {lo lo' : Nat} {e : TypeId} {size n n' : Nat} {v v' : Value} {xs ys xs' : List Value} (h : w.ownsRow lo e size v n xs) (h1 : w'.ownsRow lo e size v n ys) (h' : w.ownsRow lo' e size v' n' xs') (hg : w.grownBy w' v.ownBlock) : ∃ zs, w'.ownsRow lo' e size v' n' zs := by
  obtain ⟨k1, h2 | ⟨g, cap, cur, rfl, hlo, hh, hc, hm, hs, ht⟩⟩ := h'
  · exact ⟨xs', k1, .inl h2⟩
  · by_cases hv : v.ownBlock = some g
    · obtain ⟨j1, j2 | ⟨ga, capa, cura, rfl, _, hha, _, _, hsa, _⟩⟩ := h
      · rw [j2.1] at hv; cases hv
      · simp [Value.ownBlock] at hv
        subst hv
        obtain ⟨i1, i2 | ⟨gb, capb, curb, hvb, _, hhb, _, _, hsb, _⟩⟩ := h1
        · cases i2.1
        · cases hvb
          rw [hh] at hha
          have hcc : cur = cura := by simpa using hha
          subst hcc
          refine ⟨curb.toList.take (n' * size), ?_, .inr ⟨ga, cap, curb, rfl, hlo, hhb, hc, hm, by omega, rfl⟩⟩
          rw [List.length_take, Array.length_toList, hsb, ← hsa, hs]
          exact Nat.min_eq_left (Nat.mul_le_mul_right _ hc)
    · exact ⟨xs', k1, .inr ⟨g, cap, cur, rfl, hlo, by rw [hg.block g (Array.getElem?_eq_some_iff.1 hh).1 (fun e => hv (by rw [e]))]; exact hh, hc, hm, hs, ht⟩⟩

theorem rows_apart' {w : World} {b1 b2 : Nat} {e1 e2 : TypeId} {s1 s2 n1 n2 : Nat} {v1 v2 : Value} {x1 x2 : List Value} (he : e1 ≠ e2) (h1 : w.ownsRow b1 e1 s1 v1 n1 x1) (h2 : w.ownsRow b2 e2 s2 v2 n2 x2) : ∀ b, v2.ownBlock = some b → v1.ownBlock ≠ some b := by
  intro b hb hb1
  obtain ⟨_, j2 | ⟨g, cap, cur, rfl, _, hg, _⟩⟩ := h2
  · rw [j2.1] at hb; cases hb
  · obtain ⟨_, i2 | ⟨g', cap', cur', rfl, _, hg', _⟩⟩ := h1
    · rw [i2.1] at hb1; cases hb1
    · simp [Value.ownBlock] at hb hb1
      subst hb hb1
      rw [hg] at hg'
      simp at hg'
      exact he hg'.2.symm

/-- Blocks of other types than a module's and a line's stand. -/
def Kt (w w' : World) : Prop := ∀ (b : Nat) (cs : Array Value) (t : TypeId) (fr : Nat × Nat), w.heap[b]? = some (.cells cs t fr) → t ≠ 49 → t ≠ 51 → w'.heap[b]? = w.heap[b]?
theorem Kt.refl (w : World) : Kt w w := fun _ _ _ _ _ _ _ => rfl
theorem Kt.trans {w w1 w2 : World} (h : Kt w w1) (k : Kt w1 w2) : Kt w w2 := fun b cs t fr hb h1 h2 => (k b cs t fr ((h b cs t fr hb h1 h2).trans hb) h1 h2).trans (h b cs t fr hb h1 h2)
theorem Kt.of_below {w w1 : World} (h : Below w.heap.size w w1) : Kt w w1 := fun b _ _ _ hb _ _ => h.block b (Array.getElem?_eq_some_iff.1 hb).1
theorem Kt.of_grown {w w1 : World} {lo : Nat} {e : TypeId} {size n : Nat} {v : Value} {xs : List Value} (h : w.grownBy w1 v.ownBlock) (hr : w.ownsRow lo e size v n xs) (he : e = 49 ∨ e = 51) : Kt w w1 := fun b cs t fr hb h1 h2 =>
  h.block b (Array.getElem?_eq_some_iff.1 hb).1 (fun ev => by
    obtain ⟨_, j2 | ⟨g, cap, cur, rfl, _, hg, _⟩⟩ := hr
    · rw [j2.1] at ev; cases ev
    · simp [Value.ownBlock] at ev
      subst ev
      rw [hb] at hg
      have : t = e := by simp at hg; exact hg.2.1
      rcases he with he | he
      · exact h1 (this.trans he)
      · exact h2 (this.trans he))
theorem Kt.own {w w1 : World} {lo : Nat} {e : TypeId} {size n : Nat} {v : Value} {xs : List Value} (h : Kt w w1) (hr : w.ownsRow lo e size v n xs) (h1 : e ≠ 49) (h2 : e ≠ 51) : w1.ownsRow lo e size v n xs := by
  obtain ⟨k, j2 | ⟨g, cap, cur, hv, hlo, hg, r⟩⟩ := hr
  · exact ⟨k, .inl j2⟩
  · exact ⟨k, .inr ⟨g, cap, cur, hv, hlo, (h g _ _ _ hg h1 h2).trans hg, r⟩⟩
theorem Mrow.grown {lo b : Nat} {w w' : World} {v u : Value} {M : List Md} {X : List Value} {e : TypeId} {size n : Nat} {xs : List Value} (h : Mrow lo w v M X) (hr : w.ownsRow b e size u n xs) (h1 : e ≠ 49) (h2 : e ≠ 51) (hg : w.grownBy w' u.ownBlock) : Mrow lo w' v M X :=
  ⟨own_block h.1 (fun b hb => hg.block b (h.1.lt b hb).2 (rows_apart' h1 hr h.1 b hb).symm), fun j hj => by
    obtain ⟨ls, k1, k2, k3⟩ := h.2 j hj
    exact ⟨ls, k1, k2, own_block k3 (fun b hb => hg.block b (k3.lt b hb).2 (rows_apart' h2 hr k3 b hb).symm)⟩⟩

def lineN (M : List Md) : Nat := (M.map (fun m => m.lines.length)).sum
theorem lineN_take (M : List Md) (j : Nat) (hj : j < M.length) : lineN (M.take (j + 1)) = lineN (M.take j) + M[j].lines.length := by
  unfold lineN; rw [List.take_succ_eq_append_getElem hj, List.map_append, List.sum_append]; simp
theorem lineN_le (M : List Md) : M.length + lineN M ≤ mdsT M := by
  unfold lineN mdsT
  have : ∀ L : List Md, (L.map (fun m => m.lines.length)).sum ≤ (L.map Md.t).sum := fun L => by
    induction L with
    | nil => simp
    | cons x r ih => simp only [List.map_cons, List.sum_cons]; have : x.lines.length ≤ x.t := by unfold Md.t lnsT; omega
                     omega
  have := this M; omega
theorem lineN_mono (M : List Md) (j : Nat) : lineN (M.take j) ≤ lineN M := by
  have h : lineN M = lineN (M.take j) + lineN (M.drop j) := by unfold lineN; rw [← List.sum_append, ← List.map_append, List.take_append_drop]
  omega

set_option maxHeartbeats 4000000 in
set_option maxRecDepth 100000 in
theorem markM_any (lo hi : Nat) (v : Value) (M : List Md) (X : List Value) (K : Nat) (w : World) (h : Mrow lo w v M X) (hv : ∀ b, v.ownBlock = some b → b < hi) (hl : ∀ j ls b, X[j * 2 + 1]? = some ls → ls.ownBlock = some b → b < hi) (hM : mdsT M ≤ 1048576) (hK : 0 < K) (hK2 : K ≤ 8388608) :
    Calls Tryz.prog 34 #[v, .int .i64 K] w fun e w' => e = .returned (.int .i64 ((K + M.length + 4 * lineN M : Nat) : Int)) ∧ Btw lo hi w w' ∧ Kt w w' := by
  obtain ⟨hrow, hlns⟩ := h
  have hML := lineN_le M
  obtain ⟨a, cap, rfl, hcap, ha⟩ := row_form hrow
  have hXl := hrow.1
  have HL : Hid (∀ j (hj : j < M.length), ∃ ls xs, X[j * 2 + 1]? = some ls ∧ w.ownsRow lo 51 4 ls M[j].lines.length xs) := fun j hj => by obtain ⟨ls, _, h2, h3⟩ := hlns j hj; exact ⟨ls, _, h2, h3⟩
  have HHL : Hid (∀ j ls b, X[j * 2 + 1]? = some ls → ls.ownBlock = some b → b < hi) := hl
  have HMO : Hid (∀ j, lineN (M.take j) ≤ lineN M) := lineN_mono M
  have hvlo : ∀ b, (Value.slice a M.length cap).ownBlock = some b → lo ≤ b ∧ b < hi := fun b hb => ⟨(hrow.lt b hb).1, hv b hb⟩
  have HVL : Hid (∀ b, (Value.slice a M.length cap).ownBlock = some b → lo ≤ b ∧ b < hi) := hvlo
  clear hlns hl hv hvlo
  go_enter Tryz.func34, Tryz.ntmps34
  go_wp2
  go_loopw [1, 5] (fun kv i wr => ∃ (j : Nat) (Y : List Value), j ≤ M.length ∧ i = .int .i64 j ∧ kv = .int .i64 ((K + j + 4 * lineN (M.take j) : Nat) : Int) ∧ wr.ownsRow lo 49 2 (.slice a M.length cap) M.length Y ∧ (∀ j, Y[j * 2 + 1]? = X[j * 2 + 1]?) ∧ (∀ j (hj : j < M.length), ∃ ls xs, X[j * 2 + 1]? = some ls ∧ wr.ownsRow lo 51 4 ls M[j].lines.length xs) ∧ Btw lo hi w wr ∧ Kt w wr) (fun _ i _ => M.length - (intOf i).toNat)
  case atStart => exact ⟨0, X, Nat.zero_le _, rfl, rfl, hrow, fun _ => rfl, HL.out, Btw.refl _ _ _, Kt.refl _⟩
  case round =>
    obtain ⟨j, Y, hj, rfl, rfl, hown, hY, hls, hB, hKt⟩ := hrel
    by_cases hlt : j < M.length
    · obtain ⟨g, rfl⟩ := ha (by omega)
      obtain ⟨ls, lx, hlx, hlo⟩ := hls j hlt
      obtain ⟨la, lcap, rfl, hlcap, _⟩ := row_form hlo
      obtain ⟨N, hN⟩ : ∃ N, N = M[j].lines.length := ⟨_, rfl⟩
      have hst := lineN_take M j hlt
      have hmo1 := HMO.out (j + 1)
      rw [← hN] at hlo hlx hst
      obtain ⟨kk, hkk⟩ : ∃ kk, kk = K + j + 4 * lineN (M.take j) := ⟨_, rfl⟩
      have HKN : Hid (K + (j + 1) + 4 * lineN (M.take (j + 1)) = kk + 1 + 4 * N) := by unfold Hid; rw [hst, hkk]; omega
      have hNb : N ≤ 1048576 := by omega
      have hkb : kk ≤ 16777216 := by omega
      have hkp : 0 < kk := by omega
      rw [← hkk]
      have HY : Hid (∀ j, Y[j * 2 + 1]? = X[j * 2 + 1]?) := hY
      have HLS : Hid (∀ j (hj : j < M.length), ∃ ls xs, X[j * 2 + 1]? = some ls ∧ wr.ownsRow lo 51 4 ls M[j].lines.length xs) := hls
      have HLX : Hid (X[j * 2 + 1]? = some (.slice la N lcap)) := hlx
      have HNE : Hid (N = M[j].lines.length) := hN
      clear hkk hst hmo1 hls hlx hN
      have hmt := markText_big kk wr (by omega) (by omega)
      obtain ⟨q, hq⟩ : ∃ q, strV (mkT kk) = .string q := ⟨_, rfl⟩
      rw [hq] at hmt
      clear hq
      have hgl := (hown.lt g rfl).2
      have hyl : Y.length = M.length * 2 := hown.1
      go_wp2_with fail
      refine hmt.mono ?_
      rintro e w1 ⟨rfl, hb⟩
      have hown1 := own_below hown hb (Nat.le_refl _)
      have hlo1 := own_below hlo hb (Nat.le_refl _)
      have hf1 := hown1.frozenAt (j * 2)
      obtain ⟨u, hcu⟩ := row_cell hown1 (j * 2) (by omega)
      have hcl : w1.cell? ⟨g, j * 2 + 1, none⟩ = some (.slice la N lcap) := by rw [hown1.cellAt _ (by omega), HY.out]; exact HLX.out
      have hst := hown1.stored (j * 2) (.string q)
      have hlo2 := own_block (w' := w1.setCell ⟨g, j * 2, none⟩ (.string q)) hlo1 (fun b hb' => Below.heap_setCell _ _ _ _ (fun e => rows_apart' (by decide) hown1 hlo1 b hb' (by simp [Value.ownBlock, e])))
      have hml := markL_any lo (.slice la N lcap) N lx (kk + 1) (w1.setCell ⟨g, j * 2, none⟩ (.string q)) hlo2 hNb (by omega) (by omega)
      push_cast at hml
      have hcl2 : (w1.setCell ⟨g, j * 2, none⟩ (.string q)).cell? ⟨g, j * 2 + 1, none⟩ = some (.slice la N lcap) := set_far hcl (.inr (by omega))
      clear hown hlo
      go_wp2_with fail
      refine hml.mono ?_
      rintro e w2 ⟨rfl, ⟨ys, hlo3⟩, hg3⟩
      have hown2 := own_block (w' := w2) hst.1 (fun b hb' => hg3.block b (hst.1.lt b hb').2 (rows_apart' (by decide) hlo2 hst.1 b hb').symm)
      have hB2 : Btw lo hi w w2 := ((hB.trans (Btw.of_below hb)).trans (Btw.of_grown hst.2 HVL.out)).trans (Btw.of_grown hg3 (fun b hb' => ⟨(hlo2.lt b hb').1, HHL.out j _ b HLX.out hb'⟩))
      have hKt2 : Kt w w2 := ((hKt.trans (Kt.of_below hb)).trans (Kt.of_grown hst.2 hown1 (.inl rfl))).trans (Kt.of_grown hg3 hlo2 (.inr rfl))
      go_wp2
      go_roundw
      case rel =>
        refine ⟨j + 1, _, by omega, by go_num, by rw [HKN.out]; go_num, hown2, fun i => ?_, fun i hi' => ?_, hB2, hKt2⟩
        · rw [List.getElem?_set_ne (by omega)]; exact HY.out i
        · obtain ⟨li, xi, h1, h2⟩ := HLS.out i hi'
          have k1 := own_below h2 hb (Nat.le_refl _)
          have k2 := own_block (w' := w1.setCell ⟨g, j * 2, none⟩ (.string q)) k1 (fun b hb' => Below.heap_setCell _ _ _ _ (fun e => rows_apart' (by decide) hown1 k1 b hb' (by simp [Value.ownBlock, e])))
          obtain ⟨zs, k3⟩ := own_twin hlo2 hlo3 k2 hg3
          exact ⟨li, zs, h1, k3⟩
      case measure => simp [intOf]; omega
    · have hjn : j = M.length := by omega
      subst hjn
      have HE : Hid (M.take M.length = M) := List.take_length
      rw [HE.out]
      go_wp2
      go_ret
      exact ⟨rfl, hB, hKt⟩

set_option maxHeartbeats 4000000 in
set_option maxRecDepth 100000 in
theorem markWorld_any (lo hi : Nat) (v : Value) (D : Wd) (w0 w : World) (h0 : Wdo lo w0 v D) (hhi : w0.heap.size ≤ hi) (hhw : hi ≤ w.heap.size) (hb : Below w0.heap.size w0 w) (hD : D.t ≤ 1048576) :
    Calls Tryz.prog 12 #[v, .int .i64 1] w fun e w' => ∃ k : Nat, e = .returned (.int .i64 (k : Int)) ∧ Btw lo hi w w' := by
  obtain ⟨r, m, f, X, rfl, h1, h2, h3⟩ := h0
  have r1 := own_below h1 hb (Nat.le_refl _)
  have r2 := h2.below hb (Nat.le_refl _)
  have r3 := own_below h3 hb (Nat.le_refl _)
  have e1 : ∀ b, r.ownBlock = some b → lo ≤ b ∧ b < hi := fun b hb' => by have := h1.lt b hb'; omega
  have e3 : ∀ b, f.ownBlock = some b → lo ≤ b ∧ b < hi := fun b hb' => by have := h3.lt b hb'; omega
  have e2 : ∀ b, m.ownBlock = some b → b < hi := fun b hb' => by have := h2.1.lt b hb'; omega
  have e4 : ∀ j ls b, X[j * 2 + 1]? = some ls → ls.ownBlock = some b → b < hi := fun j ls b hx hb' => by
    have hj : j < D.mods.length := by
      have hl := h2.1.1
      rcases Nat.lt_or_ge j D.mods.length with h | h
      · exact h
      · rw [List.getElem?_eq_none (by omega)] at hx; cases hx
    obtain ⟨ls', _, h5, h6⟩ := h2.2 j hj
    rw [hx] at h5
    cases h5
    have := h6.lt b hb'; omega
  have hts : Pl.total D.roots + mdsT D.mods + D.faults.length ≤ 1048576 := hD
  have hrl : D.roots.length ≤ 1048576 := by have : D.roots.length ≤ Pl.total D.roots := by unfold Pl.total; omega
                                            omega
  have hmN := lineN_le D.mods
  obtain ⟨a1, k1, rfl, _, _⟩ := row_form r1
  obtain ⟨a2, k2, rfl, _, _⟩ := row_form r2.1
  obtain ⟨a3, k3, rfl, _, _⟩ := row_form r3
  obtain ⟨W, hW⟩ : ∃ W, W = w.alloc (.cells #[.slice a1 D.roots.length k1, .slice a2 D.mods.length k2, .slice a3 D.faults.length k3] 32) := ⟨_, rfl⟩
  have hWB : Below w.heap.size w W := by rw [hW]; exact (Below.refl _ _).alloc (Nat.le_refl _) _
  have c1 : W.cell? ⟨w.heap.size, 1, none⟩ = some (.slice a2 D.mods.length k2) := by rw [hW]; simp [go_sem]
  have c2 : W.cell? ⟨w.heap.size, 2, none⟩ = some (.slice a3 D.faults.length k3) := by rw [hW]; simp [go_sem]
  have hWs : W.heap.size = w.heap.size + 1 := by rw [hW]; simp
  have hm1 := markS_any lo _ _ _ 1 W (own_below r1 hWB (Nat.le_refl _)) hrl (by omega) (by omega)
  have r2' := r2.below hWB (Nat.le_refl _)
  have r3' := own_below r3 hWB (Nat.le_refl _)
  have HW : Hid (W = w.alloc (.cells #[.slice a1 D.roots.length k1, .slice a2 D.mods.length k2, .slice a3 D.faults.length k3] 32)) := hW
  clear hW r2 r3 h1 h2 h3
  go_enter Tryz.func12, Tryz.ntmps12
  go_wp2_with fail
  rw [← HW.out]
  refine hm1.mono ?_
  rintro e w1 ⟨rfl, _, hg1⟩
  have r1' := own_below r1 hWB (Nat.le_refl _)
  have b1 : Btw lo hi W w1 := Btw.of_grown hg1 e1
  have hblk : w1.heap[w.heap.size]? = W.heap[w.heap.size]? := b1.block _ (by omega) (.inr hhw)
  have d1 : w1.cell? ⟨w.heap.size, 1, none⟩ = some (.slice a2 D.mods.length k2) := (World.cell?_of_block hblk).trans c1
  have d2 : w1.cell? ⟨w.heap.size, 2, none⟩ = some (.slice a3 D.faults.length k3) := (World.cell?_of_block hblk).trans c2
  have m2 := markM_any lo hi _ D.mods X (1 + D.roots.length) w1 (r2'.grown r1' (by decide) (by decide) hg1) e2 e4 (by omega) (by omega) (by omega)
  have r3'' := own_block (w' := w1) r3' (fun b hb' => hg1.block b (r3'.lt b hb').2 (rows_apart' (by decide) r1' r3' b hb').symm)
  clear c1 c2 hm1 r2' r3' hg1 hblk
  push_cast at m2
  go_wp2_with fail
  refine m2.mono ?_
  rintro e w2 ⟨rfl, b2, kt2⟩
  have hblk : w2.heap[w.heap.size]? = w1.heap[w.heap.size]? := b2.block _ (by have := b1.size; omega) (.inr hhw)
  have f2 : w2.cell? ⟨w.heap.size, 2, none⟩ = some (.slice a3 D.faults.length k3) := (World.cell?_of_block hblk).trans d2
  have m3 := markI_any lo _ D.faults.length _ (1 + D.roots.length + D.mods.length + 4 * lineN D.mods) w2 (kt2.own r3'' (by decide) (by decide)) (by omega) (by omega)
  clear d1 d2 m2 hblk
  push_cast at m3
  go_wp2_with fail
  refine m3.mono ?_
  rintro e w3 ⟨rfl, hg3⟩
  have b3 : Btw lo hi w2 w3 := Btw.of_grown hg3 e3
  go_wp2
  go_ret
  exact ⟨1 + D.roots.length + D.mods.length + 4 * lineN D.mods + D.faults.length, ret_int (by omega), (Btw.of_below hWB).trans (b1.trans (b2.trans b3))⟩
end Go.Proofs.YtimgafblpmjajabGreat
namespace Go.Proofs.YtimgafblpmjajabGreat

open Go.RowKit

/-- An edge as plain data. -/
structure Eg where
  src : Int
  line : Int
  to : Int
def egV (e : Eg) : Value := .agg #[.int .i64 e.src, .int .i64 e.line, .int .i64 e.to]
def egR (e : Eg) : List Value := [.int .i64 e.src, .int .i64 e.line, .int .i64 e.to]
theorem egR_len (L : List Eg) : (L.flatMap egR).length = L.length * 3 := by
  induction L with
  | nil => rfl
  | cons x r ih => simp only [List.flatMap_cons, List.length_append, ih, egR, List.length_cons, List.length_nil]; omega
theorem egR_get : ∀ (L : List Eg) (k : Nat) (h : k < L.length), (L.flatMap egR)[k * 3]? = some (.int .i64 L[k].src) ∧ (L.flatMap egR)[k * 3 + 1]? = some (.int .i64 L[k].line) ∧ (L.flatMap egR)[k * 3 + 2]? = some (.int .i64 L[k].to)
  | [], _, h => absurd h (by simp)
  | x :: r, 0, _ => by simp [egR]
  | x :: r, k + 1, h => by
    have h' : k < r.length := by simpa using h
    obtain ⟨i0, i1, i2⟩ := egR_get r k h'
    have e : ∀ j, ((x :: r).flatMap egR)[j + 3]? = (r.flatMap egR)[j]? := fun j => by
      rw [List.flatMap_cons, List.getElem?_append_right (by simp [egR])]; simp [egR]
    have e0 : (k + 1) * 3 = k * 3 + 3 := by omega
    have e1 : (k + 1) * 3 + 1 = (k * 3 + 1) + 3 := by omega
    have e2 : (k + 1) * 3 + 2 = (k * 3 + 2) + 3 := by omega
    rw [e1, e2, e0, e, e, e]
    simp only [List.getElem_cons_succ]
    exact ⟨i0, i1, i2⟩
/-- A slice of edges that can be read. -/
def Egs (w : World) (v : Value) (L : List Eg) : Prop :=
  ∃ a cap, v = .slice a L.length cap ∧ L.length ≤ cap ∧ cap ≤ maxLen ∧ ∀ k, (hk : k < L.length) → ∃ b o, a = some ⟨b, o, none⟩ ∧ b < w.heap.size ∧
    w.cell? ⟨b, o + k * 3, none⟩ = some (.int .i64 L[k].src) ∧ w.cell? ⟨b, o + k * 3 + 1, none⟩ = some (.int .i64 L[k].line) ∧ w.cell? ⟨b, o + k * 3 + 2, none⟩ = some (.int .i64 L[k].to)
theorem Egs.below {w w' : World} {B : Nat} {v : Value} {L : List Eg} (h : Egs w v L) (hb : Below B w w') (hB : w.heap.size ≤ B) : Egs w' v L := by
  obtain ⟨a, cap, hv, hcap, hmax, hc⟩ := h
  exact ⟨a, cap, hv, hcap, hmax, fun k hk => by
    obtain ⟨b, o, ha, hlt, h0, h1, h2⟩ := hc k hk
    have hl := Nat.lt_of_lt_of_le hlt hB
    exact ⟨b, o, ha, Nat.lt_of_lt_of_le hlt hb.size, (hb.cell (p := ⟨b, o + k * 3, none⟩) hl).trans h0, (hb.cell (p := ⟨b, o + k * 3 + 1, none⟩) hl).trans h1, (hb.cell (p := ⟨b, o + k * 3 + 2, none⟩) hl).trans h2⟩⟩
theorem egs_own {w : World} {base : Nat} {v : Value} {L : List Eg} (h : w.ownsRow base 54 3 v L.length (L.flatMap egR)) : Egs w v L := by
  have hca := fun (g cap : Nat) (hv : v = .slice (some ⟨g, 0, none⟩) L.length cap) => (hv ▸ h : w.ownsRow base 54 3 (.slice (some ⟨g, 0, none⟩) L.length cap) L.length (L.flatMap egR)).cellAt
  rcases h.2 with ⟨hv, hn⟩ | ⟨g, cap, cur, hv, hg, hh, hc, hm, _⟩
  · exact ⟨none, 0, by rw [hv, hn], by omega, by unfold maxLen; omega, fun k hk => by omega⟩
  · have hca := hca g cap hv
    refine ⟨_, cap, hv, hc, hm, fun k hk => ?_⟩
    obtain ⟨i0, i1, i2⟩ := egR_get L k hk
    exact ⟨g, 0, rfl, (Array.getElem?_eq_some_iff.1 hh).1, by rw [Nat.zero_add, hca _ (by omega)]; exact i0, by rw [Nat.zero_add, hca _ (by omega)]; exact i1, by rw [Nat.zero_add, hca _ (by omega)]; exact i2⟩

set_option maxHeartbeats 1000000 in
set_option maxRecDepth 100000 in
theorem eqEdge_any (l : Eg) (w : World) :
    Calls Tryz.prog 31 #[egV l, egV l] w fun e w' => e = .returned (.bool true) ∧ Below w.heap.size w w' := by
  unfold egV
  go_enter Tryz.func31, Tryz.ntmps31
  go_wp2
  go_ret
  exact ⟨rfl, below_alloc2 _ _⟩

set_option maxHeartbeats 2000000 in
set_option maxRecDepth 100000 in
theorem eqEdgeS_any (v v' : Value) (L : List Eg) (w : World) (h : Egs w v L) (h' : Egs w v' L) (hL : L.length ≤ 1048576) :
    Calls Tryz.prog 10 #[v, v'] w fun e w' => e = .returned (.bool true) ∧ Below w.heap.size w w' := by
  obtain ⟨a, cap, rfl, hcap, hmax, hc⟩ := h
  obtain ⟨a', cap', rfl, hcap', hmax', hc'⟩ := h'
  have HC : Hid (∀ k, (hk : k < L.length) → ∃ b o, a = some ⟨b, o, none⟩ ∧ b < w.heap.size ∧
    w.cell? ⟨b, o + k * 3, none⟩ = some (.int .i64 L[k].src) ∧ w.cell? ⟨b, o + k * 3 + 1, none⟩ = some (.int .i64 L[k].line) ∧ w.cell? ⟨b, o + k * 3 + 2, none⟩ = some (.int .i64 L[k].to)) := hc
  have HC' : Hid (∀ k, (hk : k < L.length) → ∃ b o, a' = some ⟨b, o, none⟩ ∧ b < w.heap.size ∧
    w.cell? ⟨b, o + k * 3, none⟩ = some (.int .i64 L[k].src) ∧ w.cell? ⟨b, o + k * 3 + 1, none⟩ = some (.int .i64 L[k].line) ∧ w.cell? ⟨b, o + k * 3 + 2, none⟩ = some (.int .i64 L[k].to)) := hc'
  clear hc hmax hc' hmax'
  go_enter Tryz.func10, Tryz.ntmps10
  go_wp2
  go_loopw [5] (fun i wr => ∃ k : Nat, k ≤ L.length ∧ i = .int .i64 k ∧ Below w.heap.size w wr) (fun i _ => L.length - (intOf i).toNat)
  case atStart => exact ⟨0, Nat.zero_le _, rfl, Below.refl _ _⟩
  case round =>
    obtain ⟨k, hk, rfl, hB⟩ := hrel
    by_cases hlt : k < L.length
    · obtain ⟨b, o, rfl, hb, h0, h1, h2⟩ := HC.out k hlt
      obtain ⟨b', o', rfl, hb', h0', h1', h2'⟩ := HC'.out k hlt
      have c0 := (hB.cell (p := ⟨b, o + k * 3, none⟩) hb).trans h0
      have c1 := (hB.cell (p := ⟨b, o + k * 3 + 1, none⟩) hb).trans h1
      have c2 := (hB.cell (p := ⟨b, o + k * 3 + 2, none⟩) hb).trans h2
      have d0 := (hB.cell (p := ⟨b', o' + k * 3, none⟩) hb').trans h0'
      have d1 := (hB.cell (p := ⟨b', o' + k * 3 + 1, none⟩) hb').trans h1'
      have d2 := (hB.cell (p := ⟨b', o' + k * 3 + 2, none⟩) hb').trans h2'
      have HEQ : Hid (∀ W, Calls Tryz.prog 31 #[egV L[k], egV L[k]] W fun e w' => e = .returned (.bool true) ∧ Below W.heap.size W w') := eqEdge_any L[k]
      unfold egV at HEQ
      clear h0 h1 h2 h0' h1' h2'
      go_wp2
      go_region_with (go_at_call 31; refine (HEQ.out _).mono ?_; rintro e w1 ⟨rfl, hb1⟩)
      all_goals
        have hb2 : Below w.heap.size w w1 := hB.drew.trans (hb1.mono hB.size)
        go_wp2
        go_roundw
        case rel => exact ⟨k + 1, by omega, by go_num, hb2⟩
        case measure => simp [intOf]; omega
    · go_wp2
      go_ret
      exact ⟨rfl, hB⟩

/-- The marks of n edges, from 1 on. -/
def egM (j : Nat) : Eg := ⟨(1 + 3 * j : Nat), (1 + 3 * j + 1 : Nat), (1 + 3 * j + 2 : Nat)⟩
def egMs (n : Nat) : List Eg := (List.range n).map egM
theorem egMs_len (n : Nat) : (egMs n).length = n := by simp [egMs]
theorem egMs_get (n j : Nat) (h : j < (egMs n).length) : (egMs n)[j] = egM j := by simp [egMs]

set_option maxHeartbeats 2000000 in
set_option maxRecDepth 100000 in
theorem markE_any (base : Nat) (v : Value) (n : Nat) (xs : List Value) (w : World) (h : w.ownsRow base 54 3 v n xs) (hn : n ≤ 1048576) :
    Calls Tryz.prog 13 #[v, .int .i64 1] w fun e w' => e = .returned (.int .i64 ((1 + 3 * n : Nat) : Int)) ∧ w'.ownsRow base 54 3 v (egMs n).length ((egMs n).flatMap egR) ∧ w.grownBy w' v.ownBlock := by
  obtain ⟨a, cap, rfl, hcap, ha⟩ := row_form h
  go_enter Tryz.func13, Tryz.ntmps13
  go_wp2
  go_loopw [1, 5] (fun kv i wr => ∃ (j : Nat) (X : List Value), j ≤ n ∧ i = .int .i64 j ∧ kv = .int .i64 ((1 + 3 * j : Nat) : Int) ∧ wr.ownsRow base 54 3 (.slice a n cap) n X ∧ (∀ i, i < j * 3 → X[i]? = ((egMs n).flatMap egR)[i]?) ∧ w.grownBy wr (Value.slice a n cap).ownBlock) (fun _ i _ => n - (intOf i).toNat)
  case atStart => exact ⟨0, xs, Nat.zero_le _, rfl, rfl, h, fun i hi => by omega, World.grownBy.refl _ _⟩
  case round =>
    obtain ⟨j, X, hj, rfl, rfl, hown, hX, hgr⟩ := hrel
    by_cases hlt : j < n
    · obtain ⟨g, rfl⟩ := ha (by omega)
      have hXl : X.length = n * 3 := hown.1
      have HX : Hid (∀ i, i < j * 3 → X[i]? = ((egMs n).flatMap egR)[i]?) := hX
      obtain ⟨kk, hkk⟩ : ∃ kk, kk = 1 + 3 * j := ⟨_, rfl⟩
      rw [← hkk]
      have hkb : kk ≤ 40000000 := by omega
      have HKK : Hid (kk = 1 + 3 * j) := hkk
      clear hkk hX
      obtain ⟨u0, hc0⟩ := row_cell hown (j * 3) (by omega)
      obtain ⟨u1, hc1⟩ := row_cell hown (j * 3 + 1) (by omega)
      obtain ⟨u2, hc2⟩ := row_cell hown (j * 3 + 2) (by omega)
      have hf0 := hown.frozenAt (j * 3)
      have hf1 := hown.frozenAt (j * 3 + 1)
      have hf2 := hown.frozenAt (j * 3 + 2)
      have s1 := hown.stored (j * 3) (.int .i64 (kk : Int))
      have s2 := s1.1.stored (j * 3 + 1) (.int .i64 ((kk : Int) + 1))
      have s3 := s2.1.stored (j * 3 + 2) (.int .i64 ((kk : Int) + 1 + 1))
      go_wp2
      go_roundw
      case rel =>
        refine ⟨j + 1, _, by omega, by go_num, by rw [show 1 + 3 * (j + 1) = kk + 3 by rw [HKK.out]; omega]; go_num, s3.1, fun i hi => ?_, grown_trans (grown_trans (grown_trans hgr s1.2) s2.2) s3.2⟩
        obtain ⟨m0, m1, m2⟩ := egR_get (egMs n) j (by rw [egMs_len]; exact hlt)
        rw [egMs_get] at m0 m1 m2
        have hk0 : (kk : Int) = ((1 + 3 * j : Nat) : Int) := by rw [HKK.out]
        by_cases h0 : i = j * 3
        · subst h0
          rw [List.getElem?_set_ne (by omega), List.getElem?_set_ne (by omega), List.getElem?_set_self (by omega), m0, hk0]; rfl
        · by_cases h1 : i = j * 3 + 1
          · subst h1
            rw [List.getElem?_set_ne (by omega), List.getElem?_set_self (by simp; omega), m1, hk0]; simp [egM]
          · by_cases h2 : i = j * 3 + 2
            · subst h2
              rw [List.getElem?_set_self (by simp; omega), m2, hk0]; simp [egM]; omega
            · rw [List.getElem?_set_ne (by omega), List.getElem?_set_ne (by omega), List.getElem?_set_ne (by omega)]
              exact HX.out i (by omega)
      case measure => simp [intOf]; omega
    · have hjn : j = n := by omega
      subst hjn
      have hXe : X = (egMs j).flatMap egR := by
        have hXl : X.length = j * 3 := hown.1
        apply List.ext_getElem?
        intro i
        by_cases hi : i < j * 3
        · exact hX i hi
        · rw [List.getElem?_eq_none (by omega), List.getElem?_eq_none (by rw [egR_len, egMs_len]; omega)]
      rw [hXe] at hown
      clear hX
      go_wp2
      go_ret
      exact ⟨rfl, by rw [egMs_len]; exact hown, hgr⟩

set_option maxHeartbeats 2000000 in
set_option maxRecDepth 100000 in
theorem heldE_any (v : Value) (n : Nat) (w : World) (h : Egs w v (egMs n)) (hn : n ≤ 1048576) :
    Calls Tryz.prog 14 #[v, .int .i64 1] w fun e w' => e = .returned (.int .i64 ((1 + 3 * n : Nat) : Int)) ∧ w' = w := by
  obtain ⟨a, cap, rfl, hcap, hmax, hc⟩ := h
  have HC : Hid (∀ k, k < n → ∃ b o, a = some ⟨b, o, none⟩ ∧ w.cell? ⟨b, o + k * 3, none⟩ = some (.int .i64 ((1 + 3 * k : Nat) : Int)) ∧ w.cell? ⟨b, o + k * 3 + 1, none⟩ = some (.int .i64 (((1 + 3 * k : Nat) : Int) + 1)) ∧ w.cell? ⟨b, o + k * 3 + 2, none⟩ = some (.int .i64 (((1 + 3 * k : Nat) : Int) + 1 + 1))) := fun k hk => by
    obtain ⟨b, o, ha, _, h0, h1, h2⟩ := hc k (by rw [egMs_len]; exact hk)
    rw [egMs_get] at h0 h1 h2
    refine ⟨b, o, ha, h0, ?_, ?_⟩
    · rw [h1]; simp [egM]
    · rw [h2]; simp [egM]; omega
  rw [egMs_len] at hcap ⊢
  clear hc hmax
  go_enter Tryz.func14, Tryz.ntmps14
  go_wp2
  go_loopw [1, 5] (fun kv i wr => ∃ j : Nat, j ≤ n ∧ i = .int .i64 j ∧ kv = .int .i64 ((1 + 3 * j : Nat) : Int) ∧ wr = w) (fun _ i _ => n - (intOf i).toNat)
  case atStart => exact ⟨0, Nat.zero_le _, rfl, rfl, rfl⟩
  case round =>
    obtain ⟨j, hj, rfl, rfl, rfl⟩ := hrel
    by_cases hlt : j < n
    · obtain ⟨b, o, rfl, c0, c1, c2⟩ := HC.out j hlt
      obtain ⟨kk, hkk⟩ : ∃ kk, kk = 1 + 3 * j := ⟨_, rfl⟩
      rw [← hkk] at c0 c1 c2 ⊢
      have hkb : kk ≤ 40000000 := by omega
      have HKK : Hid (kk = 1 + 3 * j) := hkk
      clear hkk
      go_wp2
      go_roundw
      case rel => exact ⟨j + 1, by omega, by go_num, by rw [show 1 + 3 * (j + 1) = kk + 3 by rw [HKK.out]; omega]; go_num, trivial⟩
      case measure => simp [intOf]; omega
    · have hjn : j = n := by omega
      subst hjn
      go_wp2
      go_ret
      exact ⟨rfl, rfl⟩
end Go.Proofs.YtimgafblpmjajabGreat
namespace Go.Proofs.YtimgafblpmjajabGreat

open Go.RowKit

theorem below_set2' {B : Nat} {w w1 : World} (hb : Below B w w1) (hB : B ≤ w.heap.size) (u0 u1 : Value) : Below B w ((w1.setCell ⟨w.heap.size, 0, none⟩ u0).setCell ⟨w.heap.size, 1, none⟩ u1) :=
  (hb.setCell (p := ⟨w.heap.size, 0, none⟩) hB _).setCell (p := ⟨w.heap.size, 1, none⟩) hB _

/-- A struct of two cells that was laid first, behind what was laid since. -/
theorem old_two {w1 w2 : World} {u0 u1 : Value} {t : TypeId} (hb : Below (w1.alloc (.cells #[u0, u1] t)).heap.size (w1.alloc (.cells #[u0, u1] t)) w2) (o' : Obj) :
    (w2.alloc o').cell? ⟨w1.heap.size, 0, none⟩ = some u0 ∧ (w2.alloc o').cell? ⟨w1.heap.size, 1, none⟩ = some u1 := by
  have hz : w1.heap.size < w2.heap.size := by have := hb.size; simp at this; omega
  have hb' : Below (w1.alloc (.cells #[u0, u1] t)).heap.size (w1.alloc (.cells #[u0, u1] t)) (w2.alloc o') := hb.trans ((Below.refl _ _).alloc (by simp; omega) o')
  obtain ⟨hc, hf⟩ := bcell hb'
  exact ⟨by rw [hc _ _ (by simp)]; simp, by rw [hc _ _ (by simp)]; simp⟩

end Go.Proofs.YtimgafblpmjajabGreat
namespace Go.Proofs.YtimgafblpmjajabGreat

open Go.RowKit Go.Shelf

attribute [local go_sem] Oper.semAt_some

set_option maxRecDepth 100000 in
set_option maxHeartbeats 2000000 in
theorem appendSeq_any (Bn : Nat) (s : ByteArray) (w : World) (hs : s.size ≤ 60) (hBn : Bn < w.heap.size) (hc : w.cell? ⟨Bn, 0, none⟩ = some (.string s)) :
    Calls Tryz.prog 109 #[.slice none 0 0, .func (.func 103) #[] #[.pointer (some ⟨Bn, 0, none⟩)]] w fun e w' => ∃ v, e = .returned v ∧ w'.ownsRow w.heap.size 9 1 v (Pl.split s.data.toList).length ((Pl.split s.data.toList).map strV) ∧ Below w.heap.size w w' := by
  obtain ⟨i0, hi, hz0, hz1, hz2⟩ := info_parts Tryz.info9
  have hsl : (Pl.split s.data.toList).length ≤ 61 := by have := Pl.length_split s.data.toList; rw [← size_data] at this; omega
  refine (callsIn_wide (n := 5)).1 ?_
  refine callsIn_of_wp_marks Tryz.func109 rfl trivial ?_ rfl
  simp only [Tryz.ntmps109, List.size_toArray, List.length_cons, List.length_nil, Nat.reduceAdd, Nat.reduceSub, Array.replicate_succ, Array.replicate_zero, List.push_toArray, List.append_toArray, List.nil_append, List.cons_append]
  gi_wp2
  have b0 := Boxed.new w 22 (.slice none 0 0)
  have hB0 : Below w.heap.size w (w.alloc (.cells #[.slice none 0 0] 22)) := (Below.refl _ w).alloc (Nat.le_refl _) _
  have hc1 : (w.alloc (.cells #[.slice none 0 0] 22)).cell? ⟨Bn, 0, none⟩ = some (.string s) := (World.cell?_alloc_past _ _ _ hBn).trans hc
  refine wpIn_rangeFunc_ownG rfl (by omega) (gf := 103) (lb := #[.pointer (some ⟨Bn, 0, none⟩)]) rfl trivial (enters_of Tryz.func103 (by kernel_rfl) rfl)
    (parts_stops (5 - 1) (by omega) Bn s hs _ (by simp; omega) hc1) (fun _ _ => trivial) (fun _ _ _ _ _ _ _ _ => trivial) (Below.refl _ _) (fun _ => rfl)
    (fun pre W => (∃ v, Boxed W w.heap.size 22 v ∧ W.ownsRow w.heap.size 9 1 v (vals pre).length ((vals pre).map strV) ∧ True) ∧ Below w.heap.size w W)
    (fun _ _ _ => False)
    (OwnFrom.and (Own.from (holdsRow_own w.heap.size w.heap.size 22 9 1 (fun pre => (vals pre).length) (fun pre => (vals pre).map strV) (fun _ _ => True)) _) (ownFrom_below (Nat.le_refl _) (by simp)))
    (fun _ _ _ _ _ hs _ _ => hs)
    ⟨⟨_, b0, World.ownsRow_nil _ _ _ _, trivial⟩, hB0⟩
    (fun x => { tmps := #[.slice none 0 0, .func (.func 103) #[] #[.pointer (some ⟨Bn, 0, none⟩)], .pointer (some ⟨w.heap.size, 0, none⟩), undef, .slice none 0 0, .string ⟨x.1.toArray⟩, .func (.func 103) #[] #[.pointer (some ⟨Bn, 0, none⟩)], .string ⟨x.1.toArray⟩, undef, undef, undef, undef, undef], defers := [] }) ?assign ?body ?done ?stop
  case assign =>
    intro l x W K hK
    gi_wp2
    exact hK
  case body =>
    rintro l pre x W ⟨⟨v, hv, hrw, _⟩, hB⟩ hlt
    have hsz := hB.size
    have hpl : (vals pre).length ≤ 61 := by rw [vals_length]; omega
    have hc0 := hv.cell
    obtain ⟨a6, cap6, rfl, hcap6, hmax6, _⟩ := row_shape hrw
    gi_wp2_with (gi_at_builtin; refine wpListIn_append_own _ rfl _ _ 22 rfl w.heap.size 9 i0 (.string ByteArray.empty) 1 16 Tryz.underlying22 hi hz0 hz1 hz2 rfl (by decide) _ _ _ rfl (hrw.alloc _) ⟨_, 0, none⟩ 1 1 [.string ⟨x.1.toArray⟩] rfl rfl (cell_one_new _ _ _) (by simp [Value.oneCell']) (by unfold maxLen; omega) (by omega) (by simp; omega) ?_; intro v' w1 hown' hgrow _; obtain ⟨g', cap', rfl⟩ := ownsRow_succ hown'; obtain ⟨hv1, hv2, hr2, hk2, hb2⟩ := hv.appended (by decide) hrw hsz (Nat.le_refl _) hown' hgrow; have hc3 := hv1.cell; have hf3 := hv1.frozen)
    refine ⟨hk2.from _, trivial, ⟨_, hv2, ?_, trivial⟩, hB.trans hb2⟩
    rw [vals_snoc]
    exact row_snoc (p := x.1) rfl hr2
  case done =>
    rintro D ys W hD hS ⟨⟨v, hv, hrow, _⟩, hB⟩ hK
    rw [hS] at hrow
    have hc := hv.cell
    obtain ⟨a6, cap6, rfl, hcap6, hmax6, _⟩ := row_shape hrow
    gi_wp2
    refine ⟨by simp, .inl ⟨_, _, rfl, run_takeDeferred hK, ?_⟩⟩
    exact ⟨_, results_tmp rfl _ _ _, _, rfl, ownsRow_putObj hrow _ hK rfl, hB.trans (belowK_b (w := w) (Nat.le_refl _) W D _ _ (by simp at hD; omega) hK rfl rfl)⟩
  case stop =>
    rintro D c pre W _ _ h _
    exact h.elim

set_option maxRecDepth 100000 in
set_option maxHeartbeats 1000000 in
theorem collect_any (Bn : Nat) (s : ByteArray) (w : World) (hs : s.size ≤ 60) (hBn : Bn < w.heap.size) (hc : w.cell? ⟨Bn, 0, none⟩ = some (.string s)) :
    Calls Tryz.prog 102 #[.func (.func 103) #[] #[.pointer (some ⟨Bn, 0, none⟩)]] w fun e w' => ∃ v, e = .returned v ∧ w'.ownsRow w.heap.size 9 1 v (Pl.split s.data.toList).length ((Pl.split s.data.toList).map strV) ∧ Below w.heap.size w w' := by
  go_enter Tryz.func102, Tryz.ntmps102
  go_wp2_with (go_at_call 109; refine (appendSeq_any Bn s _ hs hBn hc).mono ?_; rintro e w' ⟨v, rfl, hr, hb⟩)
  go_ret
  exact ⟨_, rfl, hr, hb⟩

set_option maxRecDepth 100000 in
set_option maxHeartbeats 1000000 in
theorem folder_any (t : ByteArray) (w : World) (hs : t.size ≤ 60) :
    Calls Tryz.prog 91 #[.agg #[.string t]] w fun e w' => ∃ v, e = .returned v ∧ w'.ownsRow w.heap.size 9 1 v (Pl.split t.data.toList).dropLast.length ((Pl.split t.data.toList).dropLast.map strV) ∧ Below w.heap.size w w' := by
  go_enter Tryz.func91, Tryz.ntmps91
  go_wp2_with (go_at_call 92; refine (callsIn_wide.1 (parts_in 3 t _)).mono ?_; rintro e w' ⟨rfl, rfl⟩)
  refine (collect_any (w.heap.size + 1) t _ hs (by simp) (by simp)).mono ?_
  rintro e w1 ⟨v, rfl, hr, hb⟩
  have hsne : Pl.split t.data.toList ≠ [] := Pl.splitTo_ne _ _
  have hpos : 0 < (Pl.split t.data.toList).length := List.length_pos_iff.2 hsne
  have hsl : (Pl.split t.data.toList).length ≤ 61 := by have := Pl.length_split t.data.toList; rw [← size_data] at this; omega
  obtain ⟨g, cap, rfl, hcap, hpop⟩ := pop_row hsne hr
  have hpop2 := own_mono (base' := w.heap.size) hpop (by simp; omega)
  clear hr hpop hsne
  go_wp2
  go_ret
  exact ⟨_, rfl, hpop2, (((Below.refl _ w).alloc (Nat.le_refl _) _).alloc (by simp) _).trans (hb.mono (by simp; omega))⟩

end Go.Proofs.YtimgafblpmjajabGreat
namespace Go.Proofs.YtimgafblpmjajabGreat

open Go.RowKit

/-- Walked from where the module stands. -/
def Pl.wn (from' s : List UInt8) : Int × List UInt8 := if (Pl.nm [] from').1 = 0 then Pl.nm (Pl.split (Pl.nm [] from').2).dropLast s else (4, [])

theorem Pl.nm_len (R : List (List UInt8)) (s : List UInt8) : (Pl.nm R s).2.length ≤ 60 := by
  unfold Pl.nm
  split
  · simp
  · unfold Pl.fin
    split
    · split
      · simp
      · split
        · simp
        · simp only; omega
    · simp
theorem Pl.folder_total (x : List UInt8) (h : x.length ≤ 60) : Pl.total (Pl.split x).dropLast ≤ 1048576 := by
  have h1 := Pl.total_dropLast (Pl.split x)
  have h2 := Pl.total_split x
  omega

/-- The answer's two cells, laid first, behind what was laid since. -/
theorem old_two_frozen {w1 w2 : World} {u0 u1 : Value} {t : TypeId} (hb : Below (w1.alloc (.cells #[u0, u1] t)).heap.size (w1.alloc (.cells #[u0, u1] t)) w2) (o' : Obj) :
    (w2.alloc o').frozen? ⟨w1.heap.size, 0, none⟩ = false ∧ (w2.alloc o').frozen? ⟨w1.heap.size, 1, none⟩ = false := by
  have hz : w1.heap.size < w2.heap.size := by have := hb.size; simp at this; omega
  have hb' : Below (w1.alloc (.cells #[u0, u1] t)).heap.size (w1.alloc (.cells #[u0, u1] t)) (w2.alloc o') := hb.trans ((Below.refl _ _).alloc (by simp; omega) o')
  obtain ⟨hc, hf⟩ := bcell hb'
  exact ⟨by rw [hf _ _ (by simp)]; simp, by rw [hf _ _ (by simp)]; simp⟩
theorem old_two_set {w1 w2 : World} {u0 u1 : Value} {t : TypeId} (hb : Below (w1.alloc (.cells #[u0, u1] t)).heap.size (w1.alloc (.cells #[u0, u1] t)) w2) (v0 v1 : Value) (o' : Obj) :
    (((w2.setCell ⟨w1.heap.size, 0, none⟩ v0).setCell ⟨w1.heap.size, 1, none⟩ v1).alloc o').cell? ⟨w1.heap.size, 0, none⟩ = some v0 ∧ (((w2.setCell ⟨w1.heap.size, 0, none⟩ v0).setCell ⟨w1.heap.size, 1, none⟩ v1).alloc o').cell? ⟨w1.heap.size, 1, none⟩ = some v1 := by
  have hz : w1.heap.size < w2.heap.size := by have := hb.size; simp at this; omega
  obtain ⟨hc, hf⟩ := bcell hb
  have e0 : w2.cell? ⟨w1.heap.size, 0, none⟩ = some u0 := by rw [hc _ _ (by simp)]; simp
  have e1 : w2.cell? ⟨w1.heap.size, 1, none⟩ = some u1 := by rw [hc _ _ (by simp)]; simp
  constructor
  · rw [World.cell?_alloc_past _ _ _ (by simp [World.setCell]; omega)]
    simp [go_sem, e0]
  · rw [World.cell?_alloc_past _ _ _ (by simp [World.setCell]; omega)]
    simp [go_sem, e1]

set_option maxRecDepth 100000 in
set_option maxHeartbeats 1000000 in
theorem specWithin_any (f s : ByteArray) (w : World) (hf0 : f.size ≤ 1048576) (hs : s.size ≤ 1048576) :
    Calls Tryz.prog 65 #[.string f, .string s] w fun e w' => e = .returned (namedV (Pl.wn f.data.toList s.data.toList)) ∧ Below w.heap.size w w' := by
  obtain ⟨c, x, hn⟩ : ∃ c x, Pl.nm [] f.data.toList = (c, x) := ⟨_, _, rfl⟩
  have hx : x.length ≤ 60 := by have := Pl.nm_len [] f.data.toList; rw [hn] at this; exact this
  have hwn : Pl.wn f.data.toList s.data.toList = if c = 0 then Pl.nm (Pl.split x).dropLast s.data.toList else (4, []) := by unfold Pl.wn; rw [hn]
  have HN : Hid (Pl.nm [] f.data.toList = (c, x)) := hn
  rw [hwn]
  clear hn hwn
  by_cases hc0 : c = 0
  · rw [if_pos hc0]
    have hb0 : (c == 0) = true := by simpa using hc0
    obtain ⟨c2, x2, hn2⟩ : ∃ c2 x2, Pl.nm (Pl.split x).dropLast s.data.toList = (c2, x2) := ⟨_, _, rfl⟩
    have HN2 : Hid (Pl.nm (Pl.split x).dropLast s.data.toList = (c2, x2)) := hn2
    rw [hn2]
    obtain ⟨t, ht⟩ : ∃ t : ByteArray, t = ⟨x.toArray⟩ := ⟨_, rfl⟩
    have htd : t.data.toList = x := by rw [ht]
    have hts : t.size ≤ 60 := by rw [size_data, htd]; exact hx
    have HT : Hid (strV x = .string t) := by unfold Hid; rw [ht]; rfl
    have HTD : Hid (t.data.toList = x) := htd
    have hsne : Pl.split x ≠ [] := Pl.splitTo_ne _ _
    have hpos : 0 < (Pl.split x).length := List.length_pos_iff.2 hsne
    have hsl : (Pl.split x).length ≤ 61 := by have := Pl.length_split x; omega
    have HNE : Hid (Pl.split x ≠ []) := hsne
    clear hn2 ht htd hsne hc0
    go_enter Tryz.func65, Tryz.ntmps65
    go_wp2_with fail
    refine (specClean_any f _ hf0).mono ?_
    rw [HN.out]
    unfold namedV
    rw [HT.out]
    rintro e w1 ⟨rfl, hb1⟩
    have hz1 : w.heap.size + 1 ≤ w1.heap.size := by have := hb1.size; simp at this; omega
    go_wp2_with fail
    refine (l1parts_any t _ (by omega)).mono ?_
    rw [HTD.out]
    rintro e w2 ⟨v, rfl, hr, hb2⟩
    obtain ⟨g, cap, rfl, hcap, hpop⟩ := pop_row HNE.out hr
    go_wp2_with fail
    refine (l1named_any _ _ _ s _ hpop (Pl.folder_total x hx) hs).mono ?_
    rw [HN2.out]
    unfold namedV strV
    rintro e w3 ⟨rfl, hb3⟩
    have hb12 : Below (w.heap.size + 1) (w.alloc (.cells #[.int .i64 0, .string ⟨#[]⟩] 118)) w3 := ((hb1.mono (by simp)).alloc (by omega) _).trans ((hb2.mono (by simp; omega)).trans (hb3.mono (by have := hb2.size; simp at this; omega)))
    obtain ⟨hc, hf⟩ := bcell (W := w.alloc (.cells #[.int .i64 0, .string ⟨#[]⟩] 118)) (w1 := w3) (by rw [World.size_alloc]; exact hb12)
    go_wp2
    exact bodyPost_ret (v := namedV (c2, x2)) (by simp [results, Tryz.results65, go_sem, namedV, strV, hc]) rfl ⟨rfl, below_set2' (((Below.refl _ w).alloc (Nat.le_refl _) _).trans (hb12.mono (by simp))) (Nat.le_refl _) _ _⟩
  · rw [if_neg hc0]
    have hb0 : (c == 0) = false := by simpa using hc0
    clear hc0
    go_enter Tryz.func65, Tryz.ntmps65
    go_wp2_with fail
    refine (specClean_any f _ hf0).mono ?_
    rw [HN.out]
    unfold namedV strV
    rintro e w1 ⟨rfl, hb1⟩
    have hz1 : w.heap.size + 1 ≤ w1.heap.size := by have := hb1.size; simp at this; omega
    have hA := fun o' => (old_two hb1 o').1
    have hA2 := fun o' => (old_two hb1 o').2
    have hF := fun o' => (old_two_frozen hb1 o').1
    have hF2 := fun o' => (old_two_frozen hb1 o').2
    go_wp2
    exact bodyPost_ret (v := namedV (4, [])) (by simp [results, Tryz.results65, go_sem, namedV, strV, hA, hA2]) rfl ⟨rfl, below_set2' ((below_one hb1).alloc (by omega) _) (Nat.le_refl _) _ _⟩

set_option maxRecDepth 100000 in
set_option maxHeartbeats 1000000 in
theorem within_any (f s : ByteArray) (w : World) :
    Calls Tryz.prog 76 #[.string f, .string s] w fun e w' => e = .returned (formV (Pl.wn f.data.toList s.data.toList)) ∧ Below w.heap.size w w' := by
  obtain ⟨c, x, hn⟩ : ∃ c x, Pl.nm [] f.data.toList = (c, x) := ⟨_, _, rfl⟩
  have hx : x.length ≤ 60 := by have := Pl.nm_len [] f.data.toList; rw [hn] at this; exact this
  have hwn : Pl.wn f.data.toList s.data.toList = if c = 0 then Pl.nm (Pl.split x).dropLast s.data.toList else (4, []) := by unfold Pl.wn; rw [hn]
  have HN : Hid (Pl.nm [] f.data.toList = (c, x)) := hn
  rw [hwn]
  obtain ⟨t, ht⟩ : ∃ t : ByteArray, t = ⟨x.toArray⟩ := ⟨_, rfl⟩
  have htd : t.data.toList = x := by rw [ht]
  have hts : t.size ≤ 60 := by rw [size_data, htd]; exact hx
  have HT : Hid (strV x = .string t) := by unfold Hid; rw [ht]; rfl
  have HTD : Hid (t.data.toList = x) := htd
  clear hn hwn ht htd
  by_cases hc0 : c = 0
  · rw [if_pos hc0]
    have hb0 : (c == 0) = true := by simpa using hc0
    have hb0' : (c != 0) = false := by simpa using hc0
    obtain ⟨c2, x2, hn2⟩ : ∃ c2 x2, Pl.nm (Pl.split x).dropLast s.data.toList = (c2, x2) := ⟨_, _, rfl⟩
    have HN2 : Hid (Pl.nm (Pl.split x).dropLast s.data.toList = (c2, x2)) := hn2
    rw [hn2]
    clear hn2 hc0
    go_enter Tryz.func76, Tryz.ntmps76
    go_wp2_with fail
    refine (walk_any (w.heap.size + 1) (.slice none 0 0) [] f _ (World.ownsRow_nil _ _ _ _) (by simp) (by decide)).mono ?_
    rw [HN.out]
    unfold formV
    rw [HT.out]
    rintro e w1 ⟨rfl, hb1⟩
    have hz1 : w.heap.size + 1 ≤ w1.heap.size := by have := hb1.size; simp at this; omega
    go_wp2_with fail
    refine (folder_any t _ hts).mono ?_
    rw [HTD.out]
    rintro e w2 ⟨v, rfl, hr, hb2⟩
    have hz2 : w1.heap.size + 1 ≤ w2.heap.size := by have := hb2.size; simp at this; omega
    go_wp2_with fail
    refine (walk_any (w1.heap.size + 1) v _ s _ (own_mono hr (by simp)) hz2 (Pl.folder_total x hx)).mono ?_
    rw [HN2.out]
    unfold formV strV
    rintro e w3 ⟨rfl, hb3⟩
    have hz3 := hb3.size
    have hb13 : Below (w.heap.size + 1) (w.alloc (.cells #[.string ⟨#[]⟩] 106)) w3 := (hb1.alloc (by omega) _).trans ((hb2.mono (by simp; omega)).trans (hb3.mono (by omega)))
    obtain ⟨hc, hf⟩ := bcell (W := w.alloc (.cells #[.string ⟨#[]⟩] 106)) (w1 := w3) (by rw [World.size_alloc]; exact hb13)
    go_wp2
    exact bodyPost_ret (v := formV (c2, x2)) (by simp [results, Tryz.results76, go_sem, formV, strV, hc]) rfl ⟨rfl, ((((Below.refl _ w).alloc (Nat.le_refl _) _).trans (hb13.mono (by simp)))).setCell (p := ⟨w.heap.size, 0, none⟩) (Nat.le_refl _) _⟩
  · rw [if_neg hc0]
    have hb0 : (c == 0) = false := by simpa using hc0
    have hb0' : (c != 0) = true := by simpa using hc0
    clear hc0
    go_enter Tryz.func76, Tryz.ntmps76
    go_wp2_with fail
    refine (walk_any (w.heap.size + 1) (.slice none 0 0) [] f _ (World.ownsRow_nil _ _ _ _) (by simp) (by decide)).mono ?_
    rw [HN.out]
    unfold formV
    rw [HT.out]
    rintro e w1 ⟨rfl, hb1⟩
    have hz1 : w.heap.size + 1 ≤ w1.heap.size := by have := hb1.size; simp at this; omega
    have hb1' : Below (w.alloc (.cells #[.string ⟨#[]⟩] 106)).heap.size (w.alloc (.cells #[.string ⟨#[]⟩] 106)) w1 := by rw [World.size_alloc]; exact hb1
    have hA := fun o' => (old_cell rfl hb1' o').1
    have hF := fun o' => (old_cell rfl hb1' o').2
    go_wp2
    exact bodyPost_ret (v := formV (4, [])) (by simp [results, Tryz.results76, go_sem, formV, strV, hA]) rfl ⟨rfl, ((below_one hb1').alloc (by omega) _).setCell (p := ⟨w.heap.size, 0, none⟩) (Nat.le_refl _) _⟩

end Go.Proofs.YtimgafblpmjajabGreat
namespace Go.Proofs.YtimgafblpmjajabGreat

open Go.RowKit

def Pl.near (s : List UInt8) : Bool := ((Pl.split s).headD [] == [46]) || ((Pl.split s).headD [] == [46, 46])
def Pl.rooted (r n : List UInt8) : List UInt8 := if r = [] then n else r ++ [47] ++ n
def Pl.addTry (out : List (List UInt8)) (x : Int × List UInt8) : List (List UInt8) := if x.1 = 0 then (if x.2 ∈ out then out else out ++ [x.2]) else out
def Pl.under (roots : List (List UInt8)) (n : List UInt8) : List (List UInt8) := roots.foldl (fun out r => Pl.addTry out (Pl.nm [] (Pl.rooted r n))) []
def Pl.tries (roots : List (List UInt8)) (from' name : List UInt8) : List (List UInt8) :=
  if 8 < roots.length then [] else if Pl.near name then (if (Pl.wn from' name).1 = 0 then [(Pl.wn from' name).2] else []) else if (Pl.nm [] name).1 = 0 then Pl.under roots (Pl.nm [] name).2 else []

set_option maxHeartbeats 1000000 in
set_option maxRecDepth 100000 in
theorem l1named_all (base : Nat) (v0 : Value) (R : List (List UInt8)) (s : ByteArray) (w : World) (hrow : w.ownsRow base 9 1 v0 R.length (R.map strV)) (hR : Pl.total R ≤ 1048576) :
    Calls Tryz.prog 84 #[v0, .string s] w fun e w' => e = .returned (namedV (Pl.nm R s.data.toList)) ∧ Below w.heap.size w w' := by
  by_cases h60 : 60 < s.size
  · have hn : Pl.nm R s.data.toList = (3, []) := by unfold Pl.nm; rw [if_pos (by rw [← size_data]; exact h60)]
    rw [hn]
    clear hn hrow
    go_enter Tryz.func84, Tryz.ntmps84
    go_wp2
    exact bodyPost_ret (v := namedV (3, [])) (by simp [results, Tryz.results84, go_sem, namedV, strV]) rfl ⟨rfl, (Below.refl _ _).alloc (Nat.le_refl _) _⟩
  · exact l1named_any base v0 R s w hrow hR (by omega)

set_option maxHeartbeats 1000000 in
set_option maxRecDepth 100000 in
theorem specClean_all (s : ByteArray) (w : World) :
    Calls Tryz.prog 62 #[.string s] w fun e w' => e = .returned (namedV (Pl.nm [] s.data.toList)) ∧ Below w.heap.size w w' := by
  obtain ⟨c, x, hn⟩ : ∃ c x, Pl.nm [] s.data.toList = (c, x) := ⟨_, _, rfl⟩
  have HN : Hid (Pl.nm [] s.data.toList = (c, x)) := hn
  rw [hn]
  clear hn
  go_enter Tryz.func62, Tryz.ntmps62
  go_wp2_with fail
  refine (l1named_all 0 (.slice none 0 0) [] s _ (World.ownsRow_nil _ _ _ _) (by decide)).mono ?_
  rw [HN.out]
  rintro e w1 ⟨rfl, hb⟩
  obtain ⟨hc, hf⟩ := bcell hb
  unfold namedV strV
  go_wp2
  exact bodyPost_ret (v := namedV (c, x)) (by simp [results, Tryz.results62, go_sem, namedV, strV, hc]) rfl ⟨rfl, below_set2 hb _ _⟩

set_option maxHeartbeats 1000000 in
set_option maxRecDepth 100000 in
theorem l1near_any (s : ByteArray) (w : World) (hs : s.size ≤ 1048576) :
    Calls Tryz.prog 64 #[.string s] w fun e w' => e = .returned (.bool (Pl.near s.data.toList)) ∧ Below w.heap.size w w' := by
  have hsne : Pl.split s.data.toList ≠ [] := Pl.splitTo_ne _ _
  obtain ⟨p, r, hp⟩ : ∃ p r, Pl.split s.data.toList = p :: r := by
    cases h : Pl.split s.data.toList with
    | nil => exact absurd h hsne
    | cons p r => exact ⟨p, r, rfl⟩
  have hn : Pl.near s.data.toList = ((p == [46]) || (p == [46, 46])) := by unfold Pl.near; rw [hp]; rfl
  rw [hn]
  have HP : Hid (Pl.split s.data.toList = p :: r) := hp
  obtain ⟨q, hq⟩ : ∃ q : ByteArray, q = ⟨p.toArray⟩ := ⟨_, rfl⟩
  have hql : q.toList = p := by rw [Go.ByteArray.toList_eq, hq]
  have HQ : Hid (strV p = .string q) := by unfold Hid; rw [hq]; rfl
  have e1 : (q.toList == [46]) = (p == [46]) := by rw [hql]
  have e2 : (q.toList == [46, 46]) = (p == [46, 46]) := by rw [hql]
  generalize (p == [46]) = t1 at *
  generalize (p == [46, 46]) = t2 at *
  clear hn hp hsne hq hql
  cases t1 <;> cases t2
  all_goals
    go_enter Tryz.func64, Tryz.ntmps64
    go_wp2_with fail
    refine (l1parts_any s _ hs).mono ?_
    rw [HP.out]
    rintro e w1 ⟨v, rfl, hr, hb⟩
    obtain ⟨a, cap, rfl, hcap, hmax, hcell⟩ := row_shape hr
    obtain ⟨g, rfl, _, _, hc0⟩ := hcell 0 (by simp)
    have hc1 : w1.cell? ⟨g, 0, none⟩ = some (.string q) := by rw [hc0]; exact congrArg some HQ.out
    have hlp : (0 : Int) < ((p :: r).length : Int) := by simp
    clear hcell hc0
    go_wp2
    go_ret
    exact ⟨rfl, hb⟩

set_option maxHeartbeats 1000000 in
set_option maxRecDepth 100000 in
theorem isRelative_any (s : ByteArray) (w : World) (hs : s.size ≤ 1048576) :
    Calls Tryz.prog 75 #[.string s] w fun e w' => e = .returned (.bool (Pl.near s.data.toList)) ∧ Below w.heap.size w w' := by
  obtain ⟨q, v2, f, n, hcut, hq⟩ : ∃ (q : ByteArray) (v2 : ByteArray) (f : Bool) (n : Nat), (Calls Tryz.prog 90 #[.string s, .string ⟨#[47]⟩] w fun e w' => e = .returned (.tuple #[.string q, .string v2, .bool f]) ∧ w' = w.drewN n) ∧ q.data.toList = (Pl.split s.data.toList).headD [] := by
    rcases index47 s.data.toList with ⟨hix, hsp⟩ | ⟨i, hix, hil, hsp⟩
    · refine ⟨s, _, _, 0, cut_miss s w hix, ?_⟩
      have := hsp []; unfold Pl.split; rw [this]; simp
    · refine ⟨_, _, _, 1, cut_hit s i w hix (by rw [size_data]; exact hil) hs, ?_⟩
      have := hsp []; unfold Pl.split; rw [this]
      rw [ByteArray.data_extract]
      simp
  have hql : q.toList = (Pl.split s.data.toList).headD [] := by rw [Go.ByteArray.toList_eq, hq]
  have hn : Pl.near s.data.toList = ((q.toList == [46]) || (q.toList == [46, 46])) := by unfold Pl.near; rw [hql]
  rw [hn]
  clear hn hql hq
  obtain ⟨t1, e1⟩ : ∃ t1, (q.toList == [46]) = t1 := ⟨_, rfl⟩
  obtain ⟨t2, e2⟩ : ∃ t2, (q.toList == [46, 46]) = t2 := ⟨_, rfl⟩
  rw [e1, e2]
  cases t1 <;> cases t2
  all_goals
    go_enter Tryz.func75, Tryz.ntmps75
    go_wp2_with (go_at_call 90; refine hcut.mono ?_; rintro e w' ⟨rfl, rfl⟩)
    go_ret
    exact ⟨rfl, rfl, rfl, rfl, Nat.le_refl _, fun _ _ => rfl⟩

end Go.Proofs.YtimgafblpmjajabGreat
namespace Go.Proofs.YtimgafblpmjajabGreat

open Go.RowKit

theorem Tryz.info49 : (Tryz.prog.info? 106).map (fun i => (i.zero, i.size, i.bytes)) = some (some (.agg #[.string ⟨#[]⟩]), 1, 16) := by kernel_rfl

theorem row_shape49 {w : World} {base : Nat} {v : Value} {xs : List (List UInt8)} (h : w.ownsRow base 106 1 v xs.length (xs.map strV)) :
    ∃ a cap, v = .slice a xs.length cap ∧ xs.length ≤ cap ∧ cap ≤ maxLen ∧ ∀ k, (hk : k < xs.length) → ∃ g, a = some ⟨g, 0, none⟩ ∧ base ≤ g ∧ g < w.heap.size ∧ w.cell? ⟨g, k, none⟩ = some (strV xs[k]) := by
  have h0 := h
  obtain ⟨_, ⟨rfl, hn⟩ | ⟨g, cap, cur, rfl, hg, hh, hcap, hmax, _⟩⟩ := h
  · exact ⟨none, 0, by rw [hn], by omega, by decide, fun k hk => by omega⟩
  · refine ⟨_, cap, rfl, hcap, hmax, fun k hk => ⟨g, rfl, hg, (Array.getElem?_eq_some_iff.1 hh).1, ?_⟩⟩
    rw [h0.cellAt k (by omega)]
    simp [hk]

/-- Rows of two types lie apart. -/
theorem rows_apart {w : World} {b1 b2 : Nat} {e1 e2 : TypeId} {s1 s2 n1 n2 : Nat} {v1 v2 : Value} {x1 x2 : List Value} (he : e1 ≠ e2) (h1 : w.ownsRow b1 e1 s1 v1 n1 x1) (h2 : w.ownsRow b2 e2 s2 v2 n2 x2) : Apart v1 v2 := by
  rcases h2.2 with ⟨rfl, _⟩ | ⟨g, cap, cur, rfl, _, hg, _⟩
  · exact .inl rfl
  · right
    rcases h1.2 with ⟨rfl, _⟩ | ⟨g', cap', cur', rfl, _, hg', _⟩
    · simp [Value.ownBlock]
    · intro e
      have e' : g = g' := by simpa [Value.ownBlock] using e
      subst e'
      rw [hg] at hg'
      simp at hg'
      exact he hg'.2.symm

set_option maxHeartbeats 1000000 in
set_option maxRecDepth 100000 in
theorem index_any (base : Nat) (v : Value) (M : List (List UInt8)) (t : ByteArray) (w : World) (hrow : w.ownsRow base 106 1 v M.length (M.map strV)) (hM : M.length ≤ 1048576) :
    Calls Tryz.prog 106 #[v, .agg #[.string t]] w fun e w' => ∃ i : Int, e = .returned (.int .i64 i) ∧ (0 ≤ i ↔ t.data.toList ∈ M) ∧ Below w.heap.size w w' := by
  obtain ⟨a, cap, rfl, hcap, hmax, hcell⟩ := row_shape49 hrow
  have HC : Hid (∀ k, (hk : k < M.length) → ∃ g, a = some ⟨g, 0, none⟩ ∧ base ≤ g ∧ g < w.heap.size ∧ w.cell? ⟨g, k, none⟩ = some (strV M[k])) := hcell
  clear hcell hmax hrow
  go_enter Tryz.func106, Tryz.ntmps106
  go_wp2
  go_loopw [8] (fun i wr => ∃ k : Nat, k ≤ M.length ∧ i = .int .i64 k ∧ Hid (∀ j, (hj : j < M.length) → j < k → M[j] ≠ t.data.toList) ∧ ∃ n, wr = (w.alloc (.cells #[.string t] 106)).drewN n) (fun i _ => M.length - (intOf i).toNat)
  case atStart => exact ⟨0, Nat.zero_le _, rfl, fun j _ h => by omega, 0, rfl⟩
  case round =>
    obtain ⟨k, hk, rfl, hno, n, rfl⟩ := hrel
    have hB : Below w.heap.size w ((w.alloc (.cells #[.string t] 106)).drewN n) := below_drewN ((Below.refl _ w).alloc (Nat.le_refl _) _) n
    by_cases hlt : k < M.length
    · obtain ⟨g, rfl, _, hg, hc⟩ := HC.out k hlt
      obtain ⟨q, hq⟩ : ∃ q : ByteArray, q = ⟨M[k].toArray⟩ := ⟨_, rfl⟩
      have hcq : w.cell? ⟨g, k, none⟩ = some (.string q) := by rw [hc, hq]; rfl
      have hqd : q.data.toList = M[k] := by rw [hq]
      by_cases heq : t = q
      · subst heq
        have HE : Hid (t.data.toList ∈ M) := by unfold Hid; rw [hqd]; exact List.getElem_mem hlt
        clear hc hq hqd
        go_wp2
        go_quiet (fail)
        go_wp2
        go_ret
        exact ⟨k, rfl, ⟨fun _ => HE.out, fun _ => by omega⟩, below_drewN hB nq⟩
      · have hne : (t.toList == q.toList) = false := by
          rw [beq_eq_false_iff_ne, Go.ByteArray.toList_eq, Go.ByteArray.toList_eq]
          exact fun h => heq (bytes_eq h)
        have HN : Hid (∀ j, (hj : j < M.length) → j < k + 1 → M[j] ≠ t.data.toList) := fun j hj h => by
          by_cases hjk : j = k
          · subst hjk; rw [← hqd]; intro h2; exact heq (bytes_eq h2.symm)
          · exact hno.out j hj (by omega)
        clear hc hq hqd
        go_wp2
        go_quiet (fail)
        go_wp2
        go_roundw
        case rel => exact ⟨k + 1, by omega, by go_num, HN, n + nq, by simp [World.drewN]⟩
        case measure => simp [intOf]; omega
    · have HN : Hid (t.data.toList ∉ M) := fun h => by
        obtain ⟨j, hj, e⟩ := List.mem_iff_getElem.1 h
        exact hno.out j hj (by omega) e
      go_wp2
      go_ret
      exact ⟨-1, rfl, ⟨fun h => by omega, fun h => absurd h HN.out⟩, hB⟩

end Go.Proofs.YtimgafblpmjajabGreat
namespace Go.Proofs.YtimgafblpmjajabGreat

open Go.RowKit

set_option maxHeartbeats 1000000 in
set_option maxRecDepth 100000 in
theorem contains_any (base : Nat) (v : Value) (M : List (List UInt8)) (t : ByteArray) (w : World) (hrow : w.ownsRow base 106 1 v M.length (M.map strV)) (hM : M.length ≤ 1048576) :
    Calls Tryz.prog 96 #[v, .agg #[.string t]] w fun e w' => e = .returned (.bool (decide (t.data.toList ∈ M))) ∧ Below w.heap.size w w' := by
  obtain ⟨d, hd⟩ : ∃ d, d = decide (t.data.toList ∈ M) := ⟨_, rfl⟩
  rw [← hd]
  have HD : Hid (d = decide (t.data.toList ∈ M)) := hd
  clear hd
  go_enter Tryz.func96, Tryz.ntmps96
  go_wp2_with fail
  refine (index_any base v M t _ (hrow.alloc _) hM).mono ?_
  rintro e w1 ⟨i, rfl, hi, hb⟩
  have HI : Hid (decide (0 ≤ i) = d) := by
    unfold Hid; rw [HD.out]; exact decide_eq_decide.2 hi
  clear hi
  go_wp2
  go_ret
  exact ⟨ret_bool HI.out, below_one hb⟩

set_option maxHeartbeats 1000000 in
set_option maxRecDepth 100000 in
theorem rooted_any (r n : ByteArray) (w : World) (hr : r.size ≤ 4194304) (hn : n.size ≤ 4194304) :
    Calls Tryz.prog 95 #[.string r, .string n] w fun e w' => e = .returned (strV (Pl.rooted r.data.toList n.data.toList)) ∧ w' = w := by
  by_cases h : r.data.toList = []
  · have hr0 : Pl.rooted r.data.toList n.data.toList = n.data.toList := by unfold Pl.rooted; rw [if_pos h]
    rw [hr0, strV_data]
    have he : r.toList.isEmpty = true := by rw [Go.ByteArray.toList_eq, h]; rfl
    clear hr0 h
    go_enter Tryz.func95, Tryz.ntmps95
    go_wp2
    go_ret
    exact ⟨rfl, rfl⟩
  · have hr0 : strV (Pl.rooted r.data.toList n.data.toList) = .string (r ++ ⟨#[47]⟩ ++ n) := by
      unfold Pl.rooted; rw [if_neg h, ← strV_data, ByteArray.data_append, ByteArray.data_append, Array.toList_append, Array.toList_append]
    rw [hr0]
    have he : r.toList.isEmpty = false := by rw [Go.ByteArray.toList_eq]; simpa using h
    clear hr0 h
    go_enter Tryz.func95, Tryz.ntmps95
    go_wp2
    go_ret
    exact ⟨rfl, rfl⟩

theorem under_succ (L : List (List UInt8)) (n : List UInt8) (k : Nat) (hk : k < L.length) : Pl.under (L.take (k + 1)) n = Pl.addTry (Pl.under (L.take k) n) (Pl.nm [] (Pl.rooted L[k] n)) := by
  unfold Pl.under; rw [List.take_succ_eq_append_getElem hk, List.foldl_append]; rfl
theorem addTry_len (out : List (List UInt8)) (x : Int × List UInt8) : (Pl.addTry out x).length ≤ out.length + 1 := by
  unfold Pl.addTry; split
  · split
    · omega
    · simp
  · omega
theorem under_len (L : List (List UInt8)) (n : List UInt8) (k : Nat) (hk : k ≤ L.length) : (Pl.under (L.take k) n).length ≤ k := by
  induction k with
  | zero => simp [Pl.under]
  | succ k ih =>
    rw [under_succ L n k (by omega)]
    have := addTry_len (Pl.under (L.take k) n) (Pl.nm [] (Pl.rooted L[k] n))
    have := ih (by omega); omega

set_option maxHeartbeats 2000000 in
set_option maxRecDepth 100000 in
theorem underRoots_any (vr : Value) (L : List (List UInt8)) (n : ByteArray) (w : World) (hv : Strs w vr L) (hl : Pl.total L ≤ 1048576) (hn : n.size ≤ 60) :
    Calls Tryz.prog 78 #[vr, .string n] w fun e w' => ∃ v, e = .returned v ∧ w'.ownsRow w.heap.size 106 1 v (Pl.under L n.data.toList).length ((Pl.under L n.data.toList).map strV) ∧ Below w.heap.size w w' := by
  obtain ⟨i49, hj, hy0, hy1, hy2⟩ := info_parts Tryz.info49
  obtain ⟨a, cap, rfl, hcap, hmax, hcell⟩ := hv
  have HC : Hid (∀ k, (hk : k < L.length) → ∃ b o, a = some ⟨b, o, none⟩ ∧ b < w.heap.size ∧ w.cell? ⟨b, o + k, none⟩ = some (strV L[k])) := hcell
  have hll : L.length ≤ 1048576 := by unfold Pl.total at hl; omega
  have HLE : Hid (∀ k, (hk : k < L.length) → L[k].length ≤ 1048576) := fun k hk => by have := len_le_total L k hk; omega
  have HUL : Hid (∀ k, k ≤ L.length → (Pl.under (L.take k) n.data.toList).length ≤ k) := fun k hk => under_len L _ k hk
  clear hcell hmax hl
  go_enter Tryz.func78, Tryz.ntmps78
  go_wp2
  go_loopw [5, 12] (fun vm i wr => ∃ k : Nat, k ≤ L.length ∧ i = .int .i64 k ∧ wr.ownsRow w.heap.size 106 1 vm (Pl.under (L.take k) n.data.toList).length ((Pl.under (L.take k) n.data.toList).map strV) ∧ Below w.heap.size w wr) (fun _ i _ => L.length - (intOf i).toNat)
  case atStart => exact ⟨0, Nat.zero_le _, rfl, World.ownsRow_nil _ _ _ _, Below.refl _ _⟩
  case round =>
    obtain ⟨k, hk, rfl, hm, hB⟩ := hrel
    have hsz := hB.size
    by_cases hlt : k < L.length
    · obtain ⟨b, o, rfl, hb, hc⟩ := HC.out k hlt
      obtain ⟨q, hq⟩ : ∃ q : ByteArray, q = ⟨L[k].toArray⟩ := ⟨_, rfl⟩
      have hqd : q.data.toList = L[k] := by rw [hq]
      have hqs : q.size ≤ 4194304 := by rw [size_data, hqd]; have := HLE.out k hlt; omega
      have hcq : wr.cell? ⟨b, o + k, none⟩ = some (.string q) := by rw [hB.cell (p := ⟨b, o + k, none⟩) hb, hc, hq]; rfl
      have hroot := rooted_any q n wr hqs (by omega)
      obtain ⟨rt, hrt⟩ : ∃ rt : ByteArray, rt = ⟨(Pl.rooted q.data.toList n.data.toList).toArray⟩ := ⟨_, rfl⟩
      have hrtd : rt.data.toList = Pl.rooted q.data.toList n.data.toList := by rw [hrt]
      rw [show strV (Pl.rooted q.data.toList n.data.toList) = .string rt by rw [hrt]; rfl] at hroot
      obtain ⟨c, x, hn'⟩ : ∃ c x, Pl.nm [] rt.data.toList = (c, x) := ⟨_, _, rfl⟩
      have hU := under_succ L n.data.toList k hlt
      rw [← hqd, ← hrtd, hn'] at hU
      have hul := HUL.out k (by omega)
      obtain ⟨T, hT⟩ : ∃ T, T = Pl.under (L.take k) n.data.toList := ⟨_, rfl⟩
      rw [← hT] at hm hU hul
      obtain ⟨t, htx⟩ : ∃ t : ByteArray, t = ⟨x.toArray⟩ := ⟨_, rfl⟩
      have htd : t.data.toList = x := by rw [htx]
      have hwalk : ∀ W : World, Calls Tryz.prog 77 #[.slice none 0 0, .string rt] W fun e w' => e = .returned (.tuple #[.agg #[.string t], .int .i64 c]) ∧ Below W.heap.size W w' := fun W => by
        have := walk_any W.heap.size (.slice none 0 0) [] rt W (World.ownsRow_nil _ _ _ _) (Nat.le_refl _) (by decide)
        rw [hn', formV, htx] at *; exact this
      have HWALK : Hid (∀ W : World, Calls Tryz.prog 77 #[.slice none 0 0, .string rt] W fun e w' => e = .returned (.tuple #[.agg #[.string t], .int .i64 c]) ∧ Below W.heap.size W w') := hwalk
      have HTD : Hid (t.data.toList = x) := htd
      have HU : Hid (Pl.under (L.take (k + 1)) n.data.toList = Pl.addTry T (c, x)) := hU
      clear hwalk htd htx hU hT hn' hrtd hrt hq hqd hc
      obtain ⟨am, capm, rfl, hcapm, _, _⟩ := row_shape49 hm
      by_cases hc0 : c = 0
      · have hb0 : (c == 0) = true := by simpa using hc0
        have hb0' : (c != 0) = false := by simpa using hc0
        have hcont : ∀ W : World, W.ownsRow w.heap.size 106 1 (.slice am T.length capm) T.length (T.map strV) → Calls Tryz.prog 96 #[.slice am T.length capm, .agg #[.string t]] W fun e w' => e = .returned (.bool (decide (x ∈ T))) ∧ Below W.heap.size W w' := fun W h => by
          have := contains_any _ _ T t W h (by omega); rw [HTD.out] at this; exact this
        have HCONT : Hid (∀ W : World, W.ownsRow w.heap.size 106 1 (.slice am T.length capm) T.length (T.map strV) → Calls Tryz.prog 96 #[.slice am T.length capm, .agg #[.string t]] W fun e w' => e = .returned (.bool (decide (x ∈ T))) ∧ Below W.heap.size W w') := hcont
        clear hcont
        by_cases hx : x ∈ T
        · have hdx : decide (x ∈ T) = true := by simpa using hx
          have HF : Hid (Pl.under (L.take (k + 1)) n.data.toList = T) := by unfold Hid; rw [HU.out]; unfold Pl.addTry; rw [if_pos hc0, if_pos hx]
          rw [hdx] at HCONT
          clear hc0 hx hdx
          go_wp2_with fail
          refine hroot.mono ?_
          rintro e w' ⟨rfl, rfl⟩
          go_wp2_with fail
          refine (HWALK.out _).mono ?_
          rintro e w2 ⟨rfl, hb2⟩
          have hm2 := (own_below hm hb2 (Nat.le_refl _)).alloc (.cells #[.string t] 106)
          have hB2 : Below w.heap.size w (w2.alloc (.cells #[.string t] 106)) := (hB.trans (hb2.mono hsz)).alloc (by have := hb2.size; omega) _
          go_wp2_with fail
          refine (HCONT.out _ hm2).mono ?_
          rintro e w3 ⟨rfl, hb3⟩
          go_wp2
          go_roundw
          case rel => exact ⟨k + 1, by omega, by go_num, by rw [HF.out]; exact own_below hm2 hb3 (Nat.le_refl _), hB2.trans (hb3.mono hB2.size)⟩
          case measure => simp [intOf]; omega
        · have hdx : decide (x ∈ T) = false := by simpa using hx
          have HF : Hid (Pl.under (L.take (k + 1)) n.data.toList = T ++ [x]) := by unfold Hid; rw [HU.out]; unfold Pl.addTry; rw [if_pos hc0, if_neg hx]
          have HTX : Hid (Value.string t = strV x) := by unfold Hid; rw [← strV_data, HTD.out]
          rw [hdx] at HCONT
          clear hc0 hx hdx
          go_wp2_with fail
          refine hroot.mono ?_
          rintro e w' ⟨rfl, rfl⟩
          go_wp2_with fail
          refine (HWALK.out _).mono ?_
          rintro e w2 ⟨rfl, hb2⟩
          have hm2 := (own_below hm hb2 (Nat.le_refl _)).alloc (.cells #[.string t] 106)
          have hB2 : Below w.heap.size w (w2.alloc (.cells #[.string t] 106)) := (hB.trans (hb2.mono hsz)).alloc (by have := hb2.size; omega) _
          go_wp2_with fail
          refine (HCONT.out _ hm2).mono ?_
          rintro e w3 ⟨rfl, hb3⟩
          have hm3 := own_below hm2 hb3 (Nat.le_refl _)
          have hB3 : Below w.heap.size w w3 := hB2.trans (hb3.mono hB2.size)
          have hz3 := hB3.size
          have hf3 : w3.cell? ⟨w2.heap.size, 0, none⟩ = some (.string t) := by
            rw [hb3.cell (p := ⟨w2.heap.size, 0, none⟩) (by simp)]; simp
          have hz23 : w2.heap.size < w3.heap.size := by have := hb3.size; simp at this; omega
          clear hm2 hB2 hb3 hb2 hB hm
          go_wp2_with (at_builtin; refine wpList_app1 _ rfl (.tmp 31) (.tmp 33) 103 rfl w.heap.size 106 i49 (.agg #[.string ⟨#[]⟩]) 16 Tryz.underlying103 hj hy0 hy1 hy2 rfl _ _ _ rfl (hm3.alloc _) ⟨_, 0, none⟩ 1 (.string t) rfl (cell_one_new _ _ _) (by simp [Value.oneCell']) (by unfold maxLen; omega) (by omega) (by simp; omega) ?_; intro vm' w4 hm4 hg4 hs4; have hB4 := below_append hB3 hz3 hm3 hg4; clear hm3 hf3 hg4 hs4 hB3)
          rw [HTX.out] at hm4
          go_roundw
          case rel => exact ⟨k + 1, by omega, by go_num, by rw [HF.out]; simpa using hm4, hB4⟩
          case measure => simp [intOf]; omega
      · have hb0 : (c == 0) = false := by simpa using hc0
        have hb0' : (c != 0) = true := by simpa using hc0
        have HF : Hid (Pl.under (L.take (k + 1)) n.data.toList = T) := by unfold Hid; rw [HU.out]; unfold Pl.addTry; rw [if_neg hc0]
        clear hc0
        go_wp2_with fail
        refine hroot.mono ?_
        rintro e w' ⟨rfl, rfl⟩
        go_wp2_with fail
        refine (HWALK.out _).mono ?_
        rintro e w2 ⟨rfl, hb2⟩
        go_wp2_with (fail)
        go_roundw
        case rel => exact ⟨k + 1, by omega, by go_num, by rw [HF.out]; exact (own_below hm hb2 (Nat.le_refl _)).alloc _, (hB.trans (hb2.mono hsz)).alloc (by have := hb2.size; omega) _⟩
        case measure => simp [intOf]; omega
    · have hkL : L.take k = L := List.take_of_length_le (by omega)
      rw [hkL] at hm
      clear hkL
      go_wp2
      go_ret
      exact ⟨_, rfl, hm, hB⟩

end Go.Proofs.YtimgafblpmjajabGreat
namespace Go.Proofs.YtimgafblpmjajabGreat

open Go.RowKit

theorem lit_one (W : World) (B : Nat) (x : List UInt8) (hB : B ≤ W.heap.size) : (W.alloc (.cells #[strV x] 9)).ownsRow B 9 1 (.slice (some ⟨W.heap.size, 0, none⟩) 1 1) [x].length ([x].map strV) :=
  World.ownsRow_lit W #[strV x] 1 hB (by decide) rfl

theorem lit_one49 (W : World) (B : Nat) (x : List UInt8) (hB : B ≤ W.heap.size) : (W.alloc (.cells #[strV x] 106)).ownsRow B 106 1 (.slice (some ⟨W.heap.size, 0, none⟩) 1 1) [x].length ([x].map strV) :=
  World.ownsRow_lit W #[strV x] 1 hB (by decide) rfl

set_option maxHeartbeats 1000000 in
set_option maxRecDepth 100000 in
theorem formsToTry_any (vr : Value) (L : List (List UInt8)) (f s : ByteArray) (w : World) (hv : Strs w vr L) (hl : Pl.total L ≤ 1048576) (hs : s.size ≤ 1048576) :
    Calls Tryz.prog 57 #[vr, .string f, .string s] w fun e w' => ∃ v, e = .returned v ∧ w'.ownsRow w.heap.size 106 1 v (Pl.tries L f.data.toList s.data.toList).length ((Pl.tries L f.data.toList s.data.toList).map strV) ∧ Below w.heap.size w w' := by
  have hv0 := hv
  obtain ⟨a, cap, rfl, hcap, hmax, hcell⟩ := hv
  clear hcell
  by_cases h8 : 8 < L.length
  · have hT : Pl.tries L f.data.toList s.data.toList = [] := by unfold Pl.tries; rw [if_pos h8]
    rw [hT]
    clear hT hv0
    go_enter Tryz.func57, Tryz.ntmps57
    go_wp2
    go_ret
    exact ⟨_, rfl, World.ownsRow_nil _ _ _ _, Below.refl _ _⟩
  · cases hnear : Pl.near s.data.toList with
    | true =>
      obtain ⟨c, x, hn⟩ : ∃ c x, Pl.wn f.data.toList s.data.toList = (c, x) := ⟨_, _, rfl⟩
      have hT : Pl.tries L f.data.toList s.data.toList = if c = 0 then [x] else [] := by unfold Pl.tries; rw [if_neg h8, hnear, if_pos rfl, hn]
      have hrel := isRelative_any s w hs
      rw [hnear] at hrel
      have HN : Hid (Pl.wn f.data.toList s.data.toList = (c, x)) := hn
      obtain ⟨t, htx⟩ : ∃ t : ByteArray, strV x = .string t := ⟨_, rfl⟩
      have HTX : Hid (strV x = .string t) := htx
      rw [hT]
      clear hT hn hnear hv0 htx
      by_cases hc0 : c = 0
      · rw [if_pos hc0]
        have hb0 : (c == 0) = true := by simpa using hc0
        have hb0' : (c != 0) = false := by simpa using hc0
        clear hc0
        go_enter Tryz.func57, Tryz.ntmps57
        go_wp2_with fail
        refine hrel.mono ?_
        rintro e w1 ⟨rfl, hb1⟩
        go_wp2_with fail
        refine (within_any f s _).mono ?_
        rw [HN.out]
        unfold formV
        rw [HTX.out]
        rintro e w2 ⟨rfl, hb2⟩
        have hb12 : Below w.heap.size w w2 := hb1.trans (hb2.mono hb1.size)
        have hz := hb12.size
        have hL : ((w2.alloc (.cells #[.string t] 106)).alloc (.cells #[.string t] 106)).ownsRow w.heap.size 106 1 (.slice (some ⟨(w2.alloc (.cells #[.string t] 106)).heap.size, 0, none⟩) 1 1) [x].length ([x].map strV) := by
          have := lit_one49 (w2.alloc (.cells #[.string t] 106)) w.heap.size x (by simp; omega)
          rw [HTX.out] at this; exact this
        go_wp2
        go_ret
        exact ⟨_, rfl, by simpa using hL, (hb12.alloc hz _).alloc (by simp; omega) _⟩
      · rw [if_neg hc0]
        have hb0 : (c == 0) = false := by simpa using hc0
        have hb0' : (c != 0) = true := by simpa using hc0
        clear hc0
        go_enter Tryz.func57, Tryz.ntmps57
        go_wp2_with fail
        refine hrel.mono ?_
        rintro e w1 ⟨rfl, hb1⟩
        go_wp2_with fail
        refine (within_any f s _).mono ?_
        rw [HN.out]
        unfold formV
        rw [HTX.out]
        rintro e w2 ⟨rfl, hb2⟩
        have hb12 : Below w.heap.size w w2 := hb1.trans (hb2.mono hb1.size)
        have hz := hb12.size
        go_wp2
        go_ret
        exact ⟨_, rfl, World.ownsRow_nil _ _ _ _, hb12.alloc hz _⟩
    | false =>
      obtain ⟨c, x, hn⟩ : ∃ c x, Pl.nm [] s.data.toList = (c, x) := ⟨_, _, rfl⟩
      have hT : Pl.tries L f.data.toList s.data.toList = if c = 0 then Pl.under L x else [] := by unfold Pl.tries; rw [if_neg h8, hnear, if_neg (by decide), hn]
      have hx60 : x.length ≤ 60 := by have := Pl.nm_len [] s.data.toList; rw [hn] at this; exact this
      have hrel := isRelative_any s w hs
      rw [hnear] at hrel
      have HN : Hid (Pl.nm [] s.data.toList = (c, x)) := hn
      obtain ⟨t, htx⟩ : ∃ t : ByteArray, t = ⟨x.toArray⟩ := ⟨_, rfl⟩
      have HTX : Hid (strV x = .string t) := by unfold Hid; rw [htx]; rfl
      have htd : t.data.toList = x := by rw [htx]
      have hts : t.size ≤ 60 := by rw [size_data, htd]; exact hx60
      have HTD : Hid (t.data.toList = x) := htd
      rw [hT]
      clear hT hn hnear htx htd
      have HW : Hid (∀ W : World, Calls Tryz.prog 77 #[.slice none 0 0, .string s] W fun e w' => e = .returned (.tuple #[.agg #[.string t], .int .i64 c]) ∧ Below W.heap.size W w') := fun W => by
        have := walk_any W.heap.size (.slice none 0 0) [] s W (World.ownsRow_nil _ _ _ _) (Nat.le_refl _) (by decide)
        rw [HN.out, formV, HTX.out] at this; exact this
      by_cases hc0 : c = 0
      · rw [if_pos hc0]
        have hb0 : (c == 0) = true := by simpa using hc0
        have hb0' : (c != 0) = false := by simpa using hc0
        clear hc0
        have HV0 : Hid (Strs w (.slice a L.length cap) L) := hv0
        clear hv0
        go_enter Tryz.func57, Tryz.ntmps57
        go_wp2_with fail
        refine hrel.mono ?_
        rintro e w1 ⟨rfl, hb1⟩
        go_wp2_with fail
        refine (HW.out _).mono ?_
        rintro e w2 ⟨rfl, hb2⟩
        have hb12 : Below w.heap.size w w2 := hb1.trans (hb2.mono hb1.size)
        have hz := hb12.size
        have hb3 : Below w.heap.size w (w2.alloc (.cells #[.string t] 106)) := hb12.alloc hz _
        go_wp2_with fail
        refine (underRoots_any _ L t _ (HV0.out.below hb3 (Nat.le_refl _)) hl hts).mono ?_
        rw [HTD.out]
        rintro e w3 ⟨v, rfl, hr, hb4⟩
        go_wp2
        go_ret
        exact ⟨_, rfl, own_mono hr (by simp; omega), hb3.trans (hb4.mono (by simp; omega))⟩
      · rw [if_neg hc0]
        have hb0 : (c == 0) = false := by simpa using hc0
        have hb0' : (c != 0) = true := by simpa using hc0
        clear hc0 hv0
        go_enter Tryz.func57, Tryz.ntmps57
        go_wp2_with fail
        refine hrel.mono ?_
        rintro e w1 ⟨rfl, hb1⟩
        go_wp2_with fail
        refine (HW.out _).mono ?_
        rintro e w2 ⟨rfl, hb2⟩
        have hb12 : Below w.heap.size w w2 := hb1.trans (hb2.mono hb1.size)
        have hz := hb12.size
        go_wp2
        go_ret
        exact ⟨_, rfl, World.ownsRow_nil _ _ _ _, hb12.alloc hz _⟩

theorem Pl.tries_len (L : List (List UInt8)) (f s : List UInt8) : (Pl.tries L f s).length ≤ 8 := by
  unfold Pl.tries
  split
  · simp
  · split
    · split <;> simp
    · split
      · have := under_len L (Pl.nm [] s).2 L.length (Nat.le_refl _)
        rw [List.take_length] at this
        omega
      · simp

end Go.Proofs.YtimgafblpmjajabGreat
namespace Go.Proofs.YtimgafblpmjajabGreat

open Go.RowKit

set_option maxHeartbeats 1000000 in
set_option maxRecDepth 100000 in
theorem l1rooted_any (r n : ByteArray) (w : World) (hr : r.size ≤ 4194304) (hn : n.size ≤ 4194304) :
    Calls Tryz.prog 66 #[.string r, .string n] w fun e w' => e = .returned (namedV (Pl.nm [] (Pl.rooted r.data.toList n.data.toList))) ∧ Below w.heap.size w w' := by
  obtain ⟨c, x, hnm⟩ : ∃ c x, Pl.nm [] (Pl.rooted r.data.toList n.data.toList) = (c, x) := ⟨_, _, rfl⟩
  rw [hnm]
  by_cases h : r.data.toList = []
  · have hr0 : Pl.rooted r.data.toList n.data.toList = n.data.toList := by unfold Pl.rooted; rw [if_pos h]
    rw [hr0] at hnm
    have HN : Hid (Pl.nm [] n.data.toList = (c, x)) := hnm
    have he : r.toList.isEmpty = true := by rw [Go.ByteArray.toList_eq, h]; rfl
    clear hr0 h hnm
    go_enter Tryz.func66, Tryz.ntmps66
    go_wp2_with fail
    refine (specClean_all n _).mono ?_
    rw [HN.out]
    unfold namedV strV
    rintro e w1 ⟨rfl, hb⟩
    obtain ⟨hc, hf⟩ := bcell hb
    go_wp2
    exact bodyPost_ret (v := namedV (c, x)) (by simp [results, Tryz.results66, go_sem, namedV, strV, hc]) rfl ⟨rfl, below_set2 hb _ _⟩
  · have hr0 : Pl.rooted r.data.toList n.data.toList = (r ++ ⟨#[47]⟩ ++ n).data.toList := by
      unfold Pl.rooted; rw [if_neg h, ByteArray.data_append, ByteArray.data_append, Array.toList_append, Array.toList_append]
    rw [hr0] at hnm
    have HN : Hid (Pl.nm [] (r ++ ⟨#[47]⟩ ++ n).data.toList = (c, x)) := hnm
    have he : r.toList.isEmpty = false := by rw [Go.ByteArray.toList_eq]; simpa using h
    clear hr0 h hnm
    go_enter Tryz.func66, Tryz.ntmps66
    go_wp2_with fail
    refine (specClean_all _ _).mono ?_
    rw [HN.out]
    unfold namedV strV
    rintro e w1 ⟨rfl, hb⟩
    obtain ⟨hc, hf⟩ := bcell hb
    go_wp2
    exact bodyPost_ret (v := namedV (c, x)) (by simp [results, Tryz.results66, go_sem, namedV, strV, hc]) rfl ⟨rfl, below_set2 hb _ _⟩

set_option maxHeartbeats 1000000 in
set_option maxRecDepth 100000 in
theorem specTries_near (vr : Value) (L : List (List UInt8)) (f s : ByteArray) (w : World) (hv : Strs w vr L) (h8 : ¬ 8 < L.length) (hf : f.size ≤ 1048576) (hs : s.size ≤ 1048576) (hnear : Pl.near s.data.toList = true) :
    Calls Tryz.prog 47 #[vr, .string f, .string s] w fun e w' => ∃ v, e = .returned v ∧ w'.ownsRow w.heap.size 9 1 v (Pl.tries L f.data.toList s.data.toList).length ((Pl.tries L f.data.toList s.data.toList).map strV) ∧ Below w.heap.size w w' := by
  obtain ⟨a, cap, rfl, hcap, hmax, hcell⟩ := hv
  clear hcell
  obtain ⟨c, x, hn⟩ : ∃ c x, Pl.wn f.data.toList s.data.toList = (c, x) := ⟨_, _, rfl⟩
  have hT : Pl.tries L f.data.toList s.data.toList = if c = 0 then [x] else [] := by unfold Pl.tries; rw [if_neg h8, hnear, if_pos rfl, hn]
  have hrel := l1near_any s w hs
  rw [hnear] at hrel
  have HN : Hid (Pl.wn f.data.toList s.data.toList = (c, x)) := hn
  obtain ⟨t, htx⟩ : ∃ t : ByteArray, strV x = .string t := ⟨_, rfl⟩
  have HTX : Hid (strV x = .string t) := htx
  rw [hT]
  clear hT hn hnear htx
  by_cases hc0 : c = 0
  · rw [if_pos hc0]
    have hb0 : (c == 0) = true := by simpa using hc0
    have hb0' : (c != 0) = false := by simpa using hc0
    clear hc0
    go_enter Tryz.func47, Tryz.ntmps47
    go_wp2_with fail
    refine hrel.mono ?_
    rintro e w1 ⟨rfl, hb1⟩
    go_wp2_with fail
    refine (specWithin_any f s _ hf hs).mono ?_
    rw [HN.out]
    unfold namedV
    rw [HTX.out]
    rintro e w2 ⟨rfl, hb2⟩
    have hb12 : Below w.heap.size w w2 := hb1.trans (hb2.mono hb1.size)
    have hz := hb12.size
    go_wp2
    go_ret
    refine ⟨_, rfl, ?_, (hb12.alloc hz _).alloc (by simp; omega) _⟩
    have := lit_one (w2.alloc (.cells #[.int .i64 c, .string t] 118)) w.heap.size x (by simp; omega)
    rw [HTX.out] at this
    simpa [HTX.out] using this
  · rw [if_neg hc0]
    have hb0 : (c == 0) = false := by simpa using hc0
    have hb0' : (c != 0) = true := by simpa using hc0
    clear hc0
    go_enter Tryz.func47, Tryz.ntmps47
    go_wp2_with fail
    refine hrel.mono ?_
    rintro e w1 ⟨rfl, hb1⟩
    go_wp2_with fail
    refine (specWithin_any f s _ hf hs).mono ?_
    rw [HN.out]
    unfold namedV
    rw [HTX.out]
    rintro e w2 ⟨rfl, hb2⟩
    have hb12 : Below w.heap.size w w2 := hb1.trans (hb2.mono hb1.size)
    have hz := hb12.size
    go_wp2
    go_ret
    exact ⟨_, rfl, World.ownsRow_nil _ _ _ _, hb12.alloc hz _⟩

set_option maxHeartbeats 2000000 in
set_option maxRecDepth 100000 in
theorem specTries_far (vr : Value) (L : List (List UInt8)) (f s : ByteArray) (w : World) (hv : Strs w vr L) (hl : Pl.total L ≤ 1048576) (h8 : ¬ 8 < L.length) (hs : s.size ≤ 1048576) (hnear : Pl.near s.data.toList = false) :
    Calls Tryz.prog 47 #[vr, .string f, .string s] w fun e w' => ∃ v, e = .returned v ∧ w'.ownsRow w.heap.size 9 1 v (Pl.tries L f.data.toList s.data.toList).length ((Pl.tries L f.data.toList s.data.toList).map strV) ∧ Below w.heap.size w w' := by
  obtain ⟨i9, hi, hz0, hz1, hz2⟩ := info_parts Tryz.info9
  have HV0 : Hid (Strs w vr L) := hv
  obtain ⟨a, cap, rfl, hcap, hmax, hcell⟩ := hv
  have hll : L.length ≤ 1048576 := by unfold Pl.total at hl; omega
  have HLE : Hid (∀ k, (hk : k < L.length) → L[k].length ≤ 1048576) := fun k hk => by have := len_le_total L k hk; omega
  clear hcell hmax hl
  obtain ⟨c, x, hn⟩ : ∃ c x, Pl.nm [] s.data.toList = (c, x) := ⟨_, _, rfl⟩
  have hT : Pl.tries L f.data.toList s.data.toList = if c = 0 then Pl.under L x else [] := by unfold Pl.tries; rw [if_neg h8, hnear, if_neg (by decide), hn]
  have hx60 : x.length ≤ 60 := by have := Pl.nm_len [] s.data.toList; rw [hn] at this; exact this
  have hrel := l1near_any s w hs
  rw [hnear] at hrel
  have HN : Hid (Pl.nm [] s.data.toList = (c, x)) := hn
  obtain ⟨t, htx⟩ : ∃ t : ByteArray, t = ⟨x.toArray⟩ := ⟨_, rfl⟩
  have HTX : Hid (strV x = .string t) := by unfold Hid; rw [htx]; rfl
  have htd : t.data.toList = x := by rw [htx]
  have hts : t.size ≤ 60 := by rw [size_data, htd]; exact hx60
  have HTD : Hid (t.data.toList = x) := htd
  have HUL : Hid (∀ k, k ≤ L.length → (Pl.under (L.take k) x).length ≤ k) := fun k hk => under_len L _ k hk
  rw [hT]
  clear hT hn hnear htx htd
  by_cases hc0 : c = 0
  · rw [if_pos hc0]
    have hb0 : (c == 0) = true := by simpa using hc0
    have hb0' : (c != 0) = false := by simpa using hc0
    clear hc0
    go_enter Tryz.func47, Tryz.ntmps47
    go_wp2_with fail
    refine hrel.mono ?_
    rintro e w1 ⟨rfl, hb1⟩
    go_wp2_with fail
    refine (specClean_any s _ hs).mono ?_
    rw [HN.out]
    unfold namedV
    rw [HTX.out]
    rintro e w2 ⟨rfl, hb2⟩
    have hb12 : Below w.heap.size w w2 := hb1.trans (hb2.mono hb1.size)
    have hz := hb12.size
    have hb3 : Below w.heap.size w (w2.alloc (.cells #[.int .i64 c, .string t] 118)) := hb12.alloc hz _
    have hstr := HV0.out.below hb3 (Nat.le_refl _)
    obtain ⟨a', cap', hve, hcap', _, hcell⟩ := hstr
    cases hve
    have HC : Hid (∀ k, (hk : k < L.length) → ∃ b o, a = some ⟨b, o, none⟩ ∧ b < (w2.alloc (.cells #[.int .i64 c, .string t] 118)).heap.size ∧ (w2.alloc (.cells #[.int .i64 c, .string t] 118)).cell? ⟨b, o + k, none⟩ = some (strV L[k])) := hcell
    have hnc : (w2.alloc (.cells #[.int .i64 c, .string t] 118)).cell? ⟨w2.heap.size, 1, none⟩ = some (.string t) := by simp
    clear hcell
    go_wp2
    obtain ⟨W0, hW0⟩ : ∃ W0, W0 = w2.alloc (.cells #[.int .i64 c, .string t] 118) := ⟨_, rfl⟩
    have hN0 : w2.heap.size < W0.heap.size := by rw [hW0]; simp
    rw [← hW0] at HC hnc hb3 ⊢
    have HW0 : Hid (W0 = w2.alloc (.cells #[.int .i64 c, .string t] 118)) := hW0
    clear hW0
    go_loopw [9, 37] (fun v i wr => ∃ k : Nat, k ≤ L.length ∧ i = .int .i64 k ∧ wr.ownsRow W0.heap.size 9 1 v (Pl.under (L.take k) x).length ((Pl.under (L.take k) x).map strV) ∧ Below W0.heap.size W0 wr) (fun _ i _ => L.length - (intOf i).toNat)
    case atStart => exact ⟨0, Nat.zero_le _, rfl, World.ownsRow_nil _ _ _ _, Below.refl _ _⟩
    case round =>
      obtain ⟨k, hk, rfl, ht, hB⟩ := hrel
      have hsz := hB.size
      by_cases hlt : k < L.length
      · obtain ⟨b, o, rfl, hb, hc⟩ := HC.out k hlt
        obtain ⟨q, hq⟩ : ∃ q : ByteArray, q = ⟨L[k].toArray⟩ := ⟨_, rfl⟩
        have hqd : q.data.toList = L[k] := by rw [hq]
        have hqs : q.size ≤ 4194304 := by rw [size_data, hqd]; have := HLE.out k hlt; omega
        have hcq : wr.cell? ⟨b, o + k, none⟩ = some (.string q) := by rw [hB.cell (p := ⟨b, o + k, none⟩) hb, hc, hq]; rfl
        have hnc2 : wr.cell? ⟨w2.heap.size, 1, none⟩ = some (.string t) := (hB.cell (p := ⟨w2.heap.size, 1, none⟩) hN0).trans hnc
        have hroot := l1rooted_any q t wr hqs (by omega)
        rw [HTD.out] at hroot
        obtain ⟨c2, x2, hn'⟩ : ∃ c2 x2, Pl.nm [] (Pl.rooted q.data.toList x) = (c2, x2) := ⟨_, _, rfl⟩
        have hU := under_succ L x k hlt
        rw [← hqd, hn'] at hU
        have hul := HUL.out k (by omega)
        obtain ⟨T, hT⟩ : ∃ T, T = Pl.under (L.take k) x := ⟨_, rfl⟩
        rw [← hT] at ht hU hul
        obtain ⟨t2, ht2⟩ : ∃ t2 : ByteArray, t2 = ⟨x2.toArray⟩ := ⟨_, rfl⟩
        have ht2d : t2.data.toList = x2 := by rw [ht2]
        have HT2D : Hid (t2.data.toList = x2) := ht2d
        rw [hn', namedV, show strV x2 = .string t2 by rw [ht2]; rfl] at hroot
        have HU : Hid (Pl.under (L.take (k + 1)) x = Pl.addTry T (c2, x2)) := hU
        obtain ⟨at', capt, rfl, hcapt, _, _⟩ := row_shape ht
        clear hU hT hn' hq hqd hc ht2 ht2d
        by_cases hc2 : c2 = 0
        · have hd0 : (c2 == 0) = true := by simpa using hc2
          have hd0' : (c2 != 0) = false := by simpa using hc2
          have HA : Hid (x2 ∈ T → Pl.under (L.take (k + 1)) x = T) := fun h => by rw [HU.out]; unfold Pl.addTry; rw [if_pos hc2, if_pos h]
          have HA2 : Hid (x2 ∉ T → Pl.under (L.take (k + 1)) x = T ++ [x2]) := fun h => by rw [HU.out]; unfold Pl.addTry; rw [if_pos hc2, if_neg h]
          clear hc2
          go_wp2_with fail
          refine hroot.mono ?_
          rintro e w3 ⟨rfl, hb3'⟩
          have hz3 := hb3'.size
          have ht3 := (own_below ht hb3' (Nat.le_refl _)).alloc (.cells #[.int .i64 c2, .string t2] 118)
          have hB3 : Below W0.heap.size W0 (w3.alloc (.cells #[.int .i64 c2, .string t2] 118)) := (hB.trans (hb3'.mono hsz)).alloc (by omega) _
          have hxc : (w3.alloc (.cells #[.int .i64 c2, .string t2] 118)).cell? ⟨w3.heap.size, 1, none⟩ = some (.string t2) := by simp
          obtain ⟨_, _, hvt, _, _, hcellt⟩ := row_shape ht3
          cases hvt
          have HCT : Hid (∀ j, (hj : j < T.length) → ∃ g, at' = some ⟨g, 0, none⟩ ∧ W0.heap.size ≤ g ∧ g < (w3.alloc (.cells #[.int .i64 c2, .string t2] 118)).heap.size ∧ (w3.alloc (.cells #[.int .i64 c2, .string t2] 118)).cell? ⟨g, j, none⟩ = some (strV T[j])) := hcellt
          clear hcellt ht hB
          go_wp2
          obtain ⟨W3, hW3⟩ : ∃ W3, W3 = w3.alloc (.cells #[.int .i64 c2, .string t2] 118) := ⟨_, rfl⟩
          rw [← hW3] at HCT hxc ht3 hB3 ⊢
          clear hW3
          go_loop [13, 50] (fun m i => ∃ (j : Nat) (d : Bool), j ≤ T.length ∧ i = .int .i64 j ∧ m = .bool d ∧ Hid (d = decide (x2 ∈ T.take j))) (fun _ i => T.length - (intOf i).toNat)
          case atStart => exact ⟨0, false, Nat.zero_le _, rfl, rfl, by unfold Hid; simp⟩
          case round =>
            obtain ⟨j, d, hj, rfl, rfl, hd⟩ := hrel
            by_cases hjt : j < T.length
            · obtain ⟨g, rfl, _, _, hcg⟩ := HCT.out j hjt
              obtain ⟨y, hy⟩ : ∃ y : ByteArray, y = ⟨T[j].toArray⟩ := ⟨_, rfl⟩
              have hyd : y.data.toList = T[j] := by rw [hy]
              have hcy : W3.cell? ⟨g, j, none⟩ = some (.string y) := by rw [hcg, hy]; rfl
              have HS : Hid (decide (x2 ∈ T.take (j + 1)) = (d || (y.toList == t2.toList))) := by
                unfold Hid
                rw [hd.out, List.take_succ_eq_append_getElem hjt, Go.ByteArray.toList_eq, Go.ByteArray.toList_eq, hyd, HT2D.out, Bool.eq_iff_iff]
                simp only [decide_eq_true_eq, Bool.or_eq_true, beq_iff_eq, List.mem_append, List.mem_singleton]
                exact or_congr Iff.rfl eq_comm
              clear hcg hy hyd
              cases d with
              | true =>
                rw [Bool.true_or] at HS
                go_wp2
                go_round
                case rel => exact ⟨j + 1, true, by omega, by go_num, rfl, HS.out.symm⟩
                case measure => simp [intOf]; omega
              | false =>
                rw [Bool.false_or] at HS
                go_wp2
                go_round
                case rel => exact ⟨j + 1, _, by omega, by go_num, rfl, HS.out.symm⟩
                case measure => simp [intOf]; omega
            · have hd2 : d = decide (x2 ∈ T) := by rw [hd.out, List.take_of_length_le (by omega)]
              cases d with
              | true =>
                have HF : Hid (Pl.under (L.take (k + 1)) x = T) := HA.out (by simpa using hd2.symm)
                clear hd2 hd
                go_wp2
                go_roundw
                case rel => exact ⟨k + 1, by omega, by go_num, by rw [HF.out]; exact ht3, hB3⟩
                case measure => simp [intOf]; omega
              | false =>
                have HF : Hid (Pl.under (L.take (k + 1)) x = T ++ [x2]) := HA2.out (by simpa using hd2.symm)
                have HTX2 : Hid (Value.string t2 = strV x2) := by unfold Hid; rw [← strV_data, HT2D.out]
                have hz4 := hB3.size
                clear hd2 hd
                go_wp2_with (at_builtin; refine wpList_append_own _ rfl _ _ 22 rfl W0.heap.size 9 i9 (.string ByteArray.empty) 1 16 Tryz.underlying22 hi hz0 hz1 hz2 rfl (by decide) _ _ _ rfl (ht3.alloc _) ⟨_, 0, none⟩ 1 1 [.string t2] rfl rfl (cell_one_new _ _ _) (by simp [Value.oneCell']) (by unfold maxLen; omega) (by omega) (by simp; omega) ?_; intro v' w4 hown' hgrow _; have hb4 := below_append hB3 hz4 ht3 hgrow; have ho := row_snoc (p := x2) HTX2.out hown'; clear hown' hgrow)
                go_roundw
                case rel => exact ⟨k + 1, by omega, by go_num, by rw [HF.out]; exact ho, hb4⟩
                case measure => simp [intOf]; omega
        · have hd0 : (c2 == 0) = false := by simpa using hc2
          have hd0' : (c2 != 0) = true := by simpa using hc2
          have HF : Hid (Pl.under (L.take (k + 1)) x = T) := by unfold Hid; rw [HU.out]; unfold Pl.addTry; rw [if_neg hc2]
          clear hc2
          go_wp2_with fail
          refine hroot.mono ?_
          rintro e w3 ⟨rfl, hb3'⟩
          have hz3 := hb3'.size
          go_wp2
          go_roundw
          case rel => exact ⟨k + 1, by omega, by go_num, by rw [HF.out]; exact (own_below ht hb3' (Nat.le_refl _)).alloc _, (hB.trans (hb3'.mono hsz)).alloc (by omega) _⟩
          case measure => simp [intOf]; omega
      · have hkL : L.take k = L := List.take_of_length_le (by omega)
        rw [hkL] at ht
        clear hkL
        go_wp2
        go_ret
        exact ⟨_, rfl, own_mono ht hb3.size, hb3.trans (hB.mono hb3.size)⟩
  · rw [if_neg hc0]
    have hb0 : (c == 0) = false := by simpa using hc0
    have hb0' : (c != 0) = true := by simpa using hc0
    clear hc0
    go_enter Tryz.func47, Tryz.ntmps47
    go_wp2_with fail
    refine hrel.mono ?_
    rintro e w1 ⟨rfl, hb1⟩
    go_wp2_with fail
    refine (specClean_any s _ hs).mono ?_
    rw [HN.out]
    unfold namedV
    rw [HTX.out]
    rintro e w2 ⟨rfl, hb2⟩
    have hb12 : Below w.heap.size w w2 := hb1.trans (hb2.mono hb1.size)
    have hz := hb12.size
    go_wp2
    go_ret
    exact ⟨_, rfl, World.ownsRow_nil _ _ _ _, hb12.alloc hz _⟩

set_option maxHeartbeats 1000000 in
set_option maxRecDepth 100000 in
theorem specTries_any (vr : Value) (L : List (List UInt8)) (f s : ByteArray) (w : World) (hv : Strs w vr L) (hl : Pl.total L ≤ 1048576) (hf : f.size ≤ 1048576) (hs : s.size ≤ 1048576) :
    Calls Tryz.prog 47 #[vr, .string f, .string s] w fun e w' => ∃ v, e = .returned v ∧ w'.ownsRow w.heap.size 9 1 v (Pl.tries L f.data.toList s.data.toList).length ((Pl.tries L f.data.toList s.data.toList).map strV) ∧ Below w.heap.size w w' := by
  by_cases h8 : 8 < L.length
  · have hT : Pl.tries L f.data.toList s.data.toList = [] := by unfold Pl.tries; rw [if_pos h8]
    rw [hT]
    obtain ⟨a, cap, rfl, hcap, hmax, hcell⟩ := hv
    clear hT hcell
    go_enter Tryz.func47, Tryz.ntmps47
    go_wp2
    go_ret
    exact ⟨_, rfl, World.ownsRow_nil _ _ _ _, Below.refl _ _⟩
  · cases hnear : Pl.near s.data.toList with
    | true => exact specTries_near vr L f s w hv h8 hf hs hnear
    | false => exact specTries_far vr L f s w hv hl h8 hs hnear

end Go.Proofs.YtimgafblpmjajabGreat
namespace Go.Proofs.YtimgafblpmjajabGreat

open Go.RowKit

theorem tries_len (L : List (List UInt8)) (f s : List UInt8) : (Pl.tries L f s).length ≤ 1048576 := by
  unfold Pl.tries
  split
  · simp
  · rename_i h8
    split
    · split <;> simp
    · split
      · have h := under_len L (Pl.nm [] s).2 L.length (Nat.le_refl _)
        rw [List.take_of_length_le (Nat.le_refl _)] at h; omega
      · simp

theorem apart_of_lt {w w' : World} {b1 b2 : Nat} {e1 e2 : TypeId} {s1 s2 n1 n2 : Nat} {v1 v2 : Value} {x1 x2 : List Value} (h1 : w.ownsRow b1 e1 s1 v1 n1 x1) (h2 : w'.ownsRow b2 e2 s2 v2 n2 x2) (hle : w.heap.size ≤ b2) : Apart v2 v1 ∧ Apart v1 v2 := by
  have key : ∀ g, v1.ownBlock = some g → v2.ownBlock = some g → False := fun g e1 e2 => by
    have a1 := (h1.lt g e1).2
    have a2 := (h2.lt g e2).1
    omega
  constructor
  · cases hv : v1.ownBlock with
    | none => exact .inl hv
    | some g => exact .inr (fun e => key g hv (by rw [← e]; exact hv))
  · cases hv : v2.ownBlock with
    | none => exact .inl hv
    | some g => exact .inr (fun e => key g (by rw [← e]; exact hv) hv)

theorem own_drewN {w : World} {base : Nat} {e : TypeId} {size : Nat} {v : Value} {n : Nat} {xs : List Value} (h : w.ownsRow base e size v n xs) (m : Nat) : (w.drewN m).ownsRow base e size v n xs := h

end Go.Proofs.YtimgafblpmjajabGreat
