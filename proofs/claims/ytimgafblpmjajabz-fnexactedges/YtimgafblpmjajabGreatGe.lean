
import Derived.Test.YtimgafblpmjajabGreatPc

import Derived.Maps.AppendAt

namespace Go.Proofs.YtimgafblpmjajabGreat

open Go.RowKit

theorem Wds.agg' {w : World} {v : Value} {D : Wd} (h : Wds w v D) : ∃ a1 a2 a3 k1 k2 k3, v = .agg #[.slice a1 D.roots.length k1, .slice a2 D.mods.length k2, .slice a3 D.faults.length k3] := by
  obtain ⟨r, m, f, rfl, h1, h2, h3⟩ := h
  obtain ⟨a1, k1, rfl⟩ := h1.slice
  obtain ⟨a2, k2, rfl⟩ := h2.slice
  obtain ⟨a3, k3, rfl⟩ := h3.slice
  exact ⟨a1, a2, a3, k1, k2, k3, rfl⟩
theorem cells3 (w : World) (u0 u1 u2 : Value) (t : TypeId) : (w.alloc (.cells #[u0, u1, u2] t)).cell? ⟨w.heap.size, 0, none⟩ = some u0 ∧ (w.alloc (.cells #[u0, u1, u2] t)).cell? ⟨w.heap.size, 1, none⟩ = some u1 ∧ (w.alloc (.cells #[u0, u1, u2] t)).cell? ⟨w.heap.size, 2, none⟩ = some u2 := by
  simp [go_sem]

set_option maxHeartbeats 4000000 in
set_option maxRecDepth 100000 in
theorem l4to_any (v : Value) (D : Wd) (f n : ByteArray) (w : World) (h : Wds w v D) (hD : D.t ≤ 1048576) (hf : f.size ≤ 1048576) (hn : n.size ≤ 1048576) :
    Calls Tryz.prog 26 #[v, .string f, .string n] w fun e w' => e = .returned (.int .i64 (toOf D f.data.toList n.data.toList)) ∧ Below w.heap.size w w' := by
  obtain ⟨a1, a2, a3, k1, k2, k3, rfl⟩ := h.agg'
  obtain ⟨W, hW⟩ : ∃ W, W = w.alloc (.cells #[.slice a1 D.roots.length k1, .slice a2 D.mods.length k2, .slice a3 D.faults.length k3] 32) := ⟨_, rfl⟩
  have hWB : Below w.heap.size w W := by rw [hW]; exact (Below.refl _ _).alloc (Nat.le_refl _) _
  have hWs : W.heap.size = w.heap.size + 1 := by rw [hW]; simp
  have hc3 := cells3 w (.slice a1 D.roots.length k1) (.slice a2 D.mods.length k2) (.slice a3 D.faults.length k3) 32
  rw [← hW] at hc3
  have hWd := h.below hWB (Nat.le_refl _)
  have HWD : Hid (Wds W (.agg #[.slice a1 D.roots.length k1, .slice a2 D.mods.length k2, .slice a3 D.faults.length k3]) D) := hWd
  have hroots : Strs W (.slice a1 D.roots.length k1) D.roots := by
    obtain ⟨r, m, f, hv, h1, h2, h3⟩ := hWd
    have : r = .slice a1 D.roots.length k1 := by simp at hv; exact hv.1.symm
    rw [← this]; exact h1
  have hml : D.mods.length ≤ 1048576 := by unfold Wd.t mdsT at hD; omega
  have hrt : Pl.total D.roots ≤ 1048576 := by unfold Wd.t at hD; omega
  have htr := specTries_any _ D.roots f n W hroots hrt hf hn
  obtain ⟨R, hR⟩ : ∃ R, R = toOf D f.data.toList n.data.toList := ⟨_, rfl⟩
  have hT8 := Pl.tries_len D.roots f.data.toList n.data.toList
  rw [← hR]
  unfold toOf at hR
  obtain ⟨T, hT⟩ : ∃ T, T = Pl.tries D.roots f.data.toList n.data.toList := ⟨_, rfl⟩
  rw [← hT] at htr hT8 hR
  have HR : Hid (R = thereT D T) := hR
  have HW : Hid (W = w.alloc (.cells #[.slice a1 D.roots.length k1, .slice a2 D.mods.length k2, .slice a3 D.faults.length k3] 32)) := hW
  have HT60 : Hid (∀ (x : ByteArray) (V : World), Wds V (.agg #[.slice a1 D.roots.length k1, .slice a2 D.mods.length k2, .slice a3 D.faults.length k3]) D → Calls Tryz.prog 48 #[.agg #[.slice a1 D.roots.length k1, .slice a2 D.mods.length k2, .slice a3 D.faults.length k3], .string x] V fun e w' => e = .returned (.int .i64 (sIdx (D.idx x.data.toList) D.mods.length)) ∧ Below V.heap.size V w') := fun x V hV => l2find_any _ D x V hV hml
  clear hW h hWd hroots hR hT hD hrt
  go_enter Tryz.func26, Tryz.ntmps26
  go_wp2_with fail
  rw [← HW.out]
  refine htr.mono ?_
  rintro e w1 ⟨vt, rfl, hr, hb1⟩
  obtain ⟨at', capt, rfl, hcapt, hmx, hcell⟩ := row_shape hr
  have HC : Hid (∀ k, (hk : k < T.length) → ∃ g, at' = some ⟨g, 0, none⟩ ∧ W.heap.size ≤ g ∧ g < w1.heap.size ∧ w1.cell? ⟨g, k, none⟩ = some (strV T[k])) := hcell
  clear hcell hr hmx htr
  go_wp2
  go_loopw [16] (fun i wr => ∃ k : Nat, k ≤ T.length ∧ i = .int .i64 k ∧ Hid (∀ j (hj : j < T.length), j < k → ¬ D.idx T[j] < D.mods.length) ∧ Below w1.heap.size w1 wr) (fun i _ => T.length - (intOf i).toNat)
  case atStart => exact ⟨0, Nat.zero_le _, rfl, fun j _ h => absurd h (by omega), Below.refl _ _⟩
  case round =>
    obtain ⟨k, hk, rfl, hno, hB⟩ := hrel
    have hBW : Below W.heap.size W wr := hb1.trans (hB.mono hb1.size)
    by_cases hlt : k < T.length
    · obtain ⟨g, rfl, hg0, hg, hc⟩ := HC.out k hlt
      obtain ⟨q, hq⟩ : ∃ q : ByteArray, q.data.toList = T[k] := ⟨⟨T[k].toArray⟩, by simp⟩
      have hcq : wr.cell? ⟨g, k, none⟩ = some (.string q) := by rw [hB.cell (p := ⟨g, k, none⟩) hg, hc, ← hq, strV_data]
      have x0 := below_cell0 hBW (by omega) hc3.1
      have x1 := below_cell0 hBW (by omega) hc3.2.1
      have x2 := below_cell0 hBW (by omega) hc3.2.2
      have hcall := HT60.out q wr (HWD.out.below hBW (Nat.le_refl _))
      rw [hq] at hcall
      by_cases hin : D.idx T[k] < D.mods.length
      · have hsx : sIdx (D.idx T[k]) D.mods.length = (D.idx T[k] : Int) := by rw [sIdx, if_pos hin]
        rw [hsx] at hcall
        have HE : Hid (R = (D.idx T[k] : Int)) := by
          unfold Hid
          rw [HR.out, thereT_miss D T k hno.out, List.drop_eq_getElem_cons hlt, thereT, if_pos hin]
        obtain ⟨ix, hix⟩ : ∃ ix, ix = D.idx T[k] := ⟨_, rfl⟩
        rw [← hix] at hcall HE
        clear hc hq hsx hin hix
        go_wp2_with fail
        refine hcall.mono ?_
        rintro e w2 ⟨rfl, hb2⟩
        go_wp2
        go_ret
        exact ⟨ret_int HE.out.symm, hWB.trans ((hBW.trans (hb2.mono hBW.size)).mono hWB.size)⟩
      · have hsx : sIdx (D.idx T[k]) D.mods.length = -1 := by rw [sIdx, if_neg hin]
        rw [hsx] at hcall
        have HE : Hid (∀ j (hj : j < T.length), j < k + 1 → ¬ D.idx T[j] < D.mods.length) := fun j hj hjk => by
          by_cases hjk' : j = k
          · subst hjk'; exact hin
          · exact hno.out j hj (by omega)
        clear hc hq hsx hin
        go_wp2_with fail
        refine hcall.mono ?_
        rintro e w2 ⟨rfl, hb2⟩
        go_wp2
        go_roundw
        case rel => exact ⟨k + 1, by omega, by go_num, HE, hB.trans (hb2.mono hB.size)⟩
        case measure => simp [intOf]; omega
    · have HE : Hid (R = -1) := by
        unfold Hid
        rw [HR.out, thereT_miss D T k hno.out, List.drop_of_length_le (by omega)]; rfl
      go_wp2
      go_ret
      exact ⟨ret_int HE.out.symm, hWB.trans (hBW.mono hWB.size)⟩
end Go.Proofs.YtimgafblpmjajabGreat
