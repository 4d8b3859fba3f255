
import Derived.Test.YtimgafblpmjajabGreatWim

namespace Go.Proofs.YtimgafblpmjajabGreat

open Go.RowKit

theorem firstN_le (p : Nat → Bool) : ∀ f i, firstN p f i ≤ i + f
  | 0, i => by rw [firstN]; omega
  | f + 1, i => by
    rw [firstN]
    split
    · omega
    · have := firstN_le p f (i + 1); omega

set_option maxHeartbeats 8000000 in
set_option maxRecDepth 100000 in
theorem implWorldOk_any (v : Value) (D : Wd) (w : World) (h : Wds w v D) (hD : D.t ≤ 1048576) :
    Calls Tryz.prog 50 #[v] w fun e w' => e = .returned (wrongV (wok D)) ∧ Below w.heap.size w w' := by
  obtain ⟨vr, vm, vf, rfl, h1, h2, h3⟩ := h
  have hr1 : D.roots.length ≤ 1048576 := by have : D.roots.length ≤ Pl.total D.roots := by unfold Pl.total; omega
                                            unfold Wd.t at hD; omega
  have hm1 : D.mods.length ≤ 1048576 := by unfold Wd.t mdsT at hD; omega
  have hm2 : ∀ m ∈ D.mods, m.t ≤ 1048576 := fun m hm => by
    have h1 : m.t ≤ (D.mods.map Md.t).sum := mem_le_sum _ _ (List.mem_map.2 ⟨m, hm, rfl⟩)
    unfold Wd.t mdsT at hD; omega
  have hf1 : D.faults.length ≤ 1048576 := by unfold Wd.t at hD; omega
  obtain ⟨R, hR⟩ : ∃ R, R = wok D := ⟨_, rfl⟩
  rw [← hR]
  have HR : Hid (R = wok D) := hR
  clear hR
  obtain ⟨a1, k1, rfl⟩ := h1.slice
  obtain ⟨a2, k2, rfl⟩ := h2.slice
  obtain ⟨a3, k3, rfl⟩ := h3.slice
  obtain ⟨W, hW⟩ : ∃ W, W = (w.alloc (.cells #[.slice a1 D.roots.length k1, .slice a2 D.mods.length k2, .slice a3 D.faults.length k3] 32)).alloc (.cells #[.int .i64 0, .int .i64 0, .int .i64 0] 88) := ⟨_, rfl⟩
  have hWB : Below w.heap.size w W := by rw [hW]; exact below_alloc2 _ _
  have hWs : W.heap.size = w.heap.size + 2 := by rw [hW]; simp
  have hBx : Bx w.heap.size W (.slice a1 D.roots.length k1) (.slice a2 D.mods.length k2) (.slice a3 D.faults.length k3) := by
    rw [hW]; constructor <;> simp [go_sem]
  have HW : Hid (W = (w.alloc (.cells #[.slice a1 D.roots.length k1, .slice a2 D.mods.length k2, .slice a3 D.faults.length k3] 32)).alloc (.cells #[.int .i64 0, .int .i64 0, .int .i64 0] 88)) := hW
  have HM2 : Hid (∀ m ∈ D.mods, m.t ≤ 1048576) := hm2
  have H1 : Hid (Strs w (.slice a1 D.roots.length k1) D.roots) := h1
  have H2 : Hid (Mds w (.slice a2 D.mods.length k2) D.mods) := h2
  have H3 : Hid (Nums w (.slice a3 D.faults.length k3) D.faults) := h3
  clear hW hm2 h1 h2 h3 hD
  go_enter Tryz.func50, Tryz.ntmps50
  go_wp2_with fail
  rw [← HW.out]
  refine (hasTooMany_any _ _ _ _ _ _ _ _ _ _ hr1 hm1 hf1).mono ?_
  by_cases hbig : 60 < D.mods.length ∨ 8 < D.roots.length ∨ 400 < D.faults.length
  · have hR1 : R = (1, 0, 0) := by rw [HR.out, wok_1 hbig]
    subst hR1
    rw [decide_eq_true hbig]
    rintro e w1 ⟨rfl, hb1⟩
    have hB1 : Below (w.heap.size + 2) W w1 := hb1.mono (by omega)
    obtain ⟨p0, p1, p2, q0, q1, q2, f0, f1, f2⟩ := hBx.below hB1 (Nat.le_refl _)
    clear hbig hb1
    go_wp2
    exact bodyPost_ret (v := wrongV (1, 0, 0)) (by simp [results, Tryz.results50, go_sem, wrongV, *]) rfl ⟨rfl, below_ret hWB hB1 _ _ _⟩
  rw [decide_eq_false hbig]
  have HBIG : Hid (¬ (60 < D.mods.length ∨ 8 < D.roots.length ∨ 400 < D.faults.length)) := hbig
  clear hbig
  rintro e w1 ⟨rfl, hb1⟩
  have hB1 : Below (w.heap.size + 2) W w1 := hb1.mono (by omega)
  clear hb1
  obtain ⟨p0, p1, p2, q0, q1, q2, f0, f1, f2⟩ := hBx.below hB1 (Nat.le_refl _)
  go_wp2_with fail
  refine (containsFunc_any _ D.roots w1 (H1.out.below (hWB.trans (hB1.mono (by omega))) (Nat.le_refl _)) hr1).mono ?_
  obtain ⟨rt, hrt⟩ : ∃ rt, D.roots.any oddRoot = rt := ⟨_, rfl⟩
  rw [hrt]
  have HRT : Hid (D.roots.any oddRoot = rt) := hrt
  clear hrt p0 p1 p2 q0 q1 q2 f0 f1 f2
  rintro e w2 ⟨rfl, hb2⟩
  have hB2 : Below (w.heap.size + 2) W w2 := hB1.trans (hb2.mono (by have := hB1.size; omega))
  clear hb2 hB1
  obtain ⟨p0, p1, p2, q0, q1, q2, f0, f1, f2⟩ := hBx.below hB2 (Nat.le_refl _)
  cases rt with
  | true =>
    have hR2 : R = (2, 0, 0) := by rw [HR.out, wok_2 HBIG.out HRT.out]
    subst hR2
    go_wp2
    exact bodyPost_ret (v := wrongV (2, 0, 0)) (by simp [results, Tryz.results50, go_sem, wrongV, *]) rfl ⟨rfl, below_ret hWB hB2 _ _ _⟩
  | false =>
    go_wp2_with fail
    refine (areReadings_any _ D.faults w2 (H3.out.below (hWB.trans (hB2.mono (by omega))) (Nat.le_refl _)) hf1).mono ?_
    obtain ⟨fa, hfa⟩ : ∃ fa, asc (-1) D.faults = fa := ⟨_, rfl⟩
    rw [hfa]
    have HFA : Hid (asc (-1) D.faults = fa) := hfa
    clear hfa
    rintro e w3 ⟨rfl, rfl⟩
    cases fa with
    | false =>
      have hR3 : R = (3, 0, 0) := by rw [HR.out, wok_3 HBIG.out HRT.out HFA.out]
      subst hR3
      go_wp2
      exact bodyPost_ret (v := wrongV (3, 0, 0)) (by simp [results, Tryz.results50, go_sem, wrongV, *]) rfl ⟨rfl, below_ret hWB hB2 _ _ _⟩
    | true =>
      go_wp2_with fail
      refine (shelve_any _ D.mods _ (H2.out.below (hWB.trans (hB2.mono (by omega))) (Nat.le_refl _)) hm1 HM2.out).mono ?_
      obtain ⟨sv, hsv⟩ : ∃ sv, firstN (badMd D.mods) D.mods.length 0 = sv := ⟨_, rfl⟩
      rw [hsv]
      have HSV : Hid (firstN (badMd D.mods) D.mods.length 0 = sv) := hsv
      clear hsv p0 p1 p2 q0 q1 q2 f0 f1 f2
      rintro e w4 ⟨mv, rfl, hb4⟩
      have hB4 : Below (w.heap.size + 2) W w4 := hB2.trans (hb4.mono (by have := hB2.size; omega))
      clear hb4 hB2
      obtain ⟨p0, p1, p2, q0, q1, q2, f0, f1, f2⟩ := hBx.below hB4 (Nat.le_refl _)
      by_cases hsl : sv < D.mods.length
      · have hR4 : R = (4, (sv : Int), 0) := by rw [HR.out, wok_4 HBIG.out HRT.out HFA.out hsl HSV.out]
        subst hR4
        go_wp2
        exact bodyPost_ret (v := wrongV (4, (sv : Int), 0)) (by simp [results, Tryz.results50, go_sem, wrongV, *]) rfl ⟨rfl, below_ret hWB hB4 _ _ _⟩
      · have hsl' : sv = D.mods.length := by have := firstN_le (badMd D.mods) D.mods.length 0; rw [HSV.out] at this; omega
        have HR5 : Hid (∀ k, (hk : k < D.mods.length) → firstN (badLns D.mods) D.mods.length 0 = k → R = (5, (k : Int), ((firstN (badLn D.mods[k].lines) D.mods[k].lines.length 0 : Nat) : Int))) := fun k hk h => by rw [HR.out, wok_5 HBIG.out HRT.out HFA.out (HSV.out.trans hsl') hk h]
        have HR6 : Hid (firstN (badLns D.mods) D.mods.length 0 = D.mods.length → R = (0, 0, 0)) := fun h => by rw [HR.out, wok_0 HBIG.out HRT.out HFA.out (HSV.out.trans hsl') h]
        clear hsl'
        obtain ⟨_, _, _, _, _, hc2⟩ := H2.out
        rename_i a2' cap2' hv2' _ _
        have HC2 : Hid (∀ k, (hk : k < D.mods.length) → ∃ b o s, a2 = some ⟨b, o, none⟩ ∧ b < w.heap.size ∧
          w.cell? ⟨b, o + k * 2, none⟩ = some (strV D.mods[k].name) ∧ w.cell? ⟨b, o + k * 2 + 1, none⟩ = some s ∧ Lns w s D.mods[k].lines) := fun k hk => by
            obtain ⟨b, o, s, ha, r⟩ := hc2 k hk
            injection hv2' with e1 e2 e3
            exact ⟨b, o, s, e1.trans ha, r⟩
        clear hc2 hv2'
        go_wp2
        go_loopw [39] (fun i wr => ∃ k : Nat, k ≤ D.mods.length ∧ i = .int .i64 k ∧ (∀ j, j < k → badLns D.mods j = false) ∧ Below (w.heap.size + 2) W wr) (fun i _ => D.mods.length - (intOf i).toNat)
        case atStart => exact ⟨0, Nat.zero_le _, rfl, fun j h => absurd h (by omega), hB4⟩
        case round =>
          obtain ⟨k, hk, rfl, hbad, hB8⟩ := hrel
          have HBAD : Hid (∀ j, j < k → badLns D.mods j = false) := hbad
          clear hbad hB4 p0 p1 p2 q0 q1 q2 f0 f1 f2
          rename World => w8
          have hBr8 : w.heap.size + 2 ≤ w8.heap.size := by have := hB8.size; omega
          obtain ⟨p0, p1, p2, q0, q1, q2, f0, f1, f2⟩ := hBx.below hB8 (Nat.le_refl _)
          by_cases hlt : k < D.mods.length
          · obtain ⟨b, o, s, rfl, hb, h0, h1, h2⟩ := HC2.out k hlt
            obtain ⟨hs1, hs2, hs3⟩ := Md.small (HM2.out _ (List.getElem_mem hlt))
            obtain ⟨asl, cs, rfl⟩ := h2.slice
            obtain ⟨ns, hns⟩ : ∃ ns : ByteArray, ns.data.toList = D.mods[k].name := ⟨⟨D.mods[k].name.toArray⟩, by simp⟩
            have hnv : strV D.mods[k].name = .string ns := by rw [← hns, strV_data]
            rw [hnv] at h0
            have c0 := (hB8.cell (p := ⟨b, o + k * 2, none⟩) (by simp only []; omega)).trans ((hWB.cell (p := ⟨b, o + k * 2, none⟩) hb).trans h0)
            have c1 := (hB8.cell (p := ⟨b, o + k * 2 + 1, none⟩) (by simp only []; omega)).trans ((hWB.cell (p := ⟨b, o + k * 2 + 1, none⟩) hb).trans h1)
            have hln : Lns (w8.alloc (Obj.cells #[Value.string ns, Value.slice asl D.mods[k].lines.length cs] 49)) (.slice asl D.mods[k].lines.length cs) D.mods[k].lines :=
              h2.below ((hWB.trans (hB8.mono (by omega))).alloc (by omega) _) (Nat.le_refl _)
            have hfo := firstOddLine_any _ D.mods[k].lines _ hln hs2 hs3
            have HBK : Hid (badLns D.mods k = decide (firstN (badLn D.mods[k].lines) D.mods[k].lines.length 0 < D.mods[k].lines.length)) := badLns_at hlt
            obtain ⟨N, hN⟩ : ∃ N, N = D.mods[k].lines.length := ⟨_, rfl⟩
            obtain ⟨q, hq⟩ : ∃ q, q = firstN (badLn D.mods[k].lines) D.mods[k].lines.length 0 := ⟨_, rfl⟩
            have hqn : q ≤ N := by rw [hq, hN]; have := firstN_le (badLn D.mods[k].lines) D.mods[k].lines.length 0; omega
            rw [← hq] at hfo HBK
            rw [← hN] at hfo HBK c1 hs2
            have HQ : Hid (q = firstN (badLn D.mods[k].lines) D.mods[k].lines.length 0) := hq
            have HFO : Hid (Calls Tryz.prog 72 #[.slice asl N cs] (w8.alloc (Obj.cells #[Value.string ns, Value.slice asl N cs] 49)) fun e w' => e = .returned (.int .i64 (q : Nat)) ∧ Below (w8.alloc (Obj.cells #[Value.string ns, Value.slice asl N cs] 49)).heap.size (w8.alloc (Obj.cells #[Value.string ns, Value.slice asl N cs] 49)) w') := hfo
            clear h0 h1 h2 hs3 hs1 hns hnv hN hq hln hfo
            go_wp2_with fail
            refine HFO.out.mono ?_
            rintro e w9 ⟨rfl, hb9⟩
            have m1 : w9.cell? ⟨w8.heap.size, 1, none⟩ = some (.slice asl N cs) := below_cell0 hb9 (by simp) (by simp [go_sem])
            have hB9 : Below (w.heap.size + 2) W w9 := (hB8.alloc hBr8 _).trans (hb9.mono (by simp; omega))
            clear hb9 p0 p1 p2 q0 q1 q2 f0 f1 f2 c0 c1
            obtain ⟨p0, p1, p2, q0, q1, q2, f0, f1, f2⟩ := hBx.below hB9 (Nat.le_refl _)
            by_cases hqN : q < N
            · have hR5 : R = (5, (k : Int), (q : Int)) := by
                rw [HR5.out k hlt (firstN_hit hlt HBAD.out (by rw [HBK.out]; simpa using hqN)), ← HQ.out]
              subst hR5
              go_wp2
              exact bodyPost_ret (v := wrongV (5, (k : Int), (q : Int))) (by simp [results, Tryz.results50, go_sem, wrongV, *]) rfl ⟨rfl, below_ret hWB hB9 _ _ _⟩
            · have HGOOD : Hid (badLns D.mods k = false) := by unfold Hid; rw [HBK.out]; simpa using hqN
              go_wp2
              go_roundw
              case rel => exact ⟨k + 1, by omega, by go_num, fun j hjk => by
                by_cases hjk' : j = k
                · subst hjk'; exact HGOOD.out
                · exact HBAD.out j (by omega), hB9⟩
              case measure => simp [intOf]; omega
          · have hR0 : R = (0, 0, 0) := HR6.out (firstN_none (fun j hj => HBAD.out j (by omega)))
            subst hR0
            go_wp2
            exact bodyPost_ret (v := wrongV (0, 0, 0)) (by simp [results, Tryz.results50, go_sem, wrongV, *]) rfl ⟨rfl, below_ret hWB hB8 _ _ _⟩
end Go.Proofs.YtimgafblpmjajabGreat
