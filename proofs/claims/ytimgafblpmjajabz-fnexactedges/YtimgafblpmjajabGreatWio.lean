
import Derived.Test.YtimgafblpmjajabGreatWil

import Derived.Deep.RegionWith

import Derived.Deep.RegionHeld3

namespace Go.Proofs.YtimgafblpmjajabGreat

open Go.RowKit

theorem keep4 {B n : Nat} {W W' : World} {u0 u1 u2 u3 : Value} (hb : Below B W W') (hz : n < B) (m0 : W.cell? ⟨n, 0, none⟩ = some u0) (m1 : W.cell? ⟨n, 1, none⟩ = some u1) (m2 : W.cell? ⟨n, 2, none⟩ = some u2) (m3 : W.cell? ⟨n, 3, none⟩ = some u3) :
    W'.cell? ⟨n, 0, none⟩ = some u0 ∧ W'.cell? ⟨n, 1, none⟩ = some u1 ∧ W'.cell? ⟨n, 2, none⟩ = some u2 ∧ W'.cell? ⟨n, 3, none⟩ = some u3 ∧ W.heap.size ≤ W'.heap.size :=
  ⟨below_cell0 hb hz m0, below_cell0 hb hz m1, below_cell0 hb hz m2, below_cell0 hb hz m3, hb.size⟩

set_option maxRecDepth 100000 in
theorem step_ex (op num skip : Int) (s : ByteArray) (name : List UInt8) (hs : s.data.toList = name) (hop : 1 ≤ op ∧ op ≤ 7) :
    ∃ (T : TypeId) (P : Value) (fid : FuncId) (sA : ByteArray) (nA kA : Int), stepV op s num skip = .iface T P ∧ (∀ W : World, (method 315 T P "loop.example/bobbin/impl.line").run Tryz.prog W = .ok (fid, P) W) ∧ (∀ W : World, (callFunc fid #[P]).run Tryz.prog W = .ok (.enter fid #[P]) W) ∧
      (∀ W : World, Calls Tryz.prog fid #[P] W fun e w' => e = .returned (.agg #[.int .i64 op, .string sA, .int .i64 nA, .int .i64 kA]) ∧ Below W.heap.size W w') ∧
      ∀ (N k : Nat), okLn N k ⟨op, name, num, skip⟩ = (fitB op s skip ((N : Int) - k - 1) && ((sA.toList == s.toList) && ((nA == num) && (kA == skip)))) := by
  by_cases h1 : op = 1
  · subst h1
    refine ⟨133, .agg #[.int .i64 num], 140, ⟨#[]⟩, num, 0, rfl, fun _ => by kernel_rfl, fun _ => by kernel_rfl, line116_any num, fun N k => ?_⟩
    simp (config := { decide := true }) only [okLn, fitB, if_true, if_false]
    rw [str_beq (s := ⟨#[]⟩) (a := []) rfl hs]
    rw [Bool.eq_iff_iff]; simp; try omega
  by_cases h2 : op = 2
  · subst h2
    refine ⟨134, .agg #[.int .i64 num], 141, ⟨#[]⟩, num, 0, rfl, fun _ => by kernel_rfl, fun _ => by kernel_rfl, line117_any num, fun N k => ?_⟩
    simp (config := { decide := true }) only [okLn, fitB, if_true, if_false]
    rw [str_beq (s := ⟨#[]⟩) (a := []) rfl hs]
    rw [Bool.eq_iff_iff]; simp; try omega
  by_cases h3 : op = 3
  · subst h3
    refine ⟨130, .agg #[.string s], 138, s, 0, 0, rfl, fun _ => by kernel_rfl, fun _ => by kernel_rfl, line118_any s, fun N k => ?_⟩
    simp (config := { decide := true }) only [okLn, fitB, if_true, if_false]
    rw [size_data, hs]
    rw [Bool.eq_iff_iff]; simp; try omega
  by_cases h4 : op = 4
  · subst h4
    refine ⟨131, .agg #[.string s], 139, s, 0, 0, rfl, fun _ => by kernel_rfl, fun _ => by kernel_rfl, line119_any s, fun N k => ?_⟩
    simp (config := { decide := true }) only [okLn, fitB, if_true, if_false]
    rw [size_data, hs]
    rw [Bool.eq_iff_iff]; simp; try omega
  by_cases h5 : op = 5
  · subst h5
    refine ⟨135, .agg #[.string s], 142, s, 0, 0, rfl, fun _ => by kernel_rfl, fun _ => by kernel_rfl, line120_any s, fun N k => ?_⟩
    simp (config := { decide := true }) only [okLn, fitB, if_true, if_false]
    rw [size_data, hs]
    rw [Bool.eq_iff_iff]; simp; try omega
  by_cases h6 : op = 6
  · subst h6
    refine ⟨136, .agg #[.int .i64 num], 143, ⟨#[]⟩, num, 0, rfl, fun _ => by kernel_rfl, fun _ => by kernel_rfl, line121_any num, fun N k => ?_⟩
    simp (config := { decide := true }) only [okLn, fitB, if_true, if_false]
    rw [str_beq (s := ⟨#[]⟩) (a := []) rfl hs]
    rw [Bool.eq_iff_iff]; simp; try omega
  by_cases h7 : op = 7
  · subst h7
    refine ⟨138, .agg #[.string s, .int .i64 skip], 144, s, 0, skip, rfl, fun _ => by kernel_rfl, fun _ => by kernel_rfl, line122_any s skip, fun N k => ?_⟩
    simp (config := { decide := true }) only [okLn, fitB, if_true, if_false]
    rw [size_data, hs]
    rw [Bool.eq_iff_iff]; simp; try omega
  omega
theorem step_no (op num skip : Int) (s : ByteArray) (name : List UInt8) (N k : Nat) (b : Int) (hop : ¬ (1 ≤ op ∧ op ≤ 7)) : okLn N k ⟨op, name, num, skip⟩ = false ∧ fitB op s skip b = false := by
  constructor
  · rw [okLn, if_neg (by simp only []; omega), if_neg (by simp only []; omega), if_neg (by simp only []; omega)]
  · rw [fitB, if_neg (by omega), if_neg (by omega), if_neg (by omega)]

set_option maxRecDepth 100000 in
set_option maxHeartbeats 8000000 in
theorem firstOddLine_any (v : Value) (L : List Ln) (w : World) (h : Lns w v L) (hL : L.length ≤ 1048576) (hLL : ∀ l ∈ L, l.name.length ≤ 1048576) :
    Calls Tryz.prog 72 #[v] w fun e w' => e = .returned (.int .i64 (firstN (badLn L) L.length 0 : Nat)) ∧ Below w.heap.size w w' := by
  obtain ⟨a, cap, rfl, hcap, hmax, hc⟩ := h
  have HC : Hid (∀ k, (hk : k < L.length) → ∃ b o, a = some ⟨b, o, none⟩ ∧ b < w.heap.size ∧
    w.cell? ⟨b, o + k * 4, none⟩ = some (.int .i64 L[k].op) ∧ w.cell? ⟨b, o + k * 4 + 1, none⟩ = some (strV L[k].name) ∧ w.cell? ⟨b, o + k * 4 + 2, none⟩ = some (.int .i64 L[k].num) ∧ w.cell? ⟨b, o + k * 4 + 3, none⟩ = some (.int .i64 L[k].skip)) := hc
  have HLL : Hid (∀ l ∈ L, l.name.length ≤ 1048576) := hLL
  clear hc hmax hLL
  go_enter Tryz.func72, Tryz.ntmps72
  go_wp2
  go_loopw [9] (fun i wr => ∃ k : Nat, k ≤ L.length ∧ i = .int .i64 k ∧ (∀ j, j < k → badLn L j = false) ∧ Below w.heap.size w wr) (fun i _ => L.length - (intOf i).toNat)
  case atStart => exact ⟨0, Nat.zero_le _, rfl, fun j h => absurd h (by omega), Below.refl _ _⟩
  case round =>
    obtain ⟨k, hk, rfl, hbad, hB⟩ := hrel
    have HBAD : Hid (∀ j, j < k → badLn L j = false) := hbad
    clear hbad
    by_cases hlt : k < L.length
    · obtain ⟨b, o, rfl, hb, h0, h1, h2, h3⟩ := HC.out k hlt
      have c0 := (hB.cell (p := ⟨b, o + k * 4, none⟩) hb).trans h0
      have c1 := (hB.cell (p := ⟨b, o + k * 4 + 1, none⟩) hb).trans h1
      have c2 := (hB.cell (p := ⟨b, o + k * 4 + 2, none⟩) hb).trans h2
      have c3 := (hB.cell (p := ⟨b, o + k * 4 + 3, none⟩) hb).trans h3
      have hsz := HLL.out _ (List.getElem_mem hlt)
      have hbl := badLn_at hlt
      obtain ⟨l, hl⟩ : ∃ l, l = L[k] := ⟨_, rfl⟩
      rw [← hl] at c0 c1 c2 c3 hsz hbl
      obtain ⟨op, name, num, skip⟩ := l
      simp only [] at c0 c1 c2 c3 hsz
      obtain ⟨s, hs⟩ : ∃ s : ByteArray, s.data.toList = name := ⟨⟨name.toArray⟩, by simp⟩
      have hsv : strV name = .string s := by rw [← hs, strV_data]
      rw [hsv] at c1
      rw [← hs, ← size_data] at hsz
      have HBL : Hid (badLn L k = !okLn L.length k ⟨op, name, num, skip⟩) := hbl
      have HS : Hid (s.data.toList = name) := hs
      have HF : Hid (∀ (bb : Int) W, Calls Tryz.prog 88 #[stepV op s num skip, .int .i64 bb] W fun e w' => e = .returned (.bool (fitB op s skip bb)) ∧ Below W.heap.size W w') := fun bb W => fits_any op num skip bb s W hsz
      clear h0 h1 h2 h3 hbl hl hs hsv
      go_wp2_with fail
      refine (stepOf_any op num skip s _).mono ?_
      rintro e w1 ⟨rfl, hb1⟩
      have m0 : w1.cell? ⟨wr.heap.size, 0, none⟩ = some (.int .i64 op) := below_cell0 hb1 (by simp) (by simp [go_sem])
      have m1 : w1.cell? ⟨wr.heap.size, 1, none⟩ = some (.string s) := below_cell0 hb1 (by simp) (by simp [go_sem])
      have m2 : w1.cell? ⟨wr.heap.size, 2, none⟩ = some (.int .i64 num) := below_cell0 hb1 (by simp) (by simp [go_sem])
      have m3 : w1.cell? ⟨wr.heap.size, 3, none⟩ = some (.int .i64 skip) := below_cell0 hb1 (by simp) (by simp [go_sem])
      have hB1 : Below w.heap.size w w1 := (hB.alloc hB.size _).trans (hb1.mono (by have := hB.size; simp; omega))
      have hz1 : wr.heap.size < w1.heap.size := by have := hb1.size; simp at this; omega
      clear c0 c1 c2 c3 hb1
      obtain ⟨f, hf⟩ : ∃ f, f = fitB op s skip ((L.length : Int) - k - 1) := ⟨_, rfl⟩
      have HF1 : Hid (∀ W, Calls Tryz.prog 88 #[stepV op s num skip, .int .i64 ((L.length : Int) - k - 1)] W fun e w' => e = .returned (.bool f) ∧ Below W.heap.size W w') := fun W => by rw [hf]; exact HF.out _ W
      have HFF : Hid (f = fitB op s skip ((L.length : Int) - k - 1)) := hf
      clear hf
      cases f with
      | false =>
        have HODD : Hid (badLn L k = true) := by
          unfold Hid
          rw [HBL.out]
          by_cases hop : 1 ≤ op ∧ op ≤ 7
          · obtain ⟨T, P, fid, sA, nA, kA, _, _, _, _, hok⟩ := step_ex op num skip s name HS.out hop
            rw [hok, ← HFF.out]; rfl
          · rw [(step_no op num skip s name L.length k 0 hop).1]; rfl
        obtain ⟨V, hV⟩ : ∃ V, V = stepV op s num skip := ⟨_, rfl⟩
        rw [← hV] at HF1 ⊢
        clear hV
        go_wp2
        first | (go_region_with (first | (go_at_call 88; refine (HF1.out _).mono ?_; rintro e w2 ⟨rfl, hb2⟩; obtain ⟨x0, x1, x2, x3, xz⟩ := keep4 (W := w1.drew) hb2 hz1 m0 m1 m2 m3))) | fail
        all_goals
          go_wp2
          go_ret
          exact ⟨ret_int (by rw [firstN_hit hlt HBAD.out HODD.out]), hB1.drew.trans (hb2.mono hB1.size)⟩
      | true =>
        have hop : 1 ≤ op ∧ op ≤ 7 := by
          by_cases hop : 1 ≤ op ∧ op ≤ 7
          · exact hop
          · have := (step_no op num skip s name L.length k ((L.length : Int) - k - 1) hop).2
            rw [← HFF.out] at this; cases this
        obtain ⟨T, P, fid, sA, nA, kA, hst, hm, hcf, hln, hok⟩ := step_ex op num skip s name HS.out hop
        rw [hst] at HF1 ⊢
        have HLN : Hid (∀ W : World, Calls Tryz.prog fid #[P] W fun e w' => e = .returned (.agg #[.int .i64 op, .string sA, .int .i64 nA, .int .i64 kA]) ∧ Below W.heap.size W w') := hln
        have HOK : Hid (badLn L k = !((sA.toList == s.toList) && ((nA == num) && (kA == skip)))) := by unfold Hid; rw [HBL.out, hok, ← HFF.out, Bool.true_and]
        clear hst hln hok hop
        by_cases q1 : (sA.toList == s.toList) = true
        · by_cases q2 : nA = num
          · by_cases q3 : kA = skip
            · have HGOOD : Hid (badLn L k = false) := by unfold Hid; rw [HOK.out, q1, q2, q3]; simp
              subst q2 q3
              go_wp2
              go_region_with (first | (go_at_call 88; refine (HF1.out _).mono ?_; rintro e w2 ⟨rfl, hb2⟩; obtain ⟨x0, x1, x2, x3, xz⟩ := keep4 (W := w1.drew) hb2 hz1 m0 m1 m2 m3) | (refine (HLN.out _).mono ?_; rintro e w3 ⟨rfl, hb3⟩; obtain ⟨y0, y1, y2, y3, yz⟩ := keep4 hb3 (Nat.lt_of_lt_of_le hz1 xz) x0 x1 x2 x3))
              all_goals
                go_wp2
                go_roundw
                case rel => exact ⟨k + 1, by omega, by go_num, fun j hjk => by
                  by_cases hjk' : j = k
                  · subst hjk'; exact HGOOD.out
                  · exact HBAD.out j (by omega), hB1.drew.trans ((hb2.trans (hb3.mono hb2.size)).mono hB1.size)⟩
                case measure => simp [intOf]; omega
            · have q3' : (kA == skip) = false := by simpa using q3
              have HODD : Hid (badLn L k = true) := by unfold Hid; rw [HOK.out]; rw [q3']; simp
              go_wp2
              go_region_with (first | (go_at_call 88; refine (HF1.out _).mono ?_; rintro e w2 ⟨rfl, hb2⟩; obtain ⟨x0, x1, x2, x3, xz⟩ := keep4 (W := w1.drew) hb2 hz1 m0 m1 m2 m3) | (refine (HLN.out _).mono ?_; rintro e w3 ⟨rfl, hb3⟩; obtain ⟨y0, y1, y2, y3, yz⟩ := keep4 hb3 (Nat.lt_of_lt_of_le hz1 xz) x0 x1 x2 x3))
              all_goals
                go_wp2
                go_ret
                exact ⟨ret_int (by rw [firstN_hit hlt HBAD.out HODD.out]), hB1.drew.trans ((hb2.trans (hb3.mono hb2.size)).mono hB1.size)⟩
          · have q2' : (nA == num) = false := by simpa using q2
            have HODD : Hid (badLn L k = true) := by unfold Hid; rw [HOK.out]; rw [q2']; simp
            go_wp2
            go_region_with (first | (go_at_call 88; refine (HF1.out _).mono ?_; rintro e w2 ⟨rfl, hb2⟩; obtain ⟨x0, x1, x2, x3, xz⟩ := keep4 (W := w1.drew) hb2 hz1 m0 m1 m2 m3) | (refine (HLN.out _).mono ?_; rintro e w3 ⟨rfl, hb3⟩; obtain ⟨y0, y1, y2, y3, yz⟩ := keep4 hb3 (Nat.lt_of_lt_of_le hz1 xz) x0 x1 x2 x3))
            all_goals
              go_wp2
              go_ret
              exact ⟨ret_int (by rw [firstN_hit hlt HBAD.out HODD.out]), hB1.drew.trans ((hb2.trans (hb3.mono hb2.size)).mono hB1.size)⟩
        · have q1' : (sA.toList == s.toList) = false := by simpa using q1
          clear q1
          have HODD : Hid (badLn L k = true) := by unfold Hid; rw [HOK.out]; rw [q1']; simp
          go_wp2
          go_region_with (first | (go_at_call 88; refine (HF1.out _).mono ?_; rintro e w2 ⟨rfl, hb2⟩; obtain ⟨x0, x1, x2, x3, xz⟩ := keep4 (W := w1.drew) hb2 hz1 m0 m1 m2 m3) | (refine (HLN.out _).mono ?_; rintro e w3 ⟨rfl, hb3⟩; obtain ⟨y0, y1, y2, y3, yz⟩ := keep4 hb3 (Nat.lt_of_lt_of_le hz1 xz) x0 x1 x2 x3))
          all_goals
            go_wp2
            go_ret
            exact ⟨ret_int (by rw [firstN_hit hlt HBAD.out HODD.out]), hB1.drew.trans ((hb2.trans (hb3.mono hb2.size)).mono hB1.size)⟩
    · have HNONE : Hid (firstN (badLn L) L.length 0 = L.length) := firstN_none (fun j hj => HBAD.out j (by omega))
      go_wp2
      go_ret
      exact ⟨ret_int (by rw [HNONE.out]), hB⟩
end Go.Proofs.YtimgafblpmjajabGreat
