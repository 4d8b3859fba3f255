
import Derived.Test.YtimgafblpmjajabGreatWpl

namespace Go.Proofs.YtimgafblpmjajabGreat

open Go.RowKit

/-- The argument in its box, the answer's cells at their zeros. -/
structure Bx (n : Nat) (w : World) (vr vm vf : Value) : Prop where
  p0 : w.cell? ⟨n, 0, none⟩ = some vr
  p1 : w.cell? ⟨n, 1, none⟩ = some vm
  p2 : w.cell? ⟨n, 2, none⟩ = some vf
  r0 : w.cell? ⟨n + 1, 0, none⟩ = some (.int .i64 0)
  r1 : w.cell? ⟨n + 1, 1, none⟩ = some (.int .i64 0)
  r2 : w.cell? ⟨n + 1, 2, none⟩ = some (.int .i64 0)
  f0 : w.frozen? ⟨n + 1, 0, none⟩ = false
  f1 : w.frozen? ⟨n + 1, 1, none⟩ = false
  f2 : w.frozen? ⟨n + 1, 2, none⟩ = false
theorem Bx.below {n B : Nat} {w w' : World} {vr vm vf : Value} (h : Bx n w vr vm vf) (hb : Below B w w') (hB : n + 2 ≤ B) : Bx n w' vr vm vf :=
  ⟨below_cell0 hb (by omega) h.p0, below_cell0 hb (by omega) h.p1, below_cell0 hb (by omega) h.p2, below_cell0 hb (by omega) h.r0, below_cell0 hb (by omega) h.r1, below_cell0 hb (by omega) h.r2, below_frz hb (by omega) h.f0, below_frz hb (by omega) h.f1, below_frz hb (by omega) h.f2⟩

theorem str_ne {s t : ByteArray} {a b : List UInt8} (hs : s.data.toList = a) (ht : t.data.toList = b) (h : a ≠ b) : s ≠ t := fun e => h (by rw [← hs, ← ht, e])
theorem str_eq {s t : ByteArray} {a : List UInt8} (hs : s.data.toList = a) (ht : t.data.toList = a) : s = t := by
  cases s; cases t; congr 1; exact Array.toList_inj.1 (hs.trans ht.symm)
theorem str_beq {s t : ByteArray} {a b : List UInt8} (hs : s.data.toList = a) (ht : t.data.toList = b) : (s.toList == t.toList) = decide (a = b) := by
  rw [Go.ByteArray.toList_eq, Go.ByteArray.toList_eq, hs, ht, Bool.eq_iff_iff]; simp
theorem below_ret {w W w1 : World} (hWB : Below w.heap.size w W) (hB1 : Below (w.heap.size + 2) W w1) (a b c : Value) :
    Below w.heap.size w (((w1.setCell ⟨w.heap.size + 1, 0, none⟩ a).setCell ⟨w.heap.size + 1, 1, none⟩ b).setCell ⟨w.heap.size + 1, 2, none⟩ c) :=
  (((hWB.trans (hB1.mono (by omega))).setCell (p := ⟨w.heap.size + 1, 0, none⟩) (by simp only []; omega) _).setCell (p := ⟨w.heap.size + 1, 1, none⟩) (by simp only []; omega) _).setCell (p := ⟨w.heap.size + 1, 2, none⟩) (by simp only []; omega) _
theorem sz3 (w1 : World) (p q r : Addr) (a b c : Value) : (((w1.setCell p a).setCell q b).setCell r c).heap.size = w1.heap.size := by simp [World.setCell]

theorem str_emp {s : ByteArray} {a : List UInt8} (hs : s.data.toList = a) : s.toList.isEmpty = decide (a = []) := by
  rw [Go.ByteArray.toList_eq, hs]; cases a <;> simp

theorem take_snoc_last (L : List Int) (k : Nat) (hk : k < L.length) (d : Int) : (L.take (k + 1)).getLastD d = L[k] := by
  rw [List.take_succ_eq_append_getElem hk, List.getLastD_eq_getLast?, List.getLast?_concat]; rfl
theorem asc_take (L : List Int) (k : Nat) (hk : k < L.length) (h : asc (-1) (L.take k) = true) : asc (-1) (L.take (k + 1)) = if L[k] ≤ (L.take k).getLastD (-1) ∨ 400 ≤ L[k] then false else true := by
  rw [List.take_succ_eq_append_getElem hk, asc_snoc _ _ _ h]
theorem asc_of_take (L : List Int) (k : Nat) (h : asc (-1) (L.take k) = false) : asc (-1) L = false := by
  have := asc_append_false (-1) (L.take k) (L.drop k) h
  rwa [List.take_append_drop] at this
/-- A module's name is small. -/
theorem Md.small {m : Md} (h : m.t ≤ 1048576) : m.name.length ≤ 1048576 ∧ m.lines.length ≤ 1048576 ∧ ∀ l ∈ m.lines, l.name.length ≤ 1048576 := by
  unfold Md.t lnsT at h
  refine ⟨by omega, by omega, fun l hl => ?_⟩
  have : l.t ≤ (m.lines.map Ln.t).sum := mem_le_sum _ _ (List.mem_map.2 ⟨l, hl, rfl⟩)
  have h2 : l.t = l.name.length := rfl
  omega

set_option maxHeartbeats 8000000 in
set_option maxRecDepth 100000 in
theorem specWorldOk_any (v : Value) (D : Wd) (w : World) (h : Wds w v D) (hD : D.t ≤ 1048576) :
    Calls Tryz.prog 46 #[v] w fun e w' => e = .returned (wrongV (wok D)) ∧ Below w.heap.size w w' := by
  obtain ⟨vr, vm, vf, rfl, h1, h2, h3⟩ := h
  have hr0 : Pl.total D.roots ≤ 1048576 := by unfold Wd.t at hD; omega
  have hr1 : D.roots.length ≤ 1048576 := by have : D.roots.length ≤ Pl.total D.roots := by unfold Pl.total; omega
                                            omega
  have hm1 : D.mods.length ≤ 1048576 := by unfold Wd.t mdsT at hD; omega
  have hm2 : ∀ m ∈ D.mods, m.t ≤ 1048576 := fun m hm => by
    have h1 : m.t ≤ (D.mods.map Md.t).sum := mem_le_sum _ _ (List.mem_map.2 ⟨m, hm, rfl⟩)
    unfold Wd.t mdsT at hD; omega
  have hf1 : D.faults.length ≤ 1048576 := by unfold Wd.t at hD; omega
  obtain ⟨R, hR⟩ : ∃ R, R = wok D := ⟨_, rfl⟩
  rw [← hR]
  have HR : Hid (R = wok D) := hR
  clear hR
  obtain ⟨a1, k1, rfl, hk1, hx1, hc1⟩ := h1
  obtain ⟨a2, k2, rfl, hk2, hx2, hc2⟩ := h2
  obtain ⟨a3, k3, rfl, hk3, hx3, hc3⟩ := h3
  have HC1 : Hid (∀ k, (hk : k < D.roots.length) → ∃ b o, a1 = some ⟨b, o, none⟩ ∧ b < w.heap.size ∧ w.cell? ⟨b, o + k, none⟩ = some (strV D.roots[k])) := hc1
  have HC2 : Hid (∀ k, (hk : k < D.mods.length) → ∃ b o s, a2 = some ⟨b, o, none⟩ ∧ b < w.heap.size ∧
    w.cell? ⟨b, o + k * 2, none⟩ = some (strV D.mods[k].name) ∧ w.cell? ⟨b, o + k * 2 + 1, none⟩ = some s ∧ Lns w s D.mods[k].lines) := hc2
  have HC3 : Hid (∀ k, (hk : k < D.faults.length) → ∃ b o, a3 = some ⟨b, o, none⟩ ∧ b < w.heap.size ∧ w.cell? ⟨b, o + k, none⟩ = some (.int .i64 D.faults[k])) := hc3
  clear hc1 hc2 hc3 hx1 hx2 hx3 hD
  obtain ⟨W, hW⟩ : ∃ W, W = (w.alloc (.cells #[.slice a1 D.roots.length k1, .slice a2 D.mods.length k2, .slice a3 D.faults.length k3] 32)).alloc (.cells #[.int .i64 0, .int .i64 0, .int .i64 0] 88) := ⟨_, rfl⟩
  have hWB : Below w.heap.size w W := by rw [hW]; exact below_alloc2 _ _
  have hWs : W.heap.size = w.heap.size + 2 := by rw [hW]; simp
  have hBx : Bx w.heap.size W (.slice a1 D.roots.length k1) (.slice a2 D.mods.length k2) (.slice a3 D.faults.length k3) := by
    rw [hW]; constructor <;> simp [go_sem]
  have HW : Hid (W = (w.alloc (.cells #[.slice a1 D.roots.length k1, .slice a2 D.mods.length k2, .slice a3 D.faults.length k3] 32)).alloc (.cells #[.int .i64 0, .int .i64 0, .int .i64 0] 88)) := hW
  clear hW
  by_cases hbig : 60 < D.mods.length ∨ 8 < D.roots.length ∨ 400 < D.faults.length
  · have hR1 : R = (1, 0, 0) := by rw [HR.out, wok_1 hbig]
    subst hR1
    go_enter Tryz.func46, Tryz.ntmps46
    go_wp2
    all_goals exact bodyPost_ret (v := wrongV (1, 0, 0)) (by simp [results, Tryz.results46, go_sem, wrongV]) rfl ⟨rfl, below_alloc2 _ _⟩
  · have HR2 : Hid (D.roots.any oddRoot = true → R = (2, 0, 0)) := fun h => by rw [HR.out, wok_2 hbig h]
    have hb1 : ¬ 60 < D.mods.length := fun h => hbig (.inl h)
    have hb2 : ¬ 8 < D.roots.length := fun h => hbig (.inr (.inl h))
    have hb3 : ¬ 400 < D.faults.length := fun h => hbig (.inr (.inr h))
    have HBIG : Hid (¬ (60 < D.mods.length ∨ 8 < D.roots.length ∨ 400 < D.faults.length)) := hbig
    have HM2 : Hid (∀ m ∈ D.mods, m.t ≤ 1048576) := hm2
    clear hbig hm2
    go_enter Tryz.func46, Tryz.ntmps46
    go_wp2
    rw [← HW.out]
    go_loopw [37] (fun i wr => ∃ k : Nat, k ≤ D.roots.length ∧ i = .int .i64 k ∧ (∀ j (hj : j < D.roots.length), j < k → oddRoot D.roots[j] = false) ∧ Below (w.heap.size + 2) W wr) (fun i _ => D.roots.length - (intOf i).toNat)
    case atStart => exact ⟨0, Nat.zero_le _, rfl, fun j _ h => absurd h (by omega), Below.refl _ _⟩
    case round =>
      obtain ⟨k, hk, rfl, hodd, hB⟩ := hrel
      have HODD : Hid (∀ j (hj : j < D.roots.length), j < k → oddRoot D.roots[j] = false) := hodd
      clear hodd
      by_cases hlt : k < D.roots.length
      · obtain ⟨b, o, rfl, hb, h0⟩ := HC1.out k hlt
        have c0 := (hB.cell (p := ⟨b, o + k, none⟩) (by simp only []; omega)).trans ((hWB.cell (p := ⟨b, o + k, none⟩) hb).trans h0)
        obtain ⟨s, hs⟩ : ∃ s : ByteArray, s = ⟨D.roots[k].toArray⟩ := ⟨_, rfl⟩
        have hsl : s.data.toList = D.roots[k] := by rw [hs]
        have hsv : strV D.roots[k] = .string s := by rw [hs]; rfl
        have hsm : s.size ≤ 1048576 := by
          have h1 : D.roots[k].length ≤ Lib.lens D.roots := mem_le_sum _ _ (List.mem_map.2 ⟨_, List.getElem_mem hlt, rfl⟩)
          have h2 : Lib.lens D.roots ≤ Pl.total D.roots := by unfold Pl.total; omega
          rw [size_data, hsl]; omega
        rw [hsv] at c0
        clear h0 hs
        have hBxr := hBx.below hB (Nat.le_refl _)
        obtain ⟨p0, p1, p2, q0, q1, q2, f0, f1, f2⟩ := hBxr
        go_wp2_with fail
        refine (specClean_any s _ hsm).mono ?_
        rw [hsl]
        obtain ⟨c, x, hn⟩ : ∃ c x, Pl.nm [] D.roots[k] = (c, x) := ⟨_, _, rfl⟩
        obtain ⟨t, ht⟩ : ∃ t : ByteArray, t.data.toList = x := ⟨⟨x.toArray⟩, by simp⟩
        have htv : strV x = .string t := by rw [← ht, strV_data]
        rw [hn]
        unfold namedV
        rw [htv]
        clear htv
        have hod : oddRoot D.roots[k] = (decide (D.roots[k] ≠ []) && decide (x ≠ D.roots[k])) := by rw [oddRoot_spec, hn]
        have HN : Hid (Pl.nm [] D.roots[k] = (c, x)) := hn
        have hse := str_emp hsl
        have hBr : w.heap.size + 2 ≤ wr.heap.size := by have := hB.size; omega
        rintro e w1 ⟨rfl, hb4⟩
        have hB1 : Below (w.heap.size + 2) W w1 := hB.trans (hb4.mono hBr)
        have hBxr1 := hBx.below hB1 (Nat.le_refl _)
        obtain ⟨p0, p1, p2, q0, q1, q2, f0, f1, f2⟩ := hBxr1
        have hz1 : w.heap.size < w1.heap.size := by have := hB1.size; omega
        have hz2 : w.heap.size + 1 < w1.heap.size := by have := hB1.size; omega
        have HSL : Hid (s.data.toList = D.roots[k]) := hsl
        clear hn hsm hsl
        by_cases he : D.roots[k] = []
        · have hod' : oddRoot D.roots[k] = false := by rw [hod]; simp [he]
          have HOD : Hid (oddRoot D.roots[k] = false) := hod'
          have hse' : s.toList.isEmpty = true := by rw [hse]; simpa using he
          clear hod hod' hse he ht
          go_wp2
          go_roundw
          case rel => exact ⟨k + 1, by omega, by go_num, fun j hj hjk => by
            by_cases hjk' : j = k
            · subst hjk'; exact HOD.out
            · exact HODD.out j hj (by omega), hB1.alloc (by omega) _⟩
          case measure => simp [intOf]; omega
        · have hse' : s.toList.isEmpty = false := by rw [hse]; simpa using he
          by_cases hx : x = D.roots[k]
          · have hod' : oddRoot D.roots[k] = false := by rw [hod]; simp [hx]
            have HOD : Hid (oddRoot D.roots[k] = false) := hod'
            obtain rfl : t = s := str_eq (ht.trans hx) HSL.out
            clear hod hod' hse he ht hx
            go_wp2
            go_roundw
            case rel => exact ⟨k + 1, by omega, by go_num, fun j hj hjk => by
              by_cases hjk' : j = k
              · subst hjk'; exact HOD.out
              · exact HODD.out j hj (by omega), hB1.alloc (by omega) _⟩
            case measure => simp [intOf]; omega
          · have hod' : oddRoot D.roots[k] = true := by rw [hod]; simp [hx, he]
            have hR2 : R = (2, 0, 0) := HR2.out (List.any_eq_true.2 ⟨_, List.getElem_mem hlt, hod'⟩)
            subst hR2
            have hne : (t.toList == s.toList) = false := by rw [str_beq ht HSL.out]; simpa using hx
            clear hod hod' hse he ht hx
            go_wp2
            exact bodyPost_ret (v := wrongV (2, 0, 0)) (by simp [results, Tryz.results46, go_sem, wrongV, *]) rfl ⟨rfl, (below_ret hWB hB1 _ _ _).alloc (by rw [sz3]; omega) _⟩
      · have hroot : D.roots.any oddRoot = false := by
          rw [List.any_eq_false]
          intro r hr
          obtain ⟨j, hj, rfl⟩ := List.getElem_of_mem hr
          rw [HODD.out j hj (by omega)]; decide
        have HR3 : Hid (asc (-1) D.faults = false → R = (3, 0, 0)) := fun h => by rw [HR.out, wok_3 HBIG.out hroot h]
        have HROOT : Hid (D.roots.any oddRoot = false) := hroot
        clear hroot HR2 HODD HC1
        obtain ⟨p0, p1, p2, q0, q1, q2, f0, f1, f2⟩ := hBx.below hB (Nat.le_refl _)
        have hBr : w.heap.size + 2 ≤ wr.heap.size := by have := hB.size; omega
        go_wp2
        obtain ⟨W1, hW1⟩ : ∃ W1, W1 = wr := ⟨_, rfl⟩
        rw [← hW1] at hB p0 p1 p2 q0 q1 q2 f0 f1 f2 hBr ⊢
        clear hW1
        go_loopw [6, 56] (fun l i wr => ∃ k : Nat, k ≤ D.faults.length ∧ i = .int .i64 k ∧ l = .int .i64 ((D.faults.take k).getLastD (-1)) ∧ asc (-1) (D.faults.take k) = true ∧ Below (w.heap.size + 2) W wr) (fun _ i _ => D.faults.length - (intOf i).toNat)
        case atStart => exact ⟨0, Nat.zero_le _, rfl, rfl, rfl, hB⟩
        case round =>
          obtain ⟨k, hk, rfl, rfl, hasc, hB2⟩ := hrel
          obtain ⟨lst, hlst⟩ : ∃ lst, lst = (D.faults.take k).getLastD (-1) := ⟨_, rfl⟩
          rw [← hlst]
          have HL : Hid (lst = (D.faults.take k).getLastD (-1)) := hlst
          have HASC : Hid (asc (-1) (D.faults.take k) = true) := hasc
          clear hlst hasc hB p0 p1 p2 q0 q1 q2 f0 f1 f2
          obtain ⟨p0, p1, p2, q0, q1, q2, f0, f1, f2⟩ := hBx.below hB2 (Nat.le_refl _)
          have hBr2 : w.heap.size + 2 ≤ wr.heap.size := by have := hB2.size; omega
          by_cases hlt : k < D.faults.length
          · obtain ⟨b, o, rfl, hb, h0⟩ := HC3.out k hlt
            have c0 := (hB2.cell (p := ⟨b, o + k, none⟩) (by simp only []; omega)).trans ((hWB.cell (p := ⟨b, o + k, none⟩) hb).trans h0)
            have hstep := asc_take D.faults k hlt HASC.out
            rw [← HL.out] at hstep
            have hlast := take_snoc_last D.faults k hlt (-1)
            obtain ⟨f, hf⟩ : ∃ f, f = D.faults[k] := ⟨_, rfl⟩
            rw [← hf] at c0 hstep hlast
            clear h0 hf
            by_cases hx1 : f ≤ lst
            · have hR3 : R = (3, 0, 0) := HR3.out (asc_of_take _ (k + 1) (by rw [hstep, if_pos (.inl hx1)]))
              subst hR3
              clear hstep hlast
              go_wp2
              exact bodyPost_ret (v := wrongV (3, 0, 0)) (by simp [results, Tryz.results46, go_sem, wrongV, *]) rfl ⟨rfl, below_ret hWB hB2 _ _ _⟩
            · by_cases hx2 : 400 ≤ f
              · have hR3 : R = (3, 0, 0) := HR3.out (asc_of_take _ (k + 1) (by rw [hstep, if_pos (.inr hx2)]))
                subst hR3
                clear hstep hlast
                go_wp2
                exact bodyPost_ret (v := wrongV (3, 0, 0)) (by simp [results, Tryz.results46, go_sem, wrongV, *]) rfl ⟨rfl, below_ret hWB hB2 _ _ _⟩
              · rw [if_neg (by omega)] at hstep
                have HST : Hid (asc (-1) (D.faults.take (k + 1)) = true ∧ (D.faults.take (k + 1)).getLastD (-1) = f) := ⟨hstep, hlast⟩
                clear hstep hlast
                go_wp2
                go_roundw
                case rel => exact ⟨k + 1, by omega, by go_num, by rw [HST.out.2], HST.out.1, hB2⟩
                case measure => simp [intOf]; omega
          · have hasc : asc (-1) D.faults = true := by have := HASC.out; rwa [List.take_of_length_le (by omega)] at this
            have HR4 : Hid (∀ k, k < D.mods.length → firstN (badMd D.mods) D.mods.length 0 = k → R = (4, (k : Int), 0)) := fun k hk h => by rw [HR.out, wok_4 HBIG.out HROOT.out hasc hk h]
            have HASC' : Hid (asc (-1) D.faults = true) := hasc
            clear hasc HR3 HC3 HL HASC
            go_wp2
            obtain ⟨W2, hW2⟩ : ∃ W2, W2 = wr := ⟨_, rfl⟩
            rw [← hW2] at hB2 p0 p1 p2 q0 q1 q2 f0 f1 f2 hBr2 ⊢
            clear hW2
            go_loopw [73] (fun i wr => ∃ k : Nat, k ≤ D.mods.length ∧ i = .int .i64 k ∧ (∀ j, j < k → badMd D.mods j = false) ∧ Below (w.heap.size + 2) W wr) (fun i _ => D.mods.length - (intOf i).toNat)
            case atStart => exact ⟨0, Nat.zero_le _, rfl, fun j h => absurd h (by omega), hB2⟩
            case round =>
              obtain ⟨k, hk, rfl, hbad, hB3⟩ := hrel
              have HBAD : Hid (∀ j, j < k → badMd D.mods j = false) := hbad
              clear hbad hB2 p0 p1 p2 q0 q1 q2 f0 f1 f2
              have hBr3 : w.heap.size + 2 ≤ wr.heap.size := by have := hB3.size; omega
              by_cases hlt : k < D.mods.length
              · obtain ⟨b, o, s, rfl, hb, h0, h1, h2⟩ := HC2.out k hlt
                obtain ⟨hs1, hs2, hs3⟩ := Md.small (HM2.out _ (List.getElem_mem hlt))
                obtain ⟨asl, cs, rfl⟩ := h2.slice
                obtain ⟨N, hN⟩ : ∃ N, N = D.mods[k].lines.length := ⟨_, rfl⟩
                obtain ⟨ns, hns⟩ : ∃ ns : ByteArray, ns.data.toList = D.mods[k].name := ⟨⟨D.mods[k].name.toArray⟩, by simp⟩
                have hnv : strV D.mods[k].name = .string ns := by rw [← hns, strV_data]
                rw [hnv] at h0
                rw [← hN] at h1 hs2
                have c0 := (hB3.cell (p := ⟨b, o + k * 2, none⟩) (by simp only []; omega)).trans ((hWB.cell (p := ⟨b, o + k * 2, none⟩) hb).trans h0)
                have c1 := (hB3.cell (p := ⟨b, o + k * 2 + 1, none⟩) (by simp only []; omega)).trans ((hWB.cell (p := ⟨b, o + k * 2 + 1, none⟩) hb).trans h1)
                have hnsm : ns.size ≤ 1048576 := by rw [size_data, hns]; exact hs1
                have hbm := badMd_at hlt
                rw [← hN] at hbm
                have HBM : Hid (badMd D.mods k = (!isN D.mods[k].name || decide (60 < N) || (D.mods.take k).any (fun m => decide (m.name = D.mods[k].name)))) := hbm
                have HNS : Hid (ns.data.toList = D.mods[k].name) := hns
                clear h0 h1 h2 hs3 hs1 hbm hns hnv hN
                go_wp2_with fail
                refine (specClean_any ns _ hnsm).mono ?_
                obtain ⟨c, x, hn⟩ : ∃ c x, Pl.nm [] D.mods[k].name = (c, x) := ⟨_, _, rfl⟩
                obtain ⟨t, ht⟩ : ∃ t : ByteArray, t.data.toList = x := ⟨⟨x.toArray⟩, by simp⟩
                have htv : strV x = .string t := by rw [← ht, strV_data]
                rw [HNS.out, hn]
                unfold namedV
                rw [htv]
                have HIS : Hid (isN D.mods[k].name = (decide (c = 0) && decide (x = D.mods[k].name))) := by unfold Hid; rw [isN, hn]
                have HTX : Hid (t.data.toList = x) := ht
                clear htv ht hn c0 c1
                rintro e w1 ⟨rfl, hb4⟩
                have m0 : w1.cell? ⟨wr.heap.size, 0, none⟩ = some (.string ns) := below_cell0 hb4 (by simp) (by simp [go_sem])
                have m1 : w1.cell? ⟨wr.heap.size, 1, none⟩ = some (.slice asl N cs) := below_cell0 hb4 (by simp) (by simp [go_sem])
                have hB4 : Below (w.heap.size + 2) W w1 := (hB3.alloc hBr3 _).trans (hb4.mono (by simp; omega))
                have hz0 : wr.heap.size < w1.heap.size := by have := hb4.size; simp at this; omega
                have hz1 : w.heap.size < w1.heap.size := by omega
                have hz2 : w.heap.size + 1 < w1.heap.size := by omega
                obtain ⟨p0, p1, p2, q0, q1, q2, f0, f1, f2⟩ := hBx.below hB4 (Nat.le_refl _)
                clear hb4
                by_cases hc0 : c = 0
                · subst hc0
                  by_cases hxn : x = D.mods[k].name
                  · obtain rfl : t = ns := str_eq (HTX.out.trans hxn) HNS.out
                    by_cases h60 : 60 < N
                    · have hR4 : R = (4, (k : Int), 0) := HR4.out k hlt (firstN_hit hlt HBAD.out (by rw [HBM.out]; simp [h60]))
                      subst hR4
                      clear hxn
                      go_wp2
                      exact bodyPost_ret (v := wrongV (4, (k : Int), 0)) (by simp [results, Tryz.results46, go_sem, wrongV, *]) rfl ⟨rfl, (below_ret hWB hB4 _ _ _).alloc (by rw [sz3]; omega) _⟩
                    · have HIN : Hid (isN D.mods[k].name = true) := by unfold Hid; rw [HIS.out, hxn]; simp
                      clear hxn
                      go_wp2
                      obtain ⟨W3, hW3⟩ : ∃ W3, W3 = w1.alloc (Obj.cells #[Value.int IntKind.i64 0, Value.string t] 118) := ⟨_, rfl⟩
                      have hB5 : Below (w.heap.size + 2) W W3 := by rw [hW3]; exact hB4.alloc (by omega) _
                      have m0' : W3.cell? ⟨wr.heap.size, 0, none⟩ = some (.string t) := by rw [hW3, World.cell?_alloc_past _ _ _ hz0]; exact m0
                      have hz5 : wr.heap.size < W3.heap.size := by rw [hW3]; simp; omega
                      rw [← hW3]
                      clear hW3 p0 p1 p2 q0 q1 q2 f0 f1 f2 m0 m1 hz0 hz1 hz2
                      go_loopw [12] (fun i wr' => ∃ k' : Nat, k' ≤ k ∧ i = .int .i64 k' ∧ (∀ j (hj : j < D.mods.length), j < k' → D.mods[j].name ≠ D.mods[k].name) ∧ Below W3.heap.size W3 wr') (fun i _ => k - (intOf i).toNat)
                      case atStart => exact ⟨0, Nat.zero_le _, rfl, fun j _ h => absurd h (by omega), Below.refl _ _⟩
                      case round =>
                        obtain ⟨k', hk', rfl, hnn, hB6⟩ := hrel
                        have HNN : Hid (∀ j (hj : j < D.mods.length), j < k' → D.mods[j].name ≠ D.mods[k].name) := hnn
                        rename World => w6
                        have hB7 : Below (w.heap.size + 2) W w6 := hB5.trans (hB6.mono (by omega))
                        have m0 := below_cell0 hB6 hz5 m0'
                        obtain ⟨p0, p1, p2, q0, q1, q2, f0, f1, f2⟩ := hBx.below hB7 (Nat.le_refl _)
                        clear hnn
                        by_cases hlt' : k' < k
                        · have hlk : k' < D.mods.length := by omega
                          obtain ⟨b', o', s', hbo, hb', h0', _, _⟩ := HC2.out k' hlk
                          cases hbo
                          obtain ⟨ns', hns'⟩ : ∃ ns' : ByteArray, ns'.data.toList = D.mods[k'].name := ⟨⟨D.mods[k'].name.toArray⟩, by simp⟩
                          have hnv' : strV D.mods[k'].name = .string ns' := by rw [← hns', strV_data]
                          rw [hnv'] at h0'
                          have c0' := (hB7.cell (p := ⟨b, o + k' * 2, none⟩) (by simp only []; omega)).trans ((hWB.cell (p := ⟨b, o + k' * 2, none⟩) hb).trans h0')
                          clear h0' hnv'
                          by_cases hnm : D.mods[k'].name = D.mods[k].name
                          · obtain rfl : ns' = t := str_eq (hns'.trans hnm) HNS.out
                            have hR4 : R = (4, (k : Int), 0) := HR4.out k hlt (firstN_hit hlt HBAD.out (by
                              rw [HBM.out]
                              have : (D.mods.take k).any (fun m => decide (m.name = D.mods[k].name)) = true := by
                                rw [List.any_eq_true]
                                exact ⟨D.mods[k'], List.mem_take_iff_getElem.2 ⟨k', by omega, rfl⟩, by simpa using hnm⟩
                              rw [this]; simp))
                            subst hR4
                            clear hnm hns'
                            go_wp2
                            go_region
                            all_goals
                              go_wp2
                              exact bodyPost_ret (v := wrongV (4, (k : Int), 0)) (by simp [results, Tryz.results46, go_sem, wrongV, *]) rfl ⟨rfl, below_ret hWB hB7.drew _ _ _⟩
                          · have hne : (ns'.toList == t.toList) = false := by rw [str_beq hns' HNS.out]; simpa using hnm
                            have HNM : Hid (¬ D.mods[k'].name = D.mods[k].name) := hnm
                            clear hnm hns'
                            go_wp2
                            go_region
                            all_goals
                              go_wp2
                              go_roundw
                              case rel => exact ⟨k' + 1, by omega, by go_num, fun j hj hjk => by
                                by_cases hjk' : j = k'
                                · subst hjk'; exact HNM.out
                                · exact HNN.out j hj (by omega), hB6.drew⟩
                              case measure => simp [intOf]; omega
                        · have HBK : Hid (badMd D.mods k = false) := by
                            unfold Hid
                            rw [HBM.out, HIN.out]
                            have : (D.mods.take k).any (fun m => decide (m.name = D.mods[k].name)) = false := by
                              rw [List.any_eq_false]
                              intro m hm
                              obtain ⟨j, hj, rfl⟩ := List.mem_take_iff_getElem.1 hm
                              have := HNN.out j (by omega) (by omega)
                              simpa using this
                            rw [this]; simp; omega
                          go_wp2
                          go_roundw
                          case rel => exact ⟨k + 1, by omega, by go_num, fun j hjk => by
                            by_cases hjk' : j = k
                            · subst hjk'; exact HBK.out
                            · exact HBAD.out j (by omega), hB7⟩
                          case measure => simp [intOf]; omega
                  · have hR4 : R = (4, (k : Int), 0) := HR4.out k hlt (firstN_hit hlt HBAD.out (by rw [HBM.out, HIS.out]; simp [hxn]))
                    subst hR4
                    have hne : (t.toList == ns.toList) = false := by rw [str_beq HTX.out HNS.out]; simpa using hxn
                    clear hxn
                    go_wp2
                    exact bodyPost_ret (v := wrongV (4, (k : Int), 0)) (by simp [results, Tryz.results46, go_sem, wrongV, *]) rfl ⟨rfl, (below_ret hWB hB4 _ _ _).alloc (by rw [sz3]; omega) _⟩
                · have hR4 : R = (4, (k : Int), 0) := HR4.out k hlt (firstN_hit hlt HBAD.out (by rw [HBM.out, HIS.out]; simp [hc0]))
                  subst hR4
                  have hcb : (c == 0) = false := by simpa using hc0
                  go_wp2
                  exact bodyPost_ret (v := wrongV (4, (k : Int), 0)) (by simp [results, Tryz.results46, go_sem, wrongV, *]) rfl ⟨rfl, (below_ret hWB hB4 _ _ _).alloc (by rw [sz3]; omega) _⟩
              · have hmods : firstN (badMd D.mods) D.mods.length 0 = D.mods.length := firstN_none (fun j hj => HBAD.out j (by omega))
                have HR5 : Hid (∀ k, (hk : k < D.mods.length) → firstN (badLns D.mods) D.mods.length 0 = k → R = (5, (k : Int), ((firstN (badLn D.mods[k].lines) D.mods[k].lines.length 0 : Nat) : Int))) := fun k hk h => by rw [HR.out, wok_5 HBIG.out HROOT.out HASC'.out hmods hk h]
                have HR6 : Hid (firstN (badLns D.mods) D.mods.length 0 = D.mods.length → R = (0, 0, 0)) := fun h => by rw [HR.out, wok_0 HBIG.out HROOT.out HASC'.out hmods h]
                clear hmods HR4 HBAD
                obtain ⟨p0, p1, p2, q0, q1, q2, f0, f1, f2⟩ := hBx.below hB3 (Nat.le_refl _)
                go_wp2
                obtain ⟨W4, hW4⟩ : ∃ W4, W4 = wr := ⟨_, rfl⟩
                rw [← hW4] at hB3 p0 p1 p2 q0 q1 q2 f0 f1 f2 hBr3 ⊢
                clear hW4
                go_loopw [119] (fun i wr => ∃ k : Nat, k ≤ D.mods.length ∧ i = .int .i64 k ∧ (∀ j, j < k → badLns D.mods j = false) ∧ Below (w.heap.size + 2) W wr) (fun i _ => D.mods.length - (intOf i).toNat)
                case atStart => exact ⟨0, Nat.zero_le _, rfl, fun j h => absurd h (by omega), hB3⟩
                case round =>
                  obtain ⟨k, hk, rfl, hbad, hB8⟩ := hrel
                  have HBAD : Hid (∀ j, j < k → badLns D.mods j = false) := hbad
                  clear hbad hB3 p0 p1 p2 q0 q1 q2 f0 f1 f2
                  rename World => w8
                  have hBr8 : w.heap.size + 2 ≤ w8.heap.size := by have := hB8.size; omega
                  obtain ⟨p0, p1, p2, q0, q1, q2, f0, f1, f2⟩ := hBx.below hB8 (Nat.le_refl _)
                  by_cases hlt : k < D.mods.length
                  · obtain ⟨b, o, s, rfl, hb, h0, h1, h2⟩ := HC2.out k hlt
                    obtain ⟨hs1, hs2, hs3⟩ := Md.small (HM2.out _ (List.getElem_mem hlt))
                    obtain ⟨asl, cs, rfl⟩ := h2.slice
                    obtain ⟨N, hN⟩ : ∃ N, N = D.mods[k].lines.length := ⟨_, rfl⟩
                    obtain ⟨ns, hns⟩ : ∃ ns : ByteArray, ns.data.toList = D.mods[k].name := ⟨⟨D.mods[k].name.toArray⟩, by simp⟩
                    have hnv : strV D.mods[k].name = .string ns := by rw [← hns, strV_data]
                    rw [hnv] at h0
                    rw [← hN] at h1 hs2
                    have c0 := (hB8.cell (p := ⟨b, o + k * 2, none⟩) (by simp only []; omega)).trans ((hWB.cell (p := ⟨b, o + k * 2, none⟩) hb).trans h0)
                    have c1 := (hB8.cell (p := ⟨b, o + k * 2 + 1, none⟩) (by simp only []; omega)).trans ((hWB.cell (p := ⟨b, o + k * 2 + 1, none⟩) hb).trans h1)
                    have HLN : Hid (Lns w (.slice asl N cs) D.mods[k].lines ∧ N = D.mods[k].lines.length ∧ ∀ l ∈ D.mods[k].lines, l.name.length ≤ 1048576) := ⟨by rw [hN]; exact h2, hN, hs3⟩
                    have HNV : Hid (strV D.mods[k].name = .string ns) := hnv
                    clear h0 h1 h2 hs3 hs1 hns hnv hN
                    go_wp2
                    obtain ⟨W5, hW5⟩ : ∃ W5, W5 = w8.alloc (Obj.cells #[Value.string ns, Value.slice asl N cs] 49) := ⟨_, rfl⟩
                    have hB9 : Below (w.heap.size + 2) W W5 := by rw [hW5]; exact hB8.alloc (by omega) _
                    have m0' : W5.cell? ⟨w8.heap.size, 0, none⟩ = some (.string ns) := by rw [hW5]; simp [go_sem]
                    have m1' : W5.cell? ⟨w8.heap.size, 1, none⟩ = some (.slice asl N cs) := by rw [hW5]; simp [go_sem]
                    have hz9 : w8.heap.size < W5.heap.size := by rw [hW5]; simp
                    rw [← hW5]
                    clear hW5 p0 p1 p2 q0 q1 q2 f0 f1 f2 c0 c1
                    go_loopw [127] (fun i wr' => ∃ k' : Nat, k' ≤ N ∧ i = .int .i64 k' ∧ (∀ j, j < k' → badLn D.mods[k].lines j = false) ∧ Below W5.heap.size W5 wr') (fun i _ => N - (intOf i).toNat)
                    case atStart => exact ⟨0, Nat.zero_le _, rfl, fun j h => absurd h (by omega), Below.refl _ _⟩
                    case round =>
                      obtain ⟨k', hk', rfl, hnn, hB10⟩ := hrel
                      have HNN : Hid (∀ j, j < k' → badLn D.mods[k].lines j = false) := hnn
                      rename World => w10
                      have hB11 : Below (w.heap.size + 2) W w10 := hB9.trans (hB10.mono (by omega))
                      have m0 := below_cell0 hB10 hz9 m0'
                      have m1 := below_cell0 hB10 hz9 m1'
                      have hz11 : W5.heap.size ≤ w10.heap.size := hB10.size
                      have hz12 : w8.heap.size < w10.heap.size := by omega
                      have hz13 : w.heap.size + 1 < w10.heap.size := by omega
                      have hz14 : w.heap.size < w10.heap.size := by omega
                      obtain ⟨p0, p1, p2, q0, q1, q2, f0, f1, f2⟩ := hBx.below hB11 (Nat.le_refl _)
                      clear hnn
                      by_cases hlt' : k' < N
                      · have hlk : k' < D.mods[k].lines.length := by rw [← HLN.out.2.1]; exact hlt'
                        obtain ⟨al, capl, hsl, _, _, hcl⟩ := HLN.out.1.below (hWB.trans (hB11.mono (by omega))) (Nat.le_refl _)
                        obtain ⟨b', o', hbo, hb', l0, l1, l2, l3⟩ := hcl k' hlk
                        obtain rfl : al = asl := by injection hsl with h1 h2 h3; exact h1.symm
                        subst hbo
                        obtain ⟨ls, hls⟩ := strV_of D.mods[k].lines[k'].name
                        rw [hls] at l1
                        have hok := l2line_any D.mods[k].name (some ⟨b', o', none⟩) N cs k' D.mods[k].lines[k']
                        rw [mdV, HNV.out, lnV, hls] at hok
                        have hbl := badLn_at hlk
                        rw [← HLN.out.2.1] at hbl
                        have HBL : Hid (badLn D.mods[k].lines k' = !okLn N k' D.mods[k].lines[k']) := hbl
                        have HOK : Hid (∀ W, Calls Tryz.prog 63 #[.agg #[.string ns, .slice (some ⟨b', o', none⟩) N cs], .agg #[.int .i64 D.mods[k].lines[k'].op, .string ls, .int .i64 D.mods[k].lines[k'].num, .int .i64 D.mods[k].lines[k'].skip], .int .i64 k'] W fun e w' => e = .returned (.bool (okLn N k' D.mods[k].lines[k'])) ∧ Below W.heap.size W w') :=
                          fun W => hok W (by omega) (by omega) (HLN.out.2.2 _ (List.getElem_mem hlk))
                        clear hls hok hbl hcl hsl
                        go_wp2_with fail
                        refine (HOK.out _).mono ?_
                        obtain ⟨q, hq⟩ : ∃ q, q = okLn N k' D.mods[k].lines[k'] := ⟨_, rfl⟩
                        rw [← hq]
                        have HQ : Hid (q = okLn N k' D.mods[k].lines[k']) := hq
                        clear hq
                        rintro e w12 ⟨rfl, hb12⟩
                        have hz15 : w10.heap.size < w12.heap.size := by have := hb12.size; simp at this; omega
                        have hB12 : Below (w.heap.size + 2) W w12 := (hB11.alloc (by omega) _).trans (hb12.mono (by simp; omega))
                        have hB13 : Below W5.heap.size W5 w12 := (hB10.alloc (by omega) _).trans (hb12.mono (by simp; omega))
                        clear l0 l1 l2 l3 p0 p1 p2 q0 q1 q2 f0 f1 f2 m0 m1 hb12
                        obtain ⟨p0, p1, p2, q0, q1, q2, f0, f1, f2⟩ := hBx.below hB12 (Nat.le_refl _)
                        cases q with
                        | true =>
                          go_wp2
                          go_roundw
                          case rel => exact ⟨k' + 1, by omega, by go_num, fun j hjk => by
                            by_cases hjk' : j = k'
                            · subst hjk'; rw [HBL.out, ← HQ.out]; rfl
                            · exact HNN.out j (by omega), hB13⟩
                          case measure => simp [intOf]; omega
                        | false =>
                          have hlf : firstN (badLn D.mods[k].lines) D.mods[k].lines.length 0 = k' := firstN_hit hlk HNN.out (by rw [HBL.out, ← HQ.out]; rfl)
                          have hR5 : R = (5, (k : Int), (k' : Int)) := by
                            rw [HR5.out k hlt (firstN_hit hlt HBAD.out (by rw [badLns_at hlt, hlf]; simpa using hlk)), hlf]
                          subst hR5
                          clear hlf
                          go_wp2
                          exact bodyPost_ret (v := wrongV (5, (k : Int), (k' : Int))) (by simp [results, Tryz.results46, go_sem, wrongV, *]) rfl ⟨rfl, below_ret hWB hB12 _ _ _⟩
                      · have HBK : Hid (badLns D.mods k = false) := by
                          unfold Hid
                          rw [badLns_at hlt, firstN_none (fun j hj => HNN.out j (by have := HLN.out.2.1; omega))]; simp
                        go_wp2
                        go_roundw
                        case rel => exact ⟨k + 1, by omega, by go_num, fun j hjk => by
                          by_cases hjk' : j = k
                          · subst hjk'; exact HBK.out
                          · exact HBAD.out j (by omega), hB11⟩
                        case measure => simp [intOf]; omega
                  · have hR0 : R = (0, 0, 0) := HR6.out (firstN_none (fun j hj => HBAD.out j (by omega)))
                    subst hR0
                    go_wp2
                    exact bodyPost_ret (v := wrongV (0, 0, 0)) (by simp [results, Tryz.results46, go_sem, wrongV, *]) rfl ⟨rfl, below_ret hWB hB8 _ _ _⟩
end Go.Proofs.YtimgafblpmjajabGreat
