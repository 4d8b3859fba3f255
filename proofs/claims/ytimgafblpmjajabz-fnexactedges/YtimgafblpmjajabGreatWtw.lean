
import Derived.Test.YtimgafblpmjajabGreatWtm

namespace Go.Proofs.YtimgafblpmjajabGreat

open Go.RowKit

theorem set2_same {X : List Value} {n k : Nat} {a b : Value} (hX : X.length = n * 2) (hk : k < n) :
    ((X.set (k * 2) a).set (k * 2 + 1) b)[k * 2]? = some a ∧ ((X.set (k * 2) a).set (k * 2 + 1) b)[k * 2 + 1]? = some b := by
  refine ⟨?_, ?_⟩ <;> simp [List.getElem?_set] <;> omega
theorem set2_other {a b : Value} (X : List Value) {j k : Nat} (h : j ≠ k) (i : Nat) (hi : i < 2) :
    ((X.set (k * 2) a).set (k * 2 + 1) b)[j * 2 + i]? = X[j * 2 + i]? := by
  rw [List.getElem?_set_ne (by omega), List.getElem?_set_ne (by omega)]

theorem own_lt {W : World} {base g n cap size : Nat} {t : TypeId} {X : List Value} (h : W.ownsRow base t size (.slice (some ⟨g, 0, none⟩) n cap) n X) : n ≤ cap ∧ g < W.heap.size := by
  rcases h.2 with ⟨h', _⟩ | ⟨g', cap', cur, h', _, hg, hc, _⟩
  · cases h'
  · cases h'; exact ⟨hc, (Array.getElem?_eq_some_iff.1 hg).1⟩

/-- A slice of modules all of whose rows lie from a block on. -/
def Mdf (base : Nat) (w : World) (v : Value) (M : List Md) : Prop :=
  ∃ a cap, v = .slice a M.length cap ∧ M.length ≤ cap ∧ cap ≤ maxLen ∧ ∀ k, (hk : k < M.length) → ∃ b o s, a = some ⟨b, o, none⟩ ∧ base ≤ b ∧ b < w.heap.size ∧
    w.cell? ⟨b, o + k * 2, none⟩ = some (strV M[k].name) ∧ w.cell? ⟨b, o + k * 2 + 1, none⟩ = some s ∧ Lns w s M[k].lines ∧ vfrom base s

theorem Mdf.mds {base : Nat} {w : World} {v : Value} {M : List Md} (h : Mdf base w v M) : Mds w v M := by
  obtain ⟨a, cap, hv, hcap, hmax, hc⟩ := h
  exact ⟨a, cap, hv, hcap, hmax, fun k hk => by obtain ⟨b, o, s, ha, _, hb, h0, h1, h2, _⟩ := hc k hk; exact ⟨b, o, s, ha, hb, h0, h1, h2⟩⟩
theorem Mdf.slice {base : Nat} {w : World} {v : Value} {M : List Md} (h : Mdf base w v M) : ∃ a cap, v = .slice a M.length cap := h.mds.slice
theorem Mdf.below {base : Nat} {w w' : World} {B : Nat} {v : Value} {L : List Md} (h : Mdf base w v L) (hb : Below B w w') (hB : w.heap.size ≤ B) : Mdf base w' v L := by
  obtain ⟨a, cap, hv, hcap, hmax, hc⟩ := h
  exact ⟨a, cap, hv, hcap, hmax, fun k hk => by
    obtain ⟨b, o, s, ha, hbb, hlt, h0, h1, h2, h3⟩ := hc k hk
    have hl := Nat.lt_of_lt_of_le hlt hB
    exact ⟨b, o, s, ha, hbb, Nat.lt_of_lt_of_le hlt hb.size, (hb.cell (p := ⟨b, o + k * 2, none⟩) hl).trans h0, (hb.cell (p := ⟨b, o + k * 2 + 1, none⟩) hl).trans h1, h2.below hb hB, h3⟩⟩
theorem Mdf.setCell {base : Nat} {w : World} {v : Value} {L : List Md} {B : Nat} (h : Mdf base w v L) (hB : B < base) (o : Nat) (u : Value) : Mdf base (w.setCell ⟨B, o, none⟩ u) v L := by
  obtain ⟨a, cap, rfl, hcap, hmax, hc⟩ := h
  refine ⟨a, cap, rfl, hcap, hmax, fun k hk => ?_⟩
  obtain ⟨b, o', s, rfl, hbb, hb, h0, h1, h2, h3⟩ := hc k hk
  have hne : B ≠ b := by omega
  exact ⟨b, o', s, rfl, hbb, by simpa [World.setCell] using hb, by rw [cell_far _ _ _ _ hne]; exact h0, by rw [cell_far _ _ _ _ hne]; exact h1, h2.setCell (h3.mono hB) _ _, h3⟩
theorem Nums.setCell {w : World} {v : Value} {L : List Int} {B : Nat} (h : Nums w v L) (hv : vfrom (B + 1) v) (o : Nat) (u : Value) : Nums (w.setCell ⟨B, o, none⟩ u) v L := by
  obtain ⟨a, cap, rfl, hcap, hmax, hc⟩ := h
  refine ⟨a, cap, rfl, hcap, hmax, fun k hk => ?_⟩
  obtain ⟨b, o', rfl, hb, h0⟩ := hc k hk
  have hne : B ≠ b := by have := hv b o' none _ _ rfl; omega
  exact ⟨b, o', rfl, by simpa [World.setCell] using hb, by rw [cell_far _ _ _ _ hne]; exact h0⟩
theorem Strs.setCell {w : World} {v : Value} {L : List (List UInt8)} {B : Nat} (h : Strs w v L) (hv : vfrom (B + 1) v) (o : Nat) (u : Value) : Strs (w.setCell ⟨B, o, none⟩ u) v L := by
  obtain ⟨a, cap, rfl, hcap, hmax, hc⟩ := h
  refine ⟨a, cap, rfl, hcap, hmax, fun k hk => ?_⟩
  obtain ⟨b, o', rfl, hb, h0⟩ := hc k hk
  have hne : B ≠ b := by have := hv b o' none _ _ rfl; omega
  exact ⟨b, o', rfl, by simpa [World.setCell] using hb, by rw [cell_far _ _ _ _ hne]; exact h0⟩
theorem vfrom_row {w : World} {base : Nat} {e : TypeId} {size : Nat} {v : Value} {n : Nat} {xs : List Value} (h : w.ownsRow base e size v n xs) : vfrom base v := by
  intro b o s m c hv
  rcases h.2 with ⟨h', _⟩ | ⟨g', cap', cur, h', hb, _⟩
  · rw [h'] at hv; cases hv
  · rw [h'] at hv; cases hv; exact hb

theorem mdf_of_row {W : World} {base g n : Nat} {X : List Value} {L : List Md} (h : W.ownsRow base 49 2 (.slice (some ⟨g, 0, none⟩) L.length n) L.length X) (hn : n ≤ maxLen) (hbg : base ≤ g)
    (hX : ∀ j (hj : j < L.length), ∃ s, X[j * 2]? = some (strV L[j].name) ∧ X[j * 2 + 1]? = some s ∧ Lns W s L[j].lines ∧ vfrom (g + 1) s) :
    Mdf base W (.slice (some ⟨g, 0, none⟩) L.length n) L := by
  have hc := h.cellAt
  have hg := own_lt h
  refine ⟨_, n, rfl, hg.1, hn, fun k hk => ?_⟩
  obtain ⟨s, h0, h1, h2, h3⟩ := hX k hk
  refine ⟨g, 0, s, rfl, hbg, hg.2, ?_, ?_, h2, h3.mono (by omega)⟩
  all_goals rw [Nat.zero_add, hc _ (by omega)]
  · exact h0
  · exact h1

theorem nums_of_row {W : World} {base g n : Nat} {X : List Value} {L : List Int} (h : W.ownsRow base 3 1 (.slice (some ⟨g, 0, none⟩) L.length n) L.length X) (hn : n ≤ maxLen)
    (hX : ∀ j (hj : j < L.length), X[j]? = some (.int .i64 L[j])) : Nums W (.slice (some ⟨g, 0, none⟩) L.length n) L := by
  have hc := h.cellAt
  have hg := own_lt h
  refine ⟨_, n, rfl, hg.1, hn, fun k hk => ⟨g, 0, rfl, hg.2, ?_⟩⟩
  rw [Nat.zero_add, hc _ (by omega)]
  exact hX k hk

set_option maxHeartbeats 2000000 in
set_option maxRecDepth 100000 in
theorem toModuleS_any (v : Value) (L : List Md) (w : World) (h : Mds w v L) (hL : L.length ≤ 1048576) (hLL : ∀ m ∈ L, m.lines.length ≤ 1048576) :
    Calls Tryz.prog 28 #[v] w fun e w' => ∃ v', e = .returned v' ∧ Mdf w.heap.size w' v' L ∧ Below w.heap.size w w' := by
  obtain ⟨i0, hi, hz0, hz1, hz2⟩ := info_parts Tryz.info55
  obtain ⟨a, cap, rfl, hcap, hmax, hc⟩ := h
  have HC : Hid (∀ k, (hk : k < L.length) → ∃ b o s, a = some ⟨b, o, none⟩ ∧ b < w.heap.size ∧
    w.cell? ⟨b, o + k * 2, none⟩ = some (strV L[k].name) ∧ w.cell? ⟨b, o + k * 2 + 1, none⟩ = some s ∧ Lns w s L[k].lines) := hc
  have HLL : Hid (∀ m ∈ L, m.lines.length ≤ 1048576) := hLL
  clear hc hmax hLL
  have hib : i0.bytes * L.length ≤ 281474976710656 := by rw [hz2]; omega
  have hlm : L.length ≤ maxLen := by unfold maxLen; omega
  go_enter Tryz.func28, Tryz.ntmps28
  go_wp2_with (at_make; refine wpList_make_full _ rfl _ _ 30 rfl w.heap.size 49 i0 _ 2 Tryz.underlying30 hi hz0 hz1 .i64 .i64 _ _ L.length rfl rfl rfl rfl hib hlm (Nat.le_refl _) ?_; intro w1 hown hgrow)
  have hB1 : Below w.heap.size w w1 := (Below.refl _ _).grown hgrow (Nat.le_refl _) (fun k e => by cases e)
  clear hgrow
  go_loopw [4] (fun i wr => ∃ (k : Nat) (X : List Value), k ≤ L.length ∧ i = .int .i64 k ∧ wr.ownsRow w.heap.size 49 2 (.slice (some ⟨w.heap.size, 0, none⟩) L.length L.length) L.length X ∧
      (∀ j (hj : j < L.length), j < k → ∃ s, X[j * 2]? = some (strV L[j].name) ∧ X[j * 2 + 1]? = some s ∧ Lns wr s L[j].lines ∧ vfrom (w.heap.size + 1) s) ∧ Below w.heap.size w wr) (fun i _ => L.length - (intOf i).toNat)
  case atStart => exact ⟨0, _, Nat.zero_le _, rfl, hown, fun j _ hj => absurd hj (by omega), hB1⟩
  case round =>
    obtain ⟨k, X, hk, rfl, hown, hX, hB⟩ := hrel
    by_cases hlt : k < L.length
    · obtain ⟨b, o, s, rfl, hb, h0, h1, h2⟩ := HC.out k hlt
      have c0 : wr.cell? ⟨b, o + k * 2, none⟩ = some (strV L[k].name) := (hB.cell (p := ⟨b, o + k * 2, none⟩) hb).trans h0
      have c1 : wr.cell? ⟨b, o + k * 2 + 1, none⟩ = some s := (hB.cell (p := ⟨b, o + k * 2 + 1, none⟩) hb).trans h1
      have HX : Hid (∀ j (hj : j < L.length), j < k → ∃ s, X[j * 2]? = some (strV L[j].name) ∧ X[j * 2 + 1]? = some s ∧ Lns wr s L[j].lines ∧ vfrom (w.heap.size + 1) s) := hX
      have h3 := h2.below hB (Nat.le_refl _)
      have hwr := (own_lt hown).2
      clear h0 h1 h2 hX
      go_wp2_with fail
      refine (toModule_any L[k] s wr h3 (HLL.out _ (List.getElem_mem hlt))).mono ?_
      unfold mdV
      obtain ⟨n, hs⟩ := strV_of L[k].name
      have HS : Hid (strV L[k].name = .string n) := hs
      rw [hs]
      clear hs c0 c1
      rintro e w1 ⟨s', rfl, hs', hvf, hb1⟩
      obtain ⟨a', cap', rfl⟩ := hs'.slice
      have hown1 := own_below hown hb1 (Nat.le_refl _)
      have hXl : X.length = L.length * 2 := hown1.1
      have e0 : ∃ u, w1.cell? ⟨w.heap.size, k * 2, none⟩ = some u := by rw [hown1.cellAt _ (by omega)]; exact ⟨_, List.getElem?_eq_getElem (by omega)⟩
      have e1 : ∃ u, w1.cell? ⟨w.heap.size, k * 2 + 1, none⟩ = some u := by rw [hown1.cellAt _ (by omega)]; exact ⟨_, List.getElem?_eq_getElem (by omega)⟩
      obtain ⟨u0, e0⟩ := e0
      obtain ⟨u1, e1⟩ := e1
      have f0 := hown1.frozenAt (k * 2)
      have f1 := hown1.frozenAt (k * 2 + 1)
      go_wp2
      go_roundw
      case rel =>
        refine ⟨k + 1, _, by omega, by go_num, ((hown1.stored _ _).1.stored _ _).1, fun j hj hjk => ?_, ((hB.trans (hb1.mono hB.size)).setCell (p := ⟨w.heap.size, k * 2, none⟩) (Nat.le_refl _) _).setCell (p := ⟨w.heap.size, k * 2 + 1, none⟩) (Nat.le_refl _) _⟩
        by_cases hjk' : j = k
        · subst hjk'
          obtain ⟨g0, g1⟩ := set2_same (a := .string n) (b := .slice a' L[j].lines.length cap') hXl hlt
          have hvf' := hvf.mono (b := w.heap.size + 1) hwr
          exact ⟨_, by rw [HS.out]; exact g0, g1, (hs'.setCell hvf' _ _).setCell hvf' _ _, hvf'⟩
        · obtain ⟨s, x0, x1, x2, x3⟩ := HX.out j hj (by omega)
          have hg := fun i hi => set2_other (a := .string n) (b := .slice a' L[k].lines.length cap') X hjk' i hi
          exact ⟨s, (hg 0 (by omega)).trans x0, (hg 1 (by omega)).trans x1, ((x2.below hb1 (Nat.le_refl _)).setCell x3 _ _).setCell x3 _ _, x3⟩
      case measure => simp [intOf]; omega
    · go_wp2
      go_ret
      refine ⟨_, rfl, ?_, hB⟩
      exact mdf_of_row hown hlm (Nat.le_refl _) (fun j hj => hX j hj (by omega))

set_option maxHeartbeats 2000000 in
set_option maxRecDepth 100000 in
theorem toIntS_any (v : Value) (L : List Int) (w : World) (h : Nums w v L) (hL : L.length ≤ 1048576) :
    Calls Tryz.prog 29 #[v] w fun e w' => ∃ v', e = .returned v' ∧ Nums w' v' L ∧ vfrom w.heap.size v' ∧ Below w.heap.size w w' := by
  obtain ⟨i0, hi, hz0, hz1, hz2⟩ := info_parts Tryz.info3
  obtain ⟨a, cap, rfl, hcap, hmax, hc⟩ := h
  have HC : Hid (∀ k, (hk : k < L.length) → ∃ b o, a = some ⟨b, o, none⟩ ∧ b < w.heap.size ∧ w.cell? ⟨b, o + k, none⟩ = some (.int .i64 L[k])) := hc
  clear hc hmax
  have hib : i0.bytes * L.length ≤ 281474976710656 := by rw [hz2]; omega
  have hlm : L.length ≤ maxLen := by unfold maxLen; omega
  go_enter Tryz.func29, Tryz.ntmps29
  go_wp2_with (at_make; refine wpList_make_full _ rfl _ _ 24 rfl w.heap.size 3 i0 _ 1 Tryz.underlying24 hi hz0 hz1 .i64 .i64 _ _ L.length rfl rfl rfl rfl hib hlm (Nat.le_refl _) ?_; intro w1 hown hgrow)
  have hB1 : Below w.heap.size w w1 := (Below.refl _ _).grown hgrow (Nat.le_refl _) (fun k e => by cases e)
  clear hgrow
  go_loopw [4] (fun i wr => ∃ (k : Nat) (X : List Value), k ≤ L.length ∧ i = .int .i64 k ∧ wr.ownsRow w.heap.size 3 1 (.slice (some ⟨w.heap.size, 0, none⟩) L.length L.length) L.length X ∧
      (∀ j (hj : j < L.length), j < k → X[j]? = some (.int .i64 L[j])) ∧ Below w.heap.size w wr) (fun i _ => L.length - (intOf i).toNat)
  case atStart => exact ⟨0, _, Nat.zero_le _, rfl, hown, fun j _ hj => absurd hj (by omega), hB1⟩
  case round =>
    obtain ⟨k, X, hk, rfl, hown, hX, hB⟩ := hrel
    by_cases hlt : k < L.length
    · obtain ⟨b, o, rfl, hb, h0⟩ := HC.out k hlt
      have c0 : wr.cell? ⟨b, o + k, none⟩ = some (.int .i64 L[k]) := (hB.cell (p := ⟨b, o + k, none⟩) hb).trans h0
      have HX : Hid (∀ j (hj : j < L.length), j < k → X[j]? = some (.int .i64 L[j])) := hX
      clear h0 hX
      have hXl : X.length = L.length * 1 := hown.1
      have e0 : ∃ u, wr.cell? ⟨w.heap.size, k, none⟩ = some u := by rw [hown.cellAt _ (by omega)]; exact ⟨_, List.getElem?_eq_getElem (by omega)⟩
      obtain ⟨u0, e0⟩ := e0
      have f0 := hown.frozenAt k
      go_wp2
      go_roundw
      case rel =>
        refine ⟨k + 1, _, by omega, by go_num, (hown.stored _ _).1, fun j hj hjk => ?_, hB.setCell (p := ⟨w.heap.size, k, none⟩) (Nat.le_refl _) _⟩
        by_cases hjk' : j = k
        · subst hjk'
          rw [List.getElem?_set_self (by omega)]
        · rw [List.getElem?_set_ne (by omega)]
          exact HX.out j hj (by omega)
      case measure => simp [intOf]; omega
    · go_wp2
      go_ret
      refine ⟨_, rfl, ?_, vfrom_row hown, hB⟩
      exact nums_of_row hown hlm (fun j hj => hX j hj (by omega))

end Go.Proofs.YtimgafblpmjajabGreat
