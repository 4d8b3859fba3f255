
import Derived.Test.YtimgafblpmjajabGreatWsz

namespace Go.Proofs.YtimgafblpmjajabGreat

open Go.RowKit

theorem Tryz.info57 : (Tryz.prog.info? 51).map (fun i => (i.zero, i.size, i.bytes)) = some (some (.agg #[.int .i64 0, .string ByteArray.empty, .int .i64 0, .int .i64 0]), 4, 40) := by kernel_rfl
theorem Tryz.info55 : (Tryz.prog.info? 49).map (fun i => (i.zero, i.size, i.bytes)) = some (some (.agg #[.string ByteArray.empty, .slice none 0 0]), 2, 40) := by kernel_rfl
theorem Tryz.info3 : (Tryz.prog.info? 3).map (fun i => (i.zero, i.size, i.bytes)) = some (some (.int .i64 0), 1, 8) := by kernel_rfl

theorem strV_of (l : List UInt8) : ∃ s : ByteArray, strV l = .string s := ⟨_, rfl⟩

set_option maxHeartbeats 1000000 in
set_option maxRecDepth 100000 in
theorem toLine_any (l : Ln) (w : World) :
    Calls Tryz.prog 86 #[lnV l] w fun e w' => e = .returned (lnV l) ∧ Below w.heap.size w w' := by
  unfold lnV
  obtain ⟨s, hs⟩ := strV_of l.name
  rw [hs]
  clear hs
  go_enter Tryz.func86, Tryz.ntmps86
  go_wp2
  exact bodyPost_ret (v := .agg #[.int .i64 l.op, .string s, .int .i64 l.num, .int .i64 l.skip]) (by simp [results, Tryz.results86, go_sem]) rfl ⟨rfl, (((Below.refl _ _).alloc (Nat.le_refl _) _).alloc (by simp) _).alloc (by simp; omega) _⟩

/-- A slice whose row lies from a block on. -/
def vfrom (base : Nat) (v : Value) : Prop := ∀ b o s n c, v = .slice (some ⟨b, o, s⟩) n c → base ≤ b

theorem set4_same {X : List Value} {n k : Nat} {a b c d : Value} (hX : X.length = n * 4) (hk : k < n) :
    ((((X.set (k * 4) a).set (k * 4 + 1) b).set (k * 4 + 2) c).set (k * 4 + 3) d)[k * 4]? = some a ∧ ((((X.set (k * 4) a).set (k * 4 + 1) b).set (k * 4 + 2) c).set (k * 4 + 3) d)[k * 4 + 1]? = some b ∧
    ((((X.set (k * 4) a).set (k * 4 + 1) b).set (k * 4 + 2) c).set (k * 4 + 3) d)[k * 4 + 2]? = some c ∧ ((((X.set (k * 4) a).set (k * 4 + 1) b).set (k * 4 + 2) c).set (k * 4 + 3) d)[k * 4 + 3]? = some d := by
  refine ⟨?_, ?_, ?_, ?_⟩ <;> simp [List.getElem?_set] <;> omega
theorem set4_other {a b c d : Value} (X : List Value) {j k : Nat} (h : j ≠ k) (i : Nat) (hi : i < 4) :
    ((((X.set (k * 4) a).set (k * 4 + 1) b).set (k * 4 + 2) c).set (k * 4 + 3) d)[j * 4 + i]? = X[j * 4 + i]? := by
  rw [List.getElem?_set_ne (by omega), List.getElem?_set_ne (by omega), List.getElem?_set_ne (by omega), List.getElem?_set_ne (by omega)]

theorem lns_of_row {W : World} {base g n : Nat} {X : List Value} {L : List Ln} (h : W.ownsRow base 51 4 (.slice (some ⟨g, 0, none⟩) L.length n) L.length X) (hn : n ≤ maxLen)
    (hX : ∀ j (hj : j < L.length), X[j * 4]? = some (.int .i64 L[j].op) ∧ X[j * 4 + 1]? = some (strV L[j].name) ∧ X[j * 4 + 2]? = some (.int .i64 L[j].num) ∧ X[j * 4 + 3]? = some (.int .i64 L[j].skip)) :
    Lns W (.slice (some ⟨g, 0, none⟩) L.length n) L := by
  have hc := h.cellAt
  have hg : L.length ≤ n ∧ g < W.heap.size := by
    rcases h.2 with ⟨h', _⟩ | ⟨g', cap', cur, h', _, hg, hc, _⟩
    · cases h'
    · cases h'; exact ⟨hc, (Array.getElem?_eq_some_iff.1 hg).1⟩
  refine ⟨_, n, rfl, hg.1, hn, fun k hk => ⟨g, 0, rfl, hg.2, ?_, ?_, ?_, ?_⟩⟩
  all_goals rw [Nat.zero_add, hc _ (by omega)]
  · exact (hX k hk).1
  · exact (hX k hk).2.1
  · exact (hX k hk).2.2.1
  · exact (hX k hk).2.2.2

set_option maxHeartbeats 2000000 in
set_option maxRecDepth 100000 in
theorem toLineS_any (v : Value) (L : List Ln) (w : World) (h : Lns w v L) (hL : L.length ≤ 1048576) :
    Calls Tryz.prog 67 #[v] w fun e w' => ∃ v', e = .returned v' ∧ Lns w' v' L ∧ vfrom w.heap.size v' ∧ Below w.heap.size w w' := by
  obtain ⟨i0, hi, hz0, hz1, hz2⟩ := info_parts Tryz.info57
  obtain ⟨a, cap, rfl, hcap, hmax, hc⟩ := h
  have HC : Hid (∀ k, (hk : k < L.length) → ∃ b o, a = some ⟨b, o, none⟩ ∧ b < w.heap.size ∧
    w.cell? ⟨b, o + k * 4, none⟩ = some (.int .i64 L[k].op) ∧ w.cell? ⟨b, o + k * 4 + 1, none⟩ = some (strV L[k].name) ∧ w.cell? ⟨b, o + k * 4 + 2, none⟩ = some (.int .i64 L[k].num) ∧ w.cell? ⟨b, o + k * 4 + 3, none⟩ = some (.int .i64 L[k].skip)) := hc
  clear hc hmax
  have hib : i0.bytes * L.length ≤ 281474976710656 := by rw [hz2]; omega
  have hlm : L.length ≤ maxLen := by unfold maxLen; omega
  go_enter Tryz.func67, Tryz.ntmps67
  go_wp2_with (at_make; refine wpList_make_full _ rfl _ _ 47 rfl w.heap.size 51 i0 _ 4 Tryz.underlying47 hi hz0 hz1 .i64 .i64 _ _ L.length rfl rfl rfl rfl hib hlm (Nat.le_refl _) ?_; intro w1 hown hgrow)
  have hB1 : Below w.heap.size w w1 := (Below.refl _ _).grown hgrow (Nat.le_refl _) (fun k e => by cases e)
  clear hgrow
  go_loopw [4] (fun i wr => ∃ (k : Nat) (X : List Value), k ≤ L.length ∧ i = .int .i64 k ∧ wr.ownsRow w.heap.size 51 4 (.slice (some ⟨w.heap.size, 0, none⟩) L.length L.length) L.length X ∧
      (∀ j (hj : j < L.length), j < k → X[j * 4]? = some (.int .i64 L[j].op) ∧ X[j * 4 + 1]? = some (strV L[j].name) ∧ X[j * 4 + 2]? = some (.int .i64 L[j].num) ∧ X[j * 4 + 3]? = some (.int .i64 L[j].skip)) ∧ Below w.heap.size w wr) (fun i _ => L.length - (intOf i).toNat)
  case atStart => exact ⟨0, _, Nat.zero_le _, rfl, hown, fun j _ hj => absurd hj (by omega), hB1⟩
  case round =>
    obtain ⟨k, X, hk, rfl, hown, hX, hB⟩ := hrel
    by_cases hlt : k < L.length
    · obtain ⟨b, o, rfl, hb, h0, h1, h2, h3⟩ := HC.out k hlt
      have c0 : wr.cell? ⟨b, o + k * 4, none⟩ = some (.int .i64 L[k].op) := (hB.cell (p := ⟨b, o + k * 4, none⟩) hb).trans h0
      have c1 : wr.cell? ⟨b, o + k * 4 + 1, none⟩ = some (strV L[k].name) := (hB.cell (p := ⟨b, o + k * 4 + 1, none⟩) hb).trans h1
      have c2 : wr.cell? ⟨b, o + k * 4 + 2, none⟩ = some (.int .i64 L[k].num) := (hB.cell (p := ⟨b, o + k * 4 + 2, none⟩) hb).trans h2
      have c3 : wr.cell? ⟨b, o + k * 4 + 3, none⟩ = some (.int .i64 L[k].skip) := (hB.cell (p := ⟨b, o + k * 4 + 3, none⟩) hb).trans h3
      have HX : Hid (∀ j (hj : j < L.length), j < k → X[j * 4]? = some (.int .i64 L[j].op) ∧ X[j * 4 + 1]? = some (strV L[j].name) ∧ X[j * 4 + 2]? = some (.int .i64 L[j].num) ∧ X[j * 4 + 3]? = some (.int .i64 L[j].skip)) := hX
      clear h0 h1 h2 h3 hX
      go_wp2_with fail
      refine (toLine_any L[k] wr).mono ?_
      unfold lnV
      obtain ⟨s, hs⟩ := strV_of L[k].name
      have HS : Hid (strV L[k].name = .string s) := hs
      rw [hs]
      clear hs c0 c1 c2 c3
      rintro e w1 ⟨rfl, hb1⟩
      have hown1 := own_below hown hb1 (Nat.le_refl _)
      have hXl : X.length = L.length * 4 := hown1.1
      have e0 : ∃ u, w1.cell? ⟨w.heap.size, k * 4, none⟩ = some u := by rw [hown1.cellAt _ (by omega)]; exact ⟨_, List.getElem?_eq_getElem (by omega)⟩
      have e1 : ∃ u, w1.cell? ⟨w.heap.size, k * 4 + 1, none⟩ = some u := by rw [hown1.cellAt _ (by omega)]; exact ⟨_, List.getElem?_eq_getElem (by omega)⟩
      have e2 : ∃ u, w1.cell? ⟨w.heap.size, k * 4 + 2, none⟩ = some u := by rw [hown1.cellAt _ (by omega)]; exact ⟨_, List.getElem?_eq_getElem (by omega)⟩
      have e3 : ∃ u, w1.cell? ⟨w.heap.size, k * 4 + 3, none⟩ = some u := by rw [hown1.cellAt _ (by omega)]; exact ⟨_, List.getElem?_eq_getElem (by omega)⟩
      obtain ⟨u0, e0⟩ := e0
      obtain ⟨u1, e1⟩ := e1
      obtain ⟨u2, e2⟩ := e2
      obtain ⟨u3, e3⟩ := e3
      have f0 := hown1.frozenAt (k * 4)
      have f1 := hown1.frozenAt (k * 4 + 1)
      have f2 := hown1.frozenAt (k * 4 + 2)
      have f3 := hown1.frozenAt (k * 4 + 3)
      go_wp2
      go_roundw
      case rel =>
        refine ⟨k + 1, _, by omega, by go_num, ((((hown1.stored _ _).1.stored _ _).1.stored _ _).1.stored _ _).1, fun j hj hjk => ?_, ((((hB.trans (hb1.mono hB.size)).setCell (p := ⟨w.heap.size, k * 4, none⟩) (Nat.le_refl _) _).setCell (p := ⟨w.heap.size, k * 4 + 1, none⟩) (Nat.le_refl _) _).setCell (p := ⟨w.heap.size, k * 4 + 2, none⟩) (Nat.le_refl _) _).setCell (p := ⟨w.heap.size, k * 4 + 3, none⟩) (Nat.le_refl _) _⟩
        by_cases hjk' : j = k
        · subst hjk'
          obtain ⟨g0, g1, g2, g3⟩ := set4_same (a := .int .i64 L[j].op) (b := .string s) (c := .int .i64 L[j].num) (d := .int .i64 L[j].skip) hXl hlt
          exact ⟨g0, by rw [HS.out]; exact g1, g2, g3⟩
        · obtain ⟨x0, x1, x2, x3⟩ := HX.out j hj (by omega)
          have hg := fun i hi => set4_other (a := .int .i64 L[k].op) (b := .string s) (c := .int .i64 L[k].num) (d := .int .i64 L[k].skip) X hjk' i hi
          exact ⟨(hg 0 (by omega)).trans x0, (hg 1 (by omega)).trans x1, (hg 2 (by omega)).trans x2, (hg 3 (by omega)).trans x3⟩
      case measure => simp [intOf]; omega
    · go_wp2
      go_ret
      refine ⟨_, rfl, ?_, fun b o s n c e => by cases e; exact Nat.le_refl _, hB⟩
      exact lns_of_row hown hlm (fun j hj => hX j hj (by omega))
end Go.Proofs.YtimgafblpmjajabGreat
