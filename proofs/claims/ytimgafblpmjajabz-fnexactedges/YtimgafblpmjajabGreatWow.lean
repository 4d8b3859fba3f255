
import Derived.Test.YtimgafblpmjajabGreatWtd

namespace Go.Proofs.YtimgafblpmjajabGreat

open Go.RowKit

def lnR (l : Ln) : List Value := [.int .i64 l.op, strV l.name, .int .i64 l.num, .int .i64 l.skip]
theorem lnR_len (L : List Ln) : (L.flatMap lnR).length = L.length * 4 := by
  induction L with
  | nil => rfl
  | cons x r ih => simp only [List.flatMap_cons, List.length_append, ih, lnR, List.length_cons, List.length_nil]; omega
theorem lnR_get : ∀ (L : List Ln) (k : Nat) (h : k < L.length), (L.flatMap lnR)[k * 4]? = some (.int .i64 L[k].op) ∧ (L.flatMap lnR)[k * 4 + 1]? = some (strV L[k].name) ∧ (L.flatMap lnR)[k * 4 + 2]? = some (.int .i64 L[k].num) ∧ (L.flatMap lnR)[k * 4 + 3]? = some (.int .i64 L[k].skip)
  | [], _, h => absurd h (by simp)
  | x :: r, 0, _ => by simp [lnR]
  | x :: r, k + 1, h => by
    have h' : k < r.length := by simpa using h
    obtain ⟨i0, i1, i2, i3⟩ := lnR_get r k h'
    have e : ∀ j, ((x :: r).flatMap lnR)[j + 4]? = (r.flatMap lnR)[j]? := fun j => by
      rw [List.flatMap_cons, List.getElem?_append_right (by simp [lnR])]; simp [lnR]
    have e0 : (k + 1) * 4 = k * 4 + 4 := by omega
    have e1 : (k + 1) * 4 + 1 = (k * 4 + 1) + 4 := by omega
    have e2 : (k + 1) * 4 + 2 = (k * 4 + 2) + 4 := by omega
    have e3 : (k + 1) * 4 + 3 = (k * 4 + 3) + 4 := by omega
    rw [e1, e2, e3, e0, e, e, e, e]
    simp only [List.getElem_cons_succ]
    exact ⟨i0, i1, i2, i3⟩
theorem lnR_eq {X : List Value} {L : List Ln} (hX : X.length = L.length * 4) (h : ∀ j (hj : j < L.length), X[j * 4]? = some (.int .i64 L[j].op) ∧ X[j * 4 + 1]? = some (strV L[j].name) ∧ X[j * 4 + 2]? = some (.int .i64 L[j].num) ∧ X[j * 4 + 3]? = some (.int .i64 L[j].skip)) : X = L.flatMap lnR := by
  apply List.ext_getElem?
  intro i
  by_cases hi : i / 4 < L.length
  · obtain ⟨a0, a1, a2, a3⟩ := h _ hi
    obtain ⟨b0, b1, b2, b3⟩ := lnR_get L _ hi
    have hm : i % 4 = 0 ∨ i % 4 = 1 ∨ i % 4 = 2 ∨ i % 4 = 3 := by omega
    rcases hm with hm | hm | hm | hm
    · rw [show i = i / 4 * 4 by omega, a0, b0]
    · rw [show i = i / 4 * 4 + 1 by omega]; exact a1.trans b1.symm
    · rw [show i = i / 4 * 4 + 2 by omega]; exact a2.trans b2.symm
    · rw [show i = i / 4 * 4 + 3 by omega]; exact a3.trans b3.symm
  · rw [List.getElem?_eq_none (by omega), List.getElem?_eq_none (by rw [lnR_len]; omega)]
theorem lns_own {w : World} {base : Nat} {v : Value} {L : List Ln} (h : w.ownsRow base 51 4 v L.length (L.flatMap lnR)) : Lns w v L := by
  rcases h.2 with ⟨hv, hn⟩ | ⟨g, cap, cur, hv, hg, hh, hc, hm, _⟩
  · exact ⟨none, 0, by rw [hv, hn], by omega, by unfold maxLen; omega, fun k hk => by omega⟩
  · subst hv
    exact lns_of_row h hm (fun j hj => lnR_get L j hj)
theorem nums_own {w : World} {base : Nat} {v : Value} {L : List Int} (h : w.ownsRow base 3 1 v L.length (L.map i64V)) : Nums w v L := by
  rcases h.2 with ⟨hv, hn⟩ | ⟨g, cap, cur, hv, hg, hh, hc, hm, _⟩
  · exact ⟨none, 0, by rw [hv, hn], by omega, by unfold maxLen; omega, fun k hk => by omega⟩
  · subst hv
    exact nums_of_row h hm (fun j hj => by simp [hj]; rfl)
theorem own_block {w w' : World} {base : Nat} {e : TypeId} {size : Nat} {v : Value} {n : Nat} {xs : List Value} (h : w.ownsRow base e size v n xs) (hk : ∀ b, v.ownBlock = some b → w'.heap[b]? = w.heap[b]?) : w'.ownsRow base e size v n xs := by
  obtain ⟨h1, h2 | ⟨g, cap, cur, hv, hg, hh, r⟩⟩ := h
  · exact ⟨h1, .inl h2⟩
  · exact ⟨h1, .inr ⟨g, cap, cur, hv, hg, by rw [hk g (by rw [hv]; rfl)]; exact hh, r⟩⟩
theorem own_set {w : World} {base : Nat} {e : TypeId} {size : Nat} {v : Value} {n : Nat} {xs : List Value} {B : Nat} (h : w.ownsRow base e size v n xs) (hB : B < base) (o : Nat) (u : Value) : (w.setCell ⟨B, o, none⟩ u).ownsRow base e size v n xs :=
  own_block h (fun b hb => by
    have := (h.lt b hb).1
    exact Below.heap_setCell _ _ _ _ (by show b ≠ B; omega))

/-- A row of modules, each with a row of lines, all of a call's own. -/
def Mrow (base : Nat) (w : World) (v : Value) (M : List Md) (X : List Value) : Prop :=
  w.ownsRow base 49 2 v M.length X ∧ ∀ j (hj : j < M.length), ∃ ls, X[j * 2]? = some (strV M[j].name) ∧ X[j * 2 + 1]? = some ls ∧ w.ownsRow base 51 4 ls M[j].lines.length (M[j].lines.flatMap lnR)
theorem Mrow.below {base B : Nat} {w w' : World} {v : Value} {M : List Md} {X : List Value} (h : Mrow base w v M X) (hb : Below B w w') (hB : w.heap.size ≤ B) : Mrow base w' v M X :=
  ⟨own_below h.1 hb hB, fun j hj => by obtain ⟨ls, h1, h2, h3⟩ := h.2 j hj; exact ⟨ls, h1, h2, own_below h3 hb hB⟩⟩
theorem Mrow.set {base B : Nat} {w : World} {v : Value} {M : List Md} {X : List Value} (h : Mrow base w v M X) (hB : B < base) (o : Nat) (u : Value) : Mrow base (w.setCell ⟨B, o, none⟩ u) v M X :=
  ⟨own_set h.1 hB _ _, fun j hj => by obtain ⟨ls, h1, h2, h3⟩ := h.2 j hj; exact ⟨ls, h1, h2, own_set h3 hB _ _⟩⟩
theorem Mrow.mono {base base' : Nat} {w : World} {v : Value} {M : List Md} {X : List Value} (h : Mrow base w v M X) (hb : base' ≤ base) : Mrow base' w v M X :=
  ⟨own_mono h.1 hb, fun j hj => by obtain ⟨ls, h1, h2, h3⟩ := h.2 j hj; exact ⟨ls, h1, h2, own_mono h3 hb⟩⟩
theorem Mrow.mds {base : Nat} {w : World} {v : Value} {M : List Md} {X : List Value} (h : Mrow base w v M X) : Mds w v M := by
  rcases h.1.2 with ⟨hv, hn⟩ | ⟨g, cap, cur, hv, hg, hh, hc, hm, _⟩
  · exact ⟨none, 0, by rw [hv, hn], by omega, by unfold maxLen; omega, fun k hk => by omega⟩
  · subst hv
    have hca := h.1.cellAt
    refine ⟨_, cap, rfl, hc, hm, fun k hk => ?_⟩
    obtain ⟨ls, h1, h2, h3⟩ := h.2 k hk
    exact ⟨g, 0, ls, rfl, (Array.getElem?_eq_some_iff.1 hh).1, by rw [Nat.zero_add, hca _ (by omega)]; exact h1, by rw [Nat.zero_add, hca _ (by omega)]; exact h2, lns_own h3⟩
/-- A world all of whose rows are a call's own. -/
def Wdo (base : Nat) (w : World) (v : Value) (D : Wd) : Prop :=
  ∃ r m f X, v = .agg #[r, m, f] ∧ w.ownsRow base 9 1 r D.roots.length (D.roots.map strV) ∧ Mrow base w m D.mods X ∧ w.ownsRow base 3 1 f D.faults.length (D.faults.map i64V)
theorem Wdo.wds {base : Nat} {w : World} {v : Value} {D : Wd} (h : Wdo base w v D) : Wds w v D := by
  obtain ⟨r, m, f, X, rfl, h1, h2, h3⟩ := h
  exact ⟨r, m, f, rfl, Strs.of_row h1, h2.mds, nums_own h3⟩
theorem Wdo.below {base : Nat} {w w' : World} {v : Value} {D : Wd} {B : Nat} (h : Wdo base w v D) (hb : Below B w w') (hB : w.heap.size ≤ B) : Wdo base w' v D := by
  obtain ⟨r, m, f, X, rfl, h1, h2, h3⟩ := h
  exact ⟨r, m, f, X, rfl, own_below h1 hb hB, h2.below hb hB, own_below h3 hb hB⟩

set_option maxHeartbeats 2000000 in
set_option maxRecDepth 100000 in
theorem toLineS_own (v : Value) (L : List Ln) (w : World) (h : Lns w v L) (hL : L.length ≤ 1048576) :
    Calls Tryz.prog 67 #[v] w fun e w' => ∃ v', e = .returned v' ∧ w'.ownsRow w.heap.size 51 4 v' L.length (L.flatMap lnR) ∧ Below w.heap.size w w' := by
  obtain ⟨i0, hi, hz0, hz1, hz2⟩ := info_parts Tryz.info57
  obtain ⟨a, cap, rfl, hcap, hmax, hc⟩ := h
  have HC : Hid (∀ k, (hk : k < L.length) → ∃ b o, a = some ⟨b, o, none⟩ ∧ b < w.heap.size ∧
    w.cell? ⟨b, o + k * 4, none⟩ = some (.int .i64 L[k].op) ∧ w.cell? ⟨b, o + k * 4 + 1, none⟩ = some (strV L[k].name) ∧ w.cell? ⟨b, o + k * 4 + 2, none⟩ = some (.int .i64 L[k].num) ∧ w.cell? ⟨b, o + k * 4 + 3, none⟩ = some (.int .i64 L[k].skip)) := hc
  clear hc hmax
  have hib : i0.bytes * L.length ≤ 281474976710656 := by rw [hz2]; omega
  have hlm : L.length ≤ maxLen := by unfold maxLen; omega
  go_enter Tryz.func67, Tryz.ntmps67
  go_wp2_with (at_make; refine wpList_make_full _ rfl _ _ 47 rfl w.heap.size 51 i0 _ 4 Tryz.underlying47 hi hz0 hz1 .i64 .i64 _ _ L.length rfl rfl rfl rfl hib hlm (Nat.le_refl _) ?_; intro w1 hown hgrow)
  have hB1 : Below w.heap.size w w1 := (Below.refl _ _).grown hgrow (Nat.le_refl _) (fun k e => by cases e)
  clear hgrow
  go_loopw [4] (fun i wr => ∃ (k : Nat) (X : List Value), k ≤ L.length ∧ i = .int .i64 k ∧ wr.ownsRow w.heap.size 51 4 (.slice (some ⟨w.heap.size, 0, none⟩) L.length L.length) L.length X ∧
      (∀ j (hj : j < L.length), j < k → X[j * 4]? = some (.int .i64 L[j].op) ∧ X[j * 4 + 1]? = some (strV L[j].name) ∧ X[j * 4 + 2]? = some (.int .i64 L[j].num) ∧ X[j * 4 + 3]? = some (.int .i64 L[j].skip)) ∧ Below w.heap.size w wr) (fun i _ => L.length - (intOf i).toNat)
  case atStart => exact ⟨0, _, Nat.zero_le _, rfl, hown, fun j _ hj => absurd hj (by omega), hB1⟩
  case round =>
    obtain ⟨k, X, hk, rfl, hown, hX, hB⟩ := hrel
    by_cases hlt : k < L.length
    · obtain ⟨b, o, rfl, hb, h0, h1, h2, h3⟩ := HC.out k hlt
      have c0 : wr.cell? ⟨b, o + k * 4, none⟩ = some (.int .i64 L[k].op) := (hB.cell (p := ⟨b, o + k * 4, none⟩) hb).trans h0
      have c1 : wr.cell? ⟨b, o + k * 4 + 1, none⟩ = some (strV L[k].name) := (hB.cell (p := ⟨b, o + k * 4 + 1, none⟩) hb).trans h1
      have c2 : wr.cell? ⟨b, o + k * 4 + 2, none⟩ = some (.int .i64 L[k].num) := (hB.cell (p := ⟨b, o + k * 4 + 2, none⟩) hb).trans h2
      have c3 : wr.cell? ⟨b, o + k * 4 + 3, none⟩ = some (.int .i64 L[k].skip) := (hB.cell (p := ⟨b, o + k * 4 + 3, none⟩) hb).trans h3
      have HX : Hid (∀ j (hj : j < L.length), j < k → X[j * 4]? = some (.int .i64 L[j].op) ∧ X[j * 4 + 1]? = some (strV L[j].name) ∧ X[j * 4 + 2]? = some (.int .i64 L[j].num) ∧ X[j * 4 + 3]? = some (.int .i64 L[j].skip)) := hX
      clear h0 h1 h2 h3 hX
      go_wp2_with fail
      refine (toLine_any L[k] wr).mono ?_
      unfold lnV
      obtain ⟨s, hs⟩ := strV_of L[k].name
      have HS : Hid (strV L[k].name = .string s) := hs
      rw [hs]
      clear hs c0 c1 c2 c3
      rintro e w1 ⟨rfl, hb1⟩
      have hown1 := own_below hown hb1 (Nat.le_refl _)
      have hXl : X.length = L.length * 4 := hown1.1
      have e0 : ∃ u, w1.cell? ⟨w.heap.size, k * 4, none⟩ = some u := by rw [hown1.cellAt _ (by omega)]; exact ⟨_, List.getElem?_eq_getElem (by omega)⟩
      have e1 : ∃ u, w1.cell? ⟨w.heap.size, k * 4 + 1, none⟩ = some u := by rw [hown1.cellAt _ (by omega)]; exact ⟨_, List.getElem?_eq_getElem (by omega)⟩
      have e2 : ∃ u, w1.cell? ⟨w.heap.size, k * 4 + 2, none⟩ = some u := by rw [hown1.cellAt _ (by omega)]; exact ⟨_, List.getElem?_eq_getElem (by omega)⟩
      have e3 : ∃ u, w1.cell? ⟨w.heap.size, k * 4 + 3, none⟩ = some u := by rw [hown1.cellAt _ (by omega)]; exact ⟨_, List.getElem?_eq_getElem (by omega)⟩
      obtain ⟨u0, e0⟩ := e0
      obtain ⟨u1, e1⟩ := e1
      obtain ⟨u2, e2⟩ := e2
      obtain ⟨u3, e3⟩ := e3
      have f0 := hown1.frozenAt (k * 4)
      have f1 := hown1.frozenAt (k * 4 + 1)
      have f2 := hown1.frozenAt (k * 4 + 2)
      have f3 := hown1.frozenAt (k * 4 + 3)
      go_wp2
      go_roundw
      case rel =>
        refine ⟨k + 1, _, by omega, by go_num, ((((hown1.stored _ _).1.stored _ _).1.stored _ _).1.stored _ _).1, fun j hj hjk => ?_, ((((hB.trans (hb1.mono hB.size)).setCell (p := ⟨w.heap.size, k * 4, none⟩) (Nat.le_refl _) _).setCell (p := ⟨w.heap.size, k * 4 + 1, none⟩) (Nat.le_refl _) _).setCell (p := ⟨w.heap.size, k * 4 + 2, none⟩) (Nat.le_refl _) _).setCell (p := ⟨w.heap.size, k * 4 + 3, none⟩) (Nat.le_refl _) _⟩
        by_cases hjk' : j = k
        · subst hjk'
          obtain ⟨g0, g1, g2, g3⟩ := set4_same (a := .int .i64 L[j].op) (b := .string s) (c := .int .i64 L[j].num) (d := .int .i64 L[j].skip) hXl hlt
          exact ⟨g0, by rw [HS.out]; exact g1, g2, g3⟩
        · obtain ⟨x0, x1, x2, x3⟩ := HX.out j hj (by omega)
          have hg := fun i hi => set4_other (a := .int .i64 L[k].op) (b := .string s) (c := .int .i64 L[k].num) (d := .int .i64 L[k].skip) X hjk' i hi
          exact ⟨(hg 0 (by omega)).trans x0, (hg 1 (by omega)).trans x1, (hg 2 (by omega)).trans x2, (hg 3 (by omega)).trans x3⟩
      case measure => simp [intOf]; omega
    · go_wp2
      go_ret
      have hXl : X.length = L.length * 4 := hown.1
      rw [lnR_eq hXl (fun j hj => hX j hj (by omega))] at hown
      exact ⟨_, rfl, hown, hB⟩

set_option maxHeartbeats 2000000 in
set_option maxRecDepth 100000 in
theorem toModule_own (m : Md) (s : Value) (w : World) (h : Lns w s m.lines) (hL : m.lines.length ≤ 1048576) :
    Calls Tryz.prog 49 #[mdV m.name s] w fun e w' => ∃ s', e = .returned (mdV m.name s') ∧ w'.ownsRow w.heap.size 51 4 s' m.lines.length (m.lines.flatMap lnR) ∧ Below w.heap.size w w' := by
  unfold mdV
  obtain ⟨n, hs⟩ := strV_of m.name
  rw [hs]
  clear hs
  obtain ⟨a, cap, rfl⟩ := h.slice
  obtain ⟨W, hW⟩ : ∃ W, W = ((w.alloc (.cells #[.string n, .slice a m.lines.length cap] 86)).alloc (.cells #[.string ⟨#[]⟩, .slice none 0 0] 49)).alloc (.cells #[.string n, .slice none 0 0] 49) := ⟨_, rfl⟩
  have h1 : Lns W (.slice a m.lines.length cap) m.lines := by rw [hW]; exact h.below (below_alloc3 _ _ _) (Nat.le_refl _)
  have hWB : Below w.heap.size w W := by rw [hW]; exact below_alloc3 _ _ _
  have hWs : W.heap.size = w.heap.size + 1 + 1 + 1 := by rw [hW]; simp
  have hd0 : W.cell? ⟨w.heap.size + 1 + 1, 0, none⟩ = some (.string n) := by rw [hW]; simp [go_sem]
  have hd1 : W.cell? ⟨w.heap.size + 1 + 1, 1, none⟩ = some (.slice none 0 0) := by rw [hW]; simp [go_sem]
  have hd2 : W.frozen? ⟨w.heap.size + 1 + 1, 1, none⟩ = false := by rw [hW]; simp [go_sem]
  have he0 : W.cell? ⟨w.heap.size + 1, 0, none⟩ = some (.string ⟨#[]⟩) := by rw [hW]; simp [go_sem]
  have he1 : W.cell? ⟨w.heap.size + 1, 1, none⟩ = some (.slice none 0 0) := by rw [hW]; simp [go_sem]
  have he2 : W.frozen? ⟨w.heap.size + 1, 0, none⟩ = false := by rw [hW]; simp [go_sem]
  have he3 : W.frozen? ⟨w.heap.size + 1, 1, none⟩ = false := by rw [hW]; simp [go_sem]
  go_enter Tryz.func49, Tryz.ntmps49
  go_wp2_with fail
  rw [← hW]
  clear hW
  refine (toLineS_own _ m.lines W h1 hL).mono ?_
  rintro e w1 ⟨v', rfl, ho, hb1⟩
  obtain ⟨a', cap', rfl⟩ := (lns_own ho).slice
  have d0 := below_cell0 hb1 (by omega) hd0
  have d1 := below_cell0 hb1 (by omega) hd1
  have d2 := below_frz hb1 (by omega) hd2
  have c0 := below_cell0 hb1 (by omega) he0
  have c1 := below_cell0 hb1 (by omega) he1
  have c2 := below_frz hb1 (by omega) he2
  have c3 := below_frz hb1 (by omega) he3
  clear hd0 hd1 hd2 he0 he1 he2 he3
  go_wp2
  exact bodyPost_ret (v := .agg #[.string n, .slice a' m.lines.length cap']) (by simp [results, Tryz.results49, go_sem, c0, c1]) rfl ⟨_, rfl, own_mono (own_set (own_set (own_set ho (by omega) _ _) (by omega) _ _) (by omega) _ _) (by omega),
    (((hWB.trans (hb1.mono (by omega))).setCell (p := ⟨w.heap.size + 1 + 1, 1, none⟩) (by simp only []; omega) _).setCell (p := ⟨w.heap.size + 1, 0, none⟩) (by simp only []; omega) _).setCell (p := ⟨w.heap.size + 1, 1, none⟩) (by simp only []; omega) _⟩

set_option maxHeartbeats 2000000 in
set_option maxRecDepth 100000 in
theorem toModuleS_own (v : Value) (L : List Md) (w : World) (h : Mds w v L) (hL : L.length ≤ 1048576) (hLL : ∀ m ∈ L, m.lines.length ≤ 1048576) :
    Calls Tryz.prog 28 #[v] w fun e w' => ∃ v', e = .returned v' ∧ (∃ X, Mrow w.heap.size w' v' L X) ∧ Below w.heap.size w w' := by
  obtain ⟨i0, hi, hz0, hz1, hz2⟩ := info_parts Tryz.info55
  obtain ⟨a, cap, rfl, hcap, hmax, hc⟩ := h
  have HC : Hid (∀ k, (hk : k < L.length) → ∃ b o s, a = some ⟨b, o, none⟩ ∧ b < w.heap.size ∧
    w.cell? ⟨b, o + k * 2, none⟩ = some (strV L[k].name) ∧ w.cell? ⟨b, o + k * 2 + 1, none⟩ = some s ∧ Lns w s L[k].lines) := hc
  have HLL : Hid (∀ m ∈ L, m.lines.length ≤ 1048576) := hLL
  clear hc hmax hLL
  have hib : i0.bytes * L.length ≤ 281474976710656 := by rw [hz2]; omega
  have hlm : L.length ≤ maxLen := by unfold maxLen; omega
  go_enter Tryz.func28, Tryz.ntmps28
  go_wp2_with (at_make; refine wpList_make_full _ rfl _ _ 30 rfl w.heap.size 49 i0 _ 2 Tryz.underlying30 hi hz0 hz1 .i64 .i64 _ _ L.length rfl rfl rfl rfl hib hlm (Nat.le_refl _) ?_; intro w1 hown hgrow)
  have hB1 : Below w.heap.size w w1 := (Below.refl _ _).grown hgrow (Nat.le_refl _) (fun k e => by cases e)
  clear hgrow
  go_loopw [4] (fun i wr => ∃ (k : Nat) (X : List Value), k ≤ L.length ∧ i = .int .i64 k ∧ wr.ownsRow w.heap.size 49 2 (.slice (some ⟨w.heap.size, 0, none⟩) L.length L.length) L.length X ∧
      (∀ j (hj : j < L.length), j < k → ∃ s, X[j * 2]? = some (strV L[j].name) ∧ X[j * 2 + 1]? = some s ∧ wr.ownsRow (w.heap.size + 1) 51 4 s L[j].lines.length (L[j].lines.flatMap lnR)) ∧ Below w.heap.size w wr) (fun i _ => L.length - (intOf i).toNat)
  case atStart => exact ⟨0, _, Nat.zero_le _, rfl, hown, fun j _ hj => absurd hj (by omega), hB1⟩
  case round =>
    obtain ⟨k, X, hk, rfl, hown, hX, hB⟩ := hrel
    by_cases hlt : k < L.length
    · obtain ⟨b, o, s, rfl, hb, h0, h1, h2⟩ := HC.out k hlt
      have c0 : wr.cell? ⟨b, o + k * 2, none⟩ = some (strV L[k].name) := (hB.cell (p := ⟨b, o + k * 2, none⟩) hb).trans h0
      have c1 : wr.cell? ⟨b, o + k * 2 + 1, none⟩ = some s := (hB.cell (p := ⟨b, o + k * 2 + 1, none⟩) hb).trans h1
      have HX : Hid (∀ j (hj : j < L.length), j < k → ∃ s, X[j * 2]? = some (strV L[j].name) ∧ X[j * 2 + 1]? = some s ∧ wr.ownsRow (w.heap.size + 1) 51 4 s L[j].lines.length (L[j].lines.flatMap lnR)) := hX
      have h3 := h2.below hB (Nat.le_refl _)
      have hwr := (own_lt hown).2
      clear h0 h1 h2 hX
      go_wp2_with fail
      refine (toModule_own L[k] s wr h3 (HLL.out _ (List.getElem_mem hlt))).mono ?_
      unfold mdV
      obtain ⟨n, hs⟩ := strV_of L[k].name
      have HS : Hid (strV L[k].name = .string n) := hs
      rw [hs]
      clear hs c0 c1
      rintro e w1 ⟨s', rfl, ho, hb1⟩
      obtain ⟨a', cap', rfl⟩ := (lns_own ho).slice
      have hown1 := own_below hown hb1 (Nat.le_refl _)
      have hXl : X.length = L.length * 2 := hown1.1
      have e0 : ∃ u, w1.cell? ⟨w.heap.size, k * 2, none⟩ = some u := by rw [hown1.cellAt _ (by omega)]; exact ⟨_, List.getElem?_eq_getElem (by omega)⟩
      have e1 : ∃ u, w1.cell? ⟨w.heap.size, k * 2 + 1, none⟩ = some u := by rw [hown1.cellAt _ (by omega)]; exact ⟨_, List.getElem?_eq_getElem (by omega)⟩
      obtain ⟨u0, e0⟩ := e0
      obtain ⟨u1, e1⟩ := e1
      have f0 := hown1.frozenAt (k * 2)
      have f1 := hown1.frozenAt (k * 2 + 1)
      go_wp2
      go_roundw
      case rel =>
        refine ⟨k + 1, _, by omega, by go_num, ((hown1.stored _ _).1.stored _ _).1, fun j hj hjk => ?_, ((hB.trans (hb1.mono hB.size)).setCell (p := ⟨w.heap.size, k * 2, none⟩) (Nat.le_refl _) _).setCell (p := ⟨w.heap.size, k * 2 + 1, none⟩) (Nat.le_refl _) _⟩
        by_cases hjk' : j = k
        · subst hjk'
          obtain ⟨g0, g1⟩ := set2_same (a := .string n) (b := .slice a' L[j].lines.length cap') hXl hlt
          exact ⟨_, by rw [HS.out]; exact g0, g1, own_set (own_set (own_mono ho hwr) (by omega) _ _) (by omega) _ _⟩
        · obtain ⟨s, x0, x1, x2⟩ := HX.out j hj (by omega)
          have hg := fun i hi => set2_other (a := .string n) (b := .slice a' L[k].lines.length cap') X hjk' i hi
          exact ⟨s, (hg 0 (by omega)).trans x0, (hg 1 (by omega)).trans x1, own_set (own_set (own_below x2 hb1 (Nat.le_refl _)) (by omega) _ _) (by omega) _ _⟩
      case measure => simp [intOf]; omega
    · go_wp2
      go_ret
      refine ⟨_, rfl, ?_, hB⟩
      exact ⟨X, hown, fun j hj => by obtain ⟨s, x0, x1, x2⟩ := hX j hj (by omega); exact ⟨s, x0, x1, own_mono x2 (by omega)⟩⟩

set_option maxHeartbeats 2000000 in
set_option maxRecDepth 100000 in
theorem toIntS_own (v : Value) (L : List Int) (w : World) (h : Nums w v L) (hL : L.length ≤ 1048576) :
    Calls Tryz.prog 29 #[v] w fun e w' => ∃ v', e = .returned v' ∧ w'.ownsRow w.heap.size 3 1 v' L.length (L.map i64V) ∧ Below w.heap.size w w' := by
  obtain ⟨i0, hi, hz0, hz1, hz2⟩ := info_parts Tryz.info3
  obtain ⟨a, cap, rfl, hcap, hmax, hc⟩ := h
  have HC : Hid (∀ k, (hk : k < L.length) → ∃ b o, a = some ⟨b, o, none⟩ ∧ b < w.heap.size ∧ w.cell? ⟨b, o + k, none⟩ = some (.int .i64 L[k])) := hc
  clear hc hmax
  have hib : i0.bytes * L.length ≤ 281474976710656 := by rw [hz2]; omega
  have hlm : L.length ≤ maxLen := by unfold maxLen; omega
  go_enter Tryz.func29, Tryz.ntmps29
  go_wp2_with (at_make; refine wpList_make_full _ rfl _ _ 24 rfl w.heap.size 3 i0 _ 1 Tryz.underlying24 hi hz0 hz1 .i64 .i64 _ _ L.length rfl rfl rfl rfl hib hlm (Nat.le_refl _) ?_; intro w1 hown hgrow)
  have hB1 : Below w.heap.size w w1 := (Below.refl _ _).grown hgrow (Nat.le_refl _) (fun k e => by cases e)
  clear hgrow
  go_loopw [4] (fun i wr => ∃ (k : Nat) (X : List Value), k ≤ L.length ∧ i = .int .i64 k ∧ wr.ownsRow w.heap.size 3 1 (.slice (some ⟨w.heap.size, 0, none⟩) L.length L.length) L.length X ∧
      (∀ j (hj : j < L.length), j < k → X[j]? = some (.int .i64 L[j])) ∧ Below w.heap.size w wr) (fun i _ => L.length - (intOf i).toNat)
  case atStart => exact ⟨0, _, Nat.zero_le _, rfl, hown, fun j _ hj => absurd hj (by omega), hB1⟩
  case round =>
    obtain ⟨k, X, hk, rfl, hown, hX, hB⟩ := hrel
    by_cases hlt : k < L.length
    · obtain ⟨b, o, rfl, hb, h0⟩ := HC.out k hlt
      have c0 : wr.cell? ⟨b, o + k, none⟩ = some (.int .i64 L[k]) := (hB.cell (p := ⟨b, o + k, none⟩) hb).trans h0
      have HX : Hid (∀ j (hj : j < L.length), j < k → X[j]? = some (.int .i64 L[j])) := hX
      clear h0 hX
      have hXl : X.length = L.length * 1 := hown.1
      have e0 : ∃ u, wr.cell? ⟨w.heap.size, k, none⟩ = some u := by rw [hown.cellAt _ (by omega)]; exact ⟨_, List.getElem?_eq_getElem (by omega)⟩
      obtain ⟨u0, e0⟩ := e0
      have f0 := hown.frozenAt k
      go_wp2
      go_roundw
      case rel =>
        refine ⟨k + 1, _, by omega, by go_num, (hown.stored _ _).1, fun j hj hjk => ?_, hB.setCell (p := ⟨w.heap.size, k, none⟩) (Nat.le_refl _) _⟩
        by_cases hjk' : j = k
        · subst hjk'
          rw [List.getElem?_set_self (by omega)]
        · rw [List.getElem?_set_ne (by omega)]
          exact HX.out j hj (by omega)
      case measure => simp [intOf]; omega
    · go_wp2
      go_ret
      have hXl : X.length = L.length * 1 := hown.1
      have hXe : X = L.map i64V := by
        apply List.ext_getElem?
        intro i
        by_cases hi : i < L.length
        · rw [hX i hi (by omega)]; simp [hi]; rfl
        · rw [List.getElem?_eq_none (by omega), List.getElem?_eq_none (by simp; omega)]
      rw [hXe] at hown
      exact ⟨_, rfl, hown, hB⟩

set_option maxHeartbeats 2000000 in
set_option maxRecDepth 100000 in
theorem toWorld_own (v : Value) (D : Wd) (w : World) (h : Wds w v D) (hD : D.t ≤ 1048576) :
    Calls Tryz.prog 8 #[v] w fun e w' => ∃ v', e = .returned v' ∧ Wdo w.heap.size w' v' D ∧ Below w.heap.size w w' := by
  obtain ⟨vr, vm, vf, rfl, h1, h2, h3⟩ := h
  have hr1 : D.roots.length ≤ 1048576 := by have : D.roots.length ≤ Pl.total D.roots := by unfold Pl.total; omega
                                            unfold Wd.t at hD; omega
  have hm1 : D.mods.length ≤ 1048576 := by unfold Wd.t mdsT at hD; omega
  have hm2 : ∀ m ∈ D.mods, m.lines.length ≤ 1048576 := fun m hm => by
    have h1 : m.t ≤ (D.mods.map Md.t).sum := mem_le_sum _ _ (List.mem_map.2 ⟨m, hm, rfl⟩)
    have h2 : m.lines.length ≤ m.t := by unfold Md.t lnsT; omega
    unfold Wd.t mdsT at hD; omega
  have hf1 : D.faults.length ≤ 1048576 := by unfold Wd.t at hD; omega
  obtain ⟨a1, k1, rfl⟩ := h1.slice
  obtain ⟨a2, k2, rfl⟩ := h2.slice
  obtain ⟨a3, k3, rfl⟩ := h3.slice
  obtain ⟨W, hW⟩ : ∃ W, W = ((w.alloc (.cells #[.slice a1 D.roots.length k1, .slice a2 D.mods.length k2, .slice a3 D.faults.length k3] 26)).alloc (.cells #[.slice none 0 0, .slice none 0 0, .slice none 0 0] 32)).alloc (.cells #[.slice none 0 0, .slice none 0 0, .slice none 0 0] 32) := ⟨_, rfl⟩
  have hWB : Below w.heap.size w W := by rw [hW]; exact below_alloc3 _ _ _
  have hWs : W.heap.size = w.heap.size + 1 + 1 + 1 := by rw [hW]; simp
  have p1 : W.cell? ⟨w.heap.size, 1, none⟩ = some (.slice a2 D.mods.length k2) := by rw [hW]; simp [go_sem]
  have p2 : W.cell? ⟨w.heap.size, 2, none⟩ = some (.slice a3 D.faults.length k3) := by rw [hW]; simp [go_sem]
  have d0 : W.cell? ⟨w.heap.size + 1 + 1, 0, none⟩ = some (.slice none 0 0) := by rw [hW]; simp [go_sem]
  have d1 : W.cell? ⟨w.heap.size + 1 + 1, 1, none⟩ = some (.slice none 0 0) := by rw [hW]; simp [go_sem]
  have d2 : W.cell? ⟨w.heap.size + 1 + 1, 2, none⟩ = some (.slice none 0 0) := by rw [hW]; simp [go_sem]
  have f0 : W.frozen? ⟨w.heap.size + 1 + 1, 0, none⟩ = false := by rw [hW]; simp [go_sem]
  have f1 : W.frozen? ⟨w.heap.size + 1 + 1, 1, none⟩ = false := by rw [hW]; simp [go_sem]
  have f2 : W.frozen? ⟨w.heap.size + 1 + 1, 2, none⟩ = false := by rw [hW]; simp [go_sem]
  have e0 : W.cell? ⟨w.heap.size + 1, 0, none⟩ = some (.slice none 0 0) := by rw [hW]; simp [go_sem]
  have e1 : W.cell? ⟨w.heap.size + 1, 1, none⟩ = some (.slice none 0 0) := by rw [hW]; simp [go_sem]
  have e2 : W.cell? ⟨w.heap.size + 1, 2, none⟩ = some (.slice none 0 0) := by rw [hW]; simp [go_sem]
  have g0 : W.frozen? ⟨w.heap.size + 1, 0, none⟩ = false := by rw [hW]; simp [go_sem]
  have g1 : W.frozen? ⟨w.heap.size + 1, 1, none⟩ = false := by rw [hW]; simp [go_sem]
  have g2 : W.frozen? ⟨w.heap.size + 1, 2, none⟩ = false := by rw [hW]; simp [go_sem]
  go_enter Tryz.func8, Tryz.ntmps8
  go_wp2_with fail
  rw [← hW]
  clear hW
  refine (toS_any _ D.roots W (h1.below hWB (Nat.le_refl _)) hr1).mono ?_
  rintro e w1 ⟨v1, rfl, hv1, hb1⟩
  rw [hWs] at hv1
  obtain ⟨x1, y1, rfl⟩ := (Strs.of_row hv1).slice
  replace p1 := below_cell0 hb1 (by omega) p1
  replace p2 := below_cell0 hb1 (by omega) p2
  replace d0 := below_cell0 hb1 (by omega) d0
  replace d1 := below_cell0 hb1 (by omega) d1
  replace d2 := below_cell0 hb1 (by omega) d2
  replace e0 := below_cell0 hb1 (by omega) e0
  replace e1 := below_cell0 hb1 (by omega) e1
  replace e2 := below_cell0 hb1 (by omega) e2
  replace f0 := below_frz hb1 (by omega) f0
  replace f1 := below_frz hb1 (by omega) f1
  replace f2 := below_frz hb1 (by omega) f2
  replace g0 := below_frz hb1 (by omega) g0
  replace g1 := below_frz hb1 (by omega) g1
  replace g2 := below_frz hb1 (by omega) g2
  go_wp2_with fail
  obtain ⟨W1, hW1⟩ : ∃ W1, W1 = w1.setCell ⟨w.heap.size + 1 + 1, 0, none⟩ (.slice x1 D.roots.length y1) := ⟨_, rfl⟩
  rw [← hW1]
  have hsz1 : w.heap.size + 1 + 1 + 1 ≤ w1.heap.size := by have := hb1.size; omega
  have hW1s : W1.heap.size = w1.heap.size := by rw [hW1]; simp [World.setCell]
  have hBW1 : Below w.heap.size w W1 := by rw [hW1]; exact (hWB.trans (hb1.mono (by omega))).setCell (p := ⟨w.heap.size + 1 + 1, 0, none⟩) (by simp only []; omega) _
  replace hv1 := own_set (B := w.heap.size + 1 + 1) hv1 (by omega) 0 (.slice x1 D.roots.length y1)
  rw [← hW1] at hv1
  replace p1 := set_far (b := w.heap.size + 1 + 1) (o := 0) (u := .slice x1 D.roots.length y1) p1 (.inl (by omega))
  rw [← hW1] at p1
  replace p2 := set_far (b := w.heap.size + 1 + 1) (o := 0) (u := .slice x1 D.roots.length y1) p2 (.inl (by omega))
  rw [← hW1] at p2
  replace d0 := set_at (u := .slice x1 D.roots.length y1) d0
  rw [← hW1] at d0
  replace d1 := set_far (b := w.heap.size + 1 + 1) (o := 0) (u := .slice x1 D.roots.length y1) d1 (.inr (by omega))
  rw [← hW1] at d1
  replace d2 := set_far (b := w.heap.size + 1 + 1) (o := 0) (u := .slice x1 D.roots.length y1) d2 (.inr (by omega))
  rw [← hW1] at d2
  replace e0 := set_far (b := w.heap.size + 1 + 1) (o := 0) (u := .slice x1 D.roots.length y1) e0 (.inl (by omega))
  rw [← hW1] at e0
  replace e1 := set_far (b := w.heap.size + 1 + 1) (o := 0) (u := .slice x1 D.roots.length y1) e1 (.inl (by omega))
  rw [← hW1] at e1
  replace e2 := set_far (b := w.heap.size + 1 + 1) (o := 0) (u := .slice x1 D.roots.length y1) e2 (.inl (by omega))
  rw [← hW1] at e2
  replace f1 := (World.frozen?_setCell w1 ⟨w.heap.size + 1 + 1, 0, none⟩ _ (.slice x1 D.roots.length y1)).trans f1
  rw [← hW1] at f1
  replace f2 := (World.frozen?_setCell w1 ⟨w.heap.size + 1 + 1, 0, none⟩ _ (.slice x1 D.roots.length y1)).trans f2
  rw [← hW1] at f2
  replace g0 := (World.frozen?_setCell w1 ⟨w.heap.size + 1 + 1, 0, none⟩ _ (.slice x1 D.roots.length y1)).trans g0
  rw [← hW1] at g0
  replace g1 := (World.frozen?_setCell w1 ⟨w.heap.size + 1 + 1, 0, none⟩ _ (.slice x1 D.roots.length y1)).trans g1
  rw [← hW1] at g1
  replace g2 := (World.frozen?_setCell w1 ⟨w.heap.size + 1 + 1, 0, none⟩ _ (.slice x1 D.roots.length y1)).trans g2
  rw [← hW1] at g2
  clear hW1 f0
  refine (toModuleS_own _ D.mods W1 (h2.below hBW1 (Nat.le_refl _)) hm1 hm2).mono ?_
  rintro e w2 ⟨v2, rfl, ⟨X2, hv2⟩, hb2⟩
  replace hv2 := hv2.mono (base' := w.heap.size + 1 + 1 + 1) (by omega)
  obtain ⟨x2, y2, rfl⟩ := hv2.mds.slice
  replace hv1 := own_below hv1 hb2 (Nat.le_refl _)
  replace p2 := below_cell0 hb2 (by omega) p2
  replace d0 := below_cell0 hb2 (by omega) d0
  replace d1 := below_cell0 hb2 (by omega) d1
  replace d2 := below_cell0 hb2 (by omega) d2
  replace e0 := below_cell0 hb2 (by omega) e0
  replace e1 := below_cell0 hb2 (by omega) e1
  replace e2 := below_cell0 hb2 (by omega) e2
  replace f1 := below_frz hb2 (by omega) f1
  replace f2 := below_frz hb2 (by omega) f2
  replace g0 := below_frz hb2 (by omega) g0
  replace g1 := below_frz hb2 (by omega) g1
  replace g2 := below_frz hb2 (by omega) g2
  clear p1
  go_wp2_with fail
  obtain ⟨W2, hW2⟩ : ∃ W2, W2 = w2.setCell ⟨w.heap.size + 1 + 1, 1, none⟩ (.slice x2 D.mods.length y2) := ⟨_, rfl⟩
  rw [← hW2]
  have hsz2 : W1.heap.size ≤ w2.heap.size := hb2.size
  have hW2s : W2.heap.size = w2.heap.size := by rw [hW2]; simp [World.setCell]
  have hBW2 : Below w.heap.size w W2 := by rw [hW2]; exact (hBW1.trans (hb2.mono (by omega))).setCell (p := ⟨w.heap.size + 1 + 1, 1, none⟩) (by simp only []; omega) _
  replace hv1 := own_set (B := w.heap.size + 1 + 1) hv1 (by omega) 1 (.slice x2 D.mods.length y2)
  rw [← hW2] at hv1
  replace hv2 := Mrow.set (B := w.heap.size + 1 + 1) hv2 (by omega) 1 (.slice x2 D.mods.length y2)
  rw [← hW2] at hv2
  replace p2 := set_far (b := w.heap.size + 1 + 1) (o := 1) (u := .slice x2 D.mods.length y2) p2 (.inl (by omega))
  rw [← hW2] at p2
  replace d0 := set_far (b := w.heap.size + 1 + 1) (o := 1) (u := .slice x2 D.mods.length y2) d0 (.inr (by omega))
  rw [← hW2] at d0
  replace d1 := set_at (u := .slice x2 D.mods.length y2) d1
  rw [← hW2] at d1
  replace d2 := set_far (b := w.heap.size + 1 + 1) (o := 1) (u := .slice x2 D.mods.length y2) d2 (.inr (by omega))
  rw [← hW2] at d2
  replace e0 := set_far (b := w.heap.size + 1 + 1) (o := 1) (u := .slice x2 D.mods.length y2) e0 (.inl (by omega))
  rw [← hW2] at e0
  replace e1 := set_far (b := w.heap.size + 1 + 1) (o := 1) (u := .slice x2 D.mods.length y2) e1 (.inl (by omega))
  rw [← hW2] at e1
  replace e2 := set_far (b := w.heap.size + 1 + 1) (o := 1) (u := .slice x2 D.mods.length y2) e2 (.inl (by omega))
  rw [← hW2] at e2
  replace f2 := (World.frozen?_setCell w2 ⟨w.heap.size + 1 + 1, 1, none⟩ _ (.slice x2 D.mods.length y2)).trans f2
  rw [← hW2] at f2
  replace g0 := (World.frozen?_setCell w2 ⟨w.heap.size + 1 + 1, 1, none⟩ _ (.slice x2 D.mods.length y2)).trans g0
  rw [← hW2] at g0
  replace g1 := (World.frozen?_setCell w2 ⟨w.heap.size + 1 + 1, 1, none⟩ _ (.slice x2 D.mods.length y2)).trans g1
  rw [← hW2] at g1
  replace g2 := (World.frozen?_setCell w2 ⟨w.heap.size + 1 + 1, 1, none⟩ _ (.slice x2 D.mods.length y2)).trans g2
  rw [← hW2] at g2
  clear hW2 f1
  refine (toIntS_own _ D.faults W2 (h3.below hBW2 (Nat.le_refl _)) hf1).mono ?_
  rintro e w3 ⟨v3, rfl, hv3, hb3⟩
  replace hv3 := own_mono hv3 (base' := w.heap.size + 1 + 1 + 1) (by omega)
  obtain ⟨x3, y3, rfl⟩ := (nums_own hv3).slice
  replace hv1 := own_below hv1 hb3 (Nat.le_refl _)
  replace hv2 := hv2.below hb3 (Nat.le_refl _)
  replace d0 := below_cell0 hb3 (by omega) d0
  replace d1 := below_cell0 hb3 (by omega) d1
  replace d2 := below_cell0 hb3 (by omega) d2
  replace e0 := below_cell0 hb3 (by omega) e0
  replace e1 := below_cell0 hb3 (by omega) e1
  replace e2 := below_cell0 hb3 (by omega) e2
  replace f2 := below_frz hb3 (by omega) f2
  replace g0 := below_frz hb3 (by omega) g0
  replace g1 := below_frz hb3 (by omega) g1
  replace g2 := below_frz hb3 (by omega) g2
  clear p2
  have hsz3 : W2.heap.size ≤ w3.heap.size := hb3.size
  go_wp2
  refine bodyPost_ret (v := .agg #[.slice x1 D.roots.length y1, .slice x2 D.mods.length y2, .slice x3 D.faults.length y3]) (by simp [results, Tryz.results8, go_sem, e0, e1, e2]) rfl ⟨_, rfl, ⟨_, _, _, X2, rfl, ?_, ?_, ?_⟩, ?_⟩
  · exact own_mono (own_set (own_set (own_set (own_set hv1 (by omega) _ _) (by omega) _ _) (by omega) _ _) (by omega) _ _) (by omega)
  · exact ((((hv2.set (by omega) _ _).set (by omega) _ _).set (by omega) _ _).set (by omega) _ _).mono (by omega)
  · exact own_mono (own_set (own_set (own_set (own_set hv3 (by omega) _ _) (by omega) _ _) (by omega) _ _) (by omega) _ _) (by omega)
  · exact ((((hBW2.trans (hb3.mono (by omega))).setCell (p := ⟨w.heap.size + 1 + 1, 2, none⟩) (by simp only []; omega) _).setCell (p := ⟨w.heap.size + 1, 0, none⟩) (by simp only []; omega) _).setCell (p := ⟨w.heap.size + 1, 1, none⟩) (by simp only []; omega) _).setCell (p := ⟨w.heap.size + 1, 2, none⟩) (by simp only []; omega) _
end Go.Proofs.YtimgafblpmjajabGreat
