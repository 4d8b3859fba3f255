import Derived.Test.YtimgafblpmjajabGreatKa1
namespace Go.Proofs.YtimgafblpmjajabGreat

open Go.RowKit

theorem below_alloc2 {w : World} (o1 o2 : Obj) : Below w.heap.size w ((w.alloc o1).alloc o2) := ((Below.refl _ _).alloc (Nat.le_refl _) _).alloc (by simp) _
theorem below_alloc3 {w : World} (o1 o2 o3 : Obj) : Below w.heap.size w (((w.alloc o1).alloc o2).alloc o3) := (below_alloc2 o1 o2).alloc (by simp; omega) _

theorem vfrom.mono {a b : Nat} {v : Value} (h : vfrom a v) (hb : b ≤ a) : vfrom b v := fun x o s n c e => Nat.le_trans hb (h x o s n c e)

theorem cell_far (w : World) (p a : Addr) (v : Value) (h : p.block ≠ a.block) : (w.setCell p v).cell? a = w.cell? a := World.cell?_setCell_other w p a v (fun e => h (by rw [e]))

theorem Lns.setCell {w : World} {v : Value} {L : List Ln} {B : Nat} (h : Lns w v L) (hv : vfrom (B + 1) v) (o : Nat) (u : Value) : Lns (w.setCell ⟨B, o, none⟩ u) v L := by
  obtain ⟨a, cap, rfl, hcap, hmax, hc⟩ := h
  refine ⟨a, cap, rfl, hcap, hmax, fun k hk => ?_⟩
  obtain ⟨b, o', rfl, hb, h0, h1, h2, h3⟩ := hc k hk
  have hne : B ≠ b := by have := hv b o' none _ _ rfl; omega
  exact ⟨b, o', rfl, by simpa [World.setCell] using hb, by rw [cell_far _ _ _ _ hne]; exact h0, by rw [cell_far _ _ _ _ hne]; exact h1, by rw [cell_far _ _ _ _ hne]; exact h2, by rw [cell_far _ _ _ _ hne]; exact h3⟩

theorem below_cell0 {w w' : World} {B b o : Nat} (h : Below B w w') (hb : b < B) {u : Value} (hc : w.cell? ⟨b, o, none⟩ = some u) : w'.cell? ⟨b, o, none⟩ = some u := (h.cell (p := ⟨b, o, none⟩) hb).trans hc
theorem below_frz {w w' : World} {B b o : Nat} (h : Below B w w') (hb : b < B) {u : Bool} (hc : w.frozen? ⟨b, o, none⟩ = u) : w'.frozen? ⟨b, o, none⟩ = u := (h.frozen (p := ⟨b, o, none⟩) hb).trans hc

set_option maxHeartbeats 2000000 in
set_option maxRecDepth 100000 in
theorem toModule_any (m : Md) (s : Value) (w : World) (h : Lns w s m.lines) (hL : m.lines.length ≤ 1048576) :
    Calls Tryz.prog 49 #[mdV m.name s] w fun e w' => ∃ s', e = .returned (mdV m.name s') ∧ Lns w' s' m.lines ∧ vfrom w.heap.size s' ∧ Below w.heap.size w w' := by
  unfold mdV
  obtain ⟨n, hs⟩ := strV_of m.name
  rw [hs]
  clear hs
  obtain ⟨a, cap, rfl⟩ := h.slice
  obtain ⟨W, hW⟩ : ∃ W, W = ((w.alloc (.cells #[.string n, .slice a m.lines.length cap] 86)).alloc (.cells #[.string ⟨#[]⟩, .slice none 0 0] 49)).alloc (.cells #[.string n, .slice none 0 0] 49) := ⟨_, rfl⟩
  have h1 : Lns W (.slice a m.lines.length cap) m.lines := by rw [hW]; exact h.below (below_alloc3 _ _ _) (Nat.le_refl _)
  have hWB : Below w.heap.size w W := by rw [hW]; exact below_alloc3 _ _ _
  have hWs : W.heap.size = w.heap.size + 1 + 1 + 1 := by rw [hW]; simp
  have hd0 : W.cell? ⟨w.heap.size + 1 + 1, 0, none⟩ = some (.string n) := by rw [hW]; simp [go_sem]
  have hd1 : W.cell? ⟨w.heap.size + 1 + 1, 1, none⟩ = some (.slice none 0 0) := by rw [hW]; simp [go_sem]
  have hd2 : W.frozen? ⟨w.heap.size + 1 + 1, 1, none⟩ = false := by rw [hW]; simp [go_sem]
  have he0 : W.cell? ⟨w.heap.size + 1, 0, none⟩ = some (.string ⟨#[]⟩) := by rw [hW]; simp [go_sem]
  have he1 : W.cell? ⟨w.heap.size + 1, 1, none⟩ = some (.slice none 0 0) := by rw [hW]; simp [go_sem]
  have he2 : W.frozen? ⟨w.heap.size + 1, 0, none⟩ = false := by rw [hW]; simp [go_sem]
  have he3 : W.frozen? ⟨w.heap.size + 1, 1, none⟩ = false := by rw [hW]; simp [go_sem]
  go_enter Tryz.func49, Tryz.ntmps49
  go_wp2_with fail
  rw [← hW]
  clear hW
  refine (toLineS_any _ m.lines W h1 hL).mono ?_
  rintro e w1 ⟨v', rfl, hv', hvf, hb1⟩
  obtain ⟨a', cap', rfl⟩ := hv'.slice
  have d0 := below_cell0 hb1 (by omega) hd0
  have d1 := below_cell0 hb1 (by omega) hd1
  have d2 := below_frz hb1 (by omega) hd2
  have c0 := below_cell0 hb1 (by omega) he0
  have c1 := below_cell0 hb1 (by omega) he1
  have c2 := below_frz hb1 (by omega) he2
  have c3 := below_frz hb1 (by omega) he3
  clear hd0 hd1 hd2 he0 he1 he2 he3
  go_wp2
  have hvf' : vfrom (w.heap.size + 1 + 1 + 1) (.slice a' m.lines.length cap') := by rw [← hWs]; exact hvf
  exact bodyPost_ret (v := .agg #[.string n, .slice a' m.lines.length cap']) (by simp [results, Tryz.results49, go_sem, c0, c1]) rfl ⟨_, rfl, ((hv'.setCell hvf' _ _).setCell (hvf'.mono (by omega)) _ _).setCell (hvf'.mono (by omega)) _ _, hvf'.mono (by omega),
    (((hWB.trans (hb1.mono (by omega))).setCell (p := ⟨w.heap.size + 1 + 1, 1, none⟩) (by simp only []; omega) _).setCell (p := ⟨w.heap.size + 1, 0, none⟩) (by simp only []; omega) _).setCell (p := ⟨w.heap.size + 1, 1, none⟩) (by simp only []; omega) _⟩
end Go.Proofs.YtimgafblpmjajabGreat
namespace Go.Proofs.YtimgafblpmjajabGreat

open Go.RowKit

theorem set2_same {X : List Value} {n k : Nat} {a b : Value} (hX : X.length = n * 2) (hk : k < n) :
    ((X.set (k * 2) a).set (k * 2 + 1) b)[k * 2]? = some a ∧ ((X.set (k * 2) a).set (k * 2 + 1) b)[k * 2 + 1]? = some b := by
  refine ⟨?_, ?_⟩ <;> simp [List.getElem?_set] <;> omega
theorem set2_other {a b : Value} (X : List Value) {j k : Nat} (h : j ≠ k) (i : Nat) (hi : i < 2) :
    ((X.set (k * 2) a).set (k * 2 + 1) b)[j * 2 + i]? = X[j * 2 + i]? := by
  rw [List.getElem?_set_ne (by omega), List.getElem?_set_ne (by omega)]

theorem own_lt {W : World} {base g n cap size : Nat} {t : TypeId} {X : List Value} (h : W.ownsRow base t size (.slice (some ⟨g, 0, none⟩) n cap) n X) : n ≤ cap ∧ g < W.heap.size := by
  rcases h.2 with ⟨h', _⟩ | ⟨g', cap', cur, h', _, hg, hc, _⟩
  · cases h'
  · cases h'; exact ⟨hc, (Array.getElem?_eq_some_iff.1 hg).1⟩

/-- A slice of modules all of whose rows lie from a block on. -/
def Mdf (base : Nat) (w : World) (v : Value) (M : List Md) : Prop :=
  ∃ a cap, v = .slice a M.length cap ∧ M.length ≤ cap ∧ cap ≤ maxLen ∧ ∀ k, (hk : k < M.length) → ∃ b o s, a = some ⟨b, o, none⟩ ∧ base ≤ b ∧ b < w.heap.size ∧
    w.cell? ⟨b, o + k * 2, none⟩ = some (strV M[k].name) ∧ w.cell? ⟨b, o + k * 2 + 1, none⟩ = some s ∧ Lns w s M[k].lines ∧ vfrom base s

theorem Mdf.mds {base : Nat} {w : World} {v : Value} {M : List Md} (h : Mdf base w v M) : Mds w v M := by
  obtain ⟨a, cap, hv, hcap, hmax, hc⟩ := h
  exact ⟨a, cap, hv, hcap, hmax, fun k hk => by obtain ⟨b, o, s, ha, _, hb, h0, h1, h2, _⟩ := hc k hk; exact ⟨b, o, s, ha, hb, h0, h1, h2⟩⟩
theorem Mdf.slice {base : Nat} {w : World} {v : Value} {M : List Md} (h : Mdf base w v M) : ∃ a cap, v = .slice a M.length cap := h.mds.slice
theorem Mdf.below {base : Nat} {w w' : World} {B : Nat} {v : Value} {L : List Md} (h : Mdf base w v L) (hb : Below B w w') (hB : w.heap.size ≤ B) : Mdf base w' v L := by
  obtain ⟨a, cap, hv, hcap, hmax, hc⟩ := h
  exact ⟨a, cap, hv, hcap, hmax, fun k hk => by
    obtain ⟨b, o, s, ha, hbb, hlt, h0, h1, h2, h3⟩ := hc k hk
    have hl := Nat.lt_of_lt_of_le hlt hB
    exact ⟨b, o, s, ha, hbb, Nat.lt_of_lt_of_le hlt hb.size, (hb.cell (p := ⟨b, o + k * 2, none⟩) hl).trans h0, (hb.cell (p := ⟨b, o + k * 2 + 1, none⟩) hl).trans h1, h2.below hb hB, h3⟩⟩
theorem Mdf.setCell {base : Nat} {w : World} {v : Value} {L : List Md} {B : Nat} (h : Mdf base w v L) (hB : B < base) (o : Nat) (u : Value) : Mdf base (w.setCell ⟨B, o, none⟩ u) v L := by
  obtain ⟨a, cap, rfl, hcap, hmax, hc⟩ := h
  refine ⟨a, cap, rfl, hcap, hmax, fun k hk => ?_⟩
  obtain ⟨b, o', s, rfl, hbb, hb, h0, h1, h2, h3⟩ := hc k hk
  have hne : B ≠ b := by omega
  exact ⟨b, o', s, rfl, hbb, by simpa [World.setCell] using hb, by rw [cell_far _ _ _ _ hne]; exact h0, by rw [cell_far _ _ _ _ hne]; exact h1, h2.setCell (h3.mono hB) _ _, h3⟩
theorem Nums.setCell {w : World} {v : Value} {L : List Int} {B : Nat} (h : Nums w v L) (hv : vfrom (B + 1) v) (o : Nat) (u : Value) : Nums (w.setCell ⟨B, o, none⟩ u) v L := by
  obtain ⟨a, cap, rfl, hcap, hmax, hc⟩ := h
  refine ⟨a, cap, rfl, hcap, hmax, fun k hk => ?_⟩
  obtain ⟨b, o', rfl, hb, h0⟩ := hc k hk
  have hne : B ≠ b := by have := hv b o' none _ _ rfl; omega
  exact ⟨b, o', rfl, by simpa [World.setCell] using hb, by rw [cell_far _ _ _ _ hne]; exact h0⟩
theorem Strs.setCell {w : World} {v : Value} {L : List (List UInt8)} {B : Nat} (h : Strs w v L) (hv : vfrom (B + 1) v) (o : Nat) (u : Value) : Strs (w.setCell ⟨B, o, none⟩ u) v L := by
  obtain ⟨a, cap, rfl, hcap, hmax, hc⟩ := h
  refine ⟨a, cap, rfl, hcap, hmax, fun k hk => ?_⟩
  obtain ⟨b, o', rfl, hb, h0⟩ := hc k hk
  have hne : B ≠ b := by have := hv b o' none _ _ rfl; omega
  exact ⟨b, o', rfl, by simpa [World.setCell] using hb, by rw [cell_far _ _ _ _ hne]; exact h0⟩
theorem vfrom_row {w : World} {base : Nat} {e : TypeId} {size : Nat} {v : Value} {n : Nat} {xs : List Value} (h : w.ownsRow base e size v n xs) : vfrom base v := by
  intro b o s m c hv
  rcases h.2 with ⟨h', _⟩ | ⟨g', cap', cur, h', hb, _⟩
  · rw [h'] at hv; cases hv
  · rw [h'] at hv; cases hv; exact hb

theorem mdf_of_row {W : World} {base g n : Nat} {X : List Value} {L : List Md} (h : W.ownsRow base 49 2 (.slice (some ⟨g, 0, none⟩) L.length n) L.length X) (hn : n ≤ maxLen) (hbg : base ≤ g)
    (hX : ∀ j (hj : j < L.length), ∃ s, X[j * 2]? = some (strV L[j].name) ∧ X[j * 2 + 1]? = some s ∧ Lns W s L[j].lines ∧ vfrom (g + 1) s) :
    Mdf base W (.slice (some ⟨g, 0, none⟩) L.length n) L := by
  have hc := h.cellAt
  have hg := own_lt h
  refine ⟨_, n, rfl, hg.1, hn, fun k hk => ?_⟩
  obtain ⟨s, h0, h1, h2, h3⟩ := hX k hk
  refine ⟨g, 0, s, rfl, hbg, hg.2, ?_, ?_, h2, h3.mono (by omega)⟩
  all_goals rw [Nat.zero_add, hc _ (by omega)]
  · exact h0
  · exact h1

theorem nums_of_row {W : World} {base g n : Nat} {X : List Value} {L : List Int} (h : W.ownsRow base 3 1 (.slice (some ⟨g, 0, none⟩) L.length n) L.length X) (hn : n ≤ maxLen)
    (hX : ∀ j (hj : j < L.length), X[j]? = some (.int .i64 L[j])) : Nums W (.slice (some ⟨g, 0, none⟩) L.length n) L := by
  have hc := h.cellAt
  have hg := own_lt h
  refine ⟨_, n, rfl, hg.1, hn, fun k hk => ⟨g, 0, rfl, hg.2, ?_⟩⟩
  rw [Nat.zero_add, hc _ (by omega)]
  exact hX k hk

set_option maxHeartbeats 2000000 in
set_option maxRecDepth 100000 in
theorem toModuleS_any (v : Value) (L : List Md) (w : World) (h : Mds w v L) (hL : L.length ≤ 1048576) (hLL : ∀ m ∈ L, m.lines.length ≤ 1048576) :
    Calls Tryz.prog 28 #[v] w fun e w' => ∃ v', e = .returned v' ∧ Mdf w.heap.size w' v' L ∧ Below w.heap.size w w' := by
  obtain ⟨i0, hi, hz0, hz1, hz2⟩ := info_parts Tryz.info55
  obtain ⟨a, cap, rfl, hcap, hmax, hc⟩ := h
  have HC : Hid (∀ k, (hk : k < L.length) → ∃ b o s, a = some ⟨b, o, none⟩ ∧ b < w.heap.size ∧
    w.cell? ⟨b, o + k * 2, none⟩ = some (strV L[k].name) ∧ w.cell? ⟨b, o + k * 2 + 1, none⟩ = some s ∧ Lns w s L[k].lines) := hc
  have HLL : Hid (∀ m ∈ L, m.lines.length ≤ 1048576) := hLL
  clear hc hmax hLL
  have hib : i0.bytes * L.length ≤ 281474976710656 := by rw [hz2]; omega
  have hlm : L.length ≤ maxLen := by unfold maxLen; omega
  go_enter Tryz.func28, Tryz.ntmps28
  go_wp2_with (at_make; refine wpList_make_full _ rfl _ _ 30 rfl w.heap.size 49 i0 _ 2 Tryz.underlying30 hi hz0 hz1 .i64 .i64 _ _ L.length rfl rfl rfl rfl hib hlm (Nat.le_refl _) ?_; intro w1 hown hgrow)
  have hB1 : Below w.heap.size w w1 := (Below.refl _ _).grown hgrow (Nat.le_refl _) (fun k e => by cases e)
  clear hgrow
  go_loopw [4] (fun i wr => ∃ (k : Nat) (X : List Value), k ≤ L.length ∧ i = .int .i64 k ∧ wr.ownsRow w.heap.size 49 2 (.slice (some ⟨w.heap.size, 0, none⟩) L.length L.length) L.length X ∧
      (∀ j (hj : j < L.length), j < k → ∃ s, X[j * 2]? = some (strV L[j].name) ∧ X[j * 2 + 1]? = some s ∧ Lns wr s L[j].lines ∧ vfrom (w.heap.size + 1) s) ∧ Below w.heap.size w wr) (fun i _ => L.length - (intOf i).toNat)
  case atStart => exact ⟨0, _, Nat.zero_le _, rfl, hown, fun j _ hj => absurd hj (by omega), hB1⟩
  case round =>
    obtain ⟨k, X, hk, rfl, hown, hX, hB⟩ := hrel
    by_cases hlt : k < L.length
    · obtain ⟨b, o, s, rfl, hb, h0, h1, h2⟩ := HC.out k hlt
      have c0 : wr.cell? ⟨b, o + k * 2, none⟩ = some (strV L[k].name) := (hB.cell (p := ⟨b, o + k * 2, none⟩) hb).trans h0
      have c1 : wr.cell? ⟨b, o + k * 2 + 1, none⟩ = some s := (hB.cell (p := ⟨b, o + k * 2 + 1, none⟩) hb).trans h1
      have HX : Hid (∀ j (hj : j < L.length), j < k → ∃ s, X[j * 2]? = some (strV L[j].name) ∧ X[j * 2 + 1]? = some s ∧ Lns wr s L[j].lines ∧ vfrom (w.heap.size + 1) s) := hX
      have h3 := h2.below hB (Nat.le_refl _)
      have hwr := (own_lt hown).2
      clear h0 h1 h2 hX
      go_wp2_with fail
      refine (toModule_any L[k] s wr h3 (HLL.out _ (List.getElem_mem hlt))).mono ?_
      unfold mdV
      obtain ⟨n, hs⟩ := strV_of L[k].name
      have HS : Hid (strV L[k].name = .string n) := hs
      rw [hs]
      clear hs c0 c1
      rintro e w1 ⟨s', rfl, hs', hvf, hb1⟩
      obtain ⟨a', cap', rfl⟩ := hs'.slice
      have hown1 := own_below hown hb1 (Nat.le_refl _)
      have hXl : X.length = L.length * 2 := hown1.1
      have e0 : ∃ u, w1.cell? ⟨w.heap.size, k * 2, none⟩ = some u := by rw [hown1.cellAt _ (by omega)]; exact ⟨_, List.getElem?_eq_getElem (by omega)⟩
      have e1 : ∃ u, w1.cell? ⟨w.heap.size, k * 2 + 1, none⟩ = some u := by rw [hown1.cellAt _ (by omega)]; exact ⟨_, List.getElem?_eq_getElem (by omega)⟩
      obtain ⟨u0, e0⟩ := e0
      obtain ⟨u1, e1⟩ := e1
      have f0 := hown1.frozenAt (k * 2)
      have f1 := hown1.frozenAt (k * 2 + 1)
      go_wp2
      go_roundw
      case rel =>
        refine ⟨k + 1, _, by omega, by go_num, ((hown1.stored _ _).1.stored _ _).1, fun j hj hjk => ?_, ((hB.trans (hb1.mono hB.size)).setCell (p := ⟨w.heap.size, k * 2, none⟩) (Nat.le_refl _) _).setCell (p := ⟨w.heap.size, k * 2 + 1, none⟩) (Nat.le_refl _) _⟩
        by_cases hjk' : j = k
        · subst hjk'
          obtain ⟨g0, g1⟩ := set2_same (a := .string n) (b := .slice a' L[j].lines.length cap') hXl hlt
          have hvf' := hvf.mono (b := w.heap.size + 1) hwr
          exact ⟨_, by rw [HS.out]; exact g0, g1, (hs'.setCell hvf' _ _).setCell hvf' _ _, hvf'⟩
        · obtain ⟨s, x0, x1, x2, x3⟩ := HX.out j hj (by omega)
          have hg := fun i hi => set2_other (a := .string n) (b := .slice a' L[k].lines.length cap') X hjk' i hi
          exact ⟨s, (hg 0 (by omega)).trans x0, (hg 1 (by omega)).trans x1, ((x2.below hb1 (Nat.le_refl _)).setCell x3 _ _).setCell x3 _ _, x3⟩
      case measure => simp [intOf]; omega
    · go_wp2
      go_ret
      refine ⟨_, rfl, ?_, hB⟩
      exact mdf_of_row hown hlm (Nat.le_refl _) (fun j hj => hX j hj (by omega))

set_option maxHeartbeats 2000000 in
set_option maxRecDepth 100000 in
theorem toIntS_any (v : Value) (L : List Int) (w : World) (h : Nums w v L) (hL : L.length ≤ 1048576) :
    Calls Tryz.prog 29 #[v] w fun e w' => ∃ v', e = .returned v' ∧ Nums w' v' L ∧ vfrom w.heap.size v' ∧ Below w.heap.size w w' := by
  obtain ⟨i0, hi, hz0, hz1, hz2⟩ := info_parts Tryz.info3
  obtain ⟨a, cap, rfl, hcap, hmax, hc⟩ := h
  have HC : Hid (∀ k, (hk : k < L.length) → ∃ b o, a = some ⟨b, o, none⟩ ∧ b < w.heap.size ∧ w.cell? ⟨b, o + k, none⟩ = some (.int .i64 L[k])) := hc
  clear hc hmax
  have hib : i0.bytes * L.length ≤ 281474976710656 := by rw [hz2]; omega
  have hlm : L.length ≤ maxLen := by unfold maxLen; omega
  go_enter Tryz.func29, Tryz.ntmps29
  go_wp2_with (at_make; refine wpList_make_full _ rfl _ _ 24 rfl w.heap.size 3 i0 _ 1 Tryz.underlying24 hi hz0 hz1 .i64 .i64 _ _ L.length rfl rfl rfl rfl hib hlm (Nat.le_refl _) ?_; intro w1 hown hgrow)
  have hB1 : Below w.heap.size w w1 := (Below.refl _ _).grown hgrow (Nat.le_refl _) (fun k e => by cases e)
  clear hgrow
  go_loopw [4] (fun i wr => ∃ (k : Nat) (X : List Value), k ≤ L.length ∧ i = .int .i64 k ∧ wr.ownsRow w.heap.size 3 1 (.slice (some ⟨w.heap.size, 0, none⟩) L.length L.length) L.length X ∧
      (∀ j (hj : j < L.length), j < k → X[j]? = some (.int .i64 L[j])) ∧ Below w.heap.size w wr) (fun i _ => L.length - (intOf i).toNat)
  case atStart => exact ⟨0, _, Nat.zero_le _, rfl, hown, fun j _ hj => absurd hj (by omega), hB1⟩
  case round =>
    obtain ⟨k, X, hk, rfl, hown, hX, hB⟩ := hrel
    by_cases hlt : k < L.length
    · obtain ⟨b, o, rfl, hb, h0⟩ := HC.out k hlt
      have c0 : wr.cell? ⟨b, o + k, none⟩ = some (.int .i64 L[k]) := (hB.cell (p := ⟨b, o + k, none⟩) hb).trans h0
      have HX : Hid (∀ j (hj : j < L.length), j < k → X[j]? = some (.int .i64 L[j])) := hX
      clear h0 hX
      have hXl : X.length = L.length * 1 := hown.1
      have e0 : ∃ u, wr.cell? ⟨w.heap.size, k, none⟩ = some u := by rw [hown.cellAt _ (by omega)]; exact ⟨_, List.getElem?_eq_getElem (by omega)⟩
      obtain ⟨u0, e0⟩ := e0
      have f0 := hown.frozenAt k
      go_wp2
      go_roundw
      case rel =>
        refine ⟨k + 1, _, by omega, by go_num, (hown.stored _ _).1, fun j hj hjk => ?_, hB.setCell (p := ⟨w.heap.size, k, none⟩) (Nat.le_refl _) _⟩
        by_cases hjk' : j = k
        · subst hjk'
          rw [List.getElem?_set_self (by omega)]
        · rw [List.getElem?_set_ne (by omega)]
          exact HX.out j hj (by omega)
      case measure => simp [intOf]; omega
    · go_wp2
      go_ret
      refine ⟨_, rfl, ?_, vfrom_row hown, hB⟩
      exact nums_of_row hown hlm (fun j hj => hX j hj (by omega))

end Go.Proofs.YtimgafblpmjajabGreat
namespace Go.Proofs.YtimgafblpmjajabGreat

open Go.RowKit

theorem Strs.grow {w w' : World} {v : Value} {L : List (List UInt8)} (h : Strs w v L) (hb : Below w.heap.size w w') : Strs w' v L := h.below hb (Nat.le_refl _)

theorem mem_le_sum : ∀ (L : List Nat) (x : Nat), x ∈ L → x ≤ L.sum
  | [], _, h => by cases h
  | y :: r, x, h => by
    rw [List.sum_cons]
    rcases List.mem_cons.1 h with rfl | h
    · omega
    · have := mem_le_sum r x h; omega

/-- A cell of a block that a step has not touched. -/
theorem set_far {w : World} {b o b' o' : Nat} {u v : Value} (h : w.cell? ⟨b', o', none⟩ = some v) (hne : b ≠ b' ∨ o ≠ o') : (w.setCell ⟨b, o, none⟩ u).cell? ⟨b', o', none⟩ = some v := by
  rw [World.cell?_setCell_other w _ _ _ (fun e => by cases e; rcases hne with h | h <;> exact h rfl)]; exact h
theorem set_at {w : World} {b o : Nat} {u v : Value} (h : w.cell? ⟨b, o, none⟩ = some v) : (w.setCell ⟨b, o, none⟩ u).cell? ⟨b, o, none⟩ = some u := World.cell?_setCell_same' _ _ _ (by rw [h]; rfl)

/-- What holds of a value as long as nothing below is touched stays so behind a store at a new block. -/
theorem below_set {w w' : World} {b o : Nat} (u : Value) (hb : Below w.heap.size w w') (h : w.heap.size ≤ b) : Below w.heap.size w (w'.setCell ⟨b, o, none⟩ u) := hb.setCell (p := ⟨b, o, none⟩) h u

theorem Lns.set {w : World} {v : Value} {L : List Ln} {B o : Nat} {u : Value} (W : World) (h : Lns W v L) (hb : Below W.heap.size W w) (hB : W.heap.size ≤ B) : Lns (w.setCell ⟨B, o, none⟩ u) v L := h.below (hb.setCell (p := ⟨B, o, none⟩) hB u) (Nat.le_refl _)

set_option maxHeartbeats 2000000 in
set_option maxRecDepth 100000 in
theorem toWorld_any (v : Value) (D : Wd) (w : World) (h : Wds w v D) (hD : D.t ≤ 1048576) :
    Calls Tryz.prog 8 #[v] w fun e w' => ∃ v', e = .returned v' ∧ Wds w' v' D ∧ Below w.heap.size w w' := by
  obtain ⟨vr, vm, vf, rfl, h1, h2, h3⟩ := h
  have hr1 : D.roots.length ≤ 1048576 := by have : D.roots.length ≤ Pl.total D.roots := by unfold Pl.total; omega
                                            unfold Wd.t at hD; omega
  have hm1 : D.mods.length ≤ 1048576 := by unfold Wd.t mdsT at hD; omega
  have hm2 : ∀ m ∈ D.mods, m.lines.length ≤ 1048576 := fun m hm => by
    have h1 : m.t ≤ (D.mods.map Md.t).sum := mem_le_sum _ _ (List.mem_map.2 ⟨m, hm, rfl⟩)
    have h2 : m.lines.length ≤ m.t := by unfold Md.t lnsT; omega
    unfold Wd.t mdsT at hD; omega
  have hf1 : D.faults.length ≤ 1048576 := by unfold Wd.t at hD; omega
  obtain ⟨a1, k1, rfl⟩ := h1.slice
  obtain ⟨a2, k2, rfl⟩ := h2.slice
  obtain ⟨a3, k3, rfl⟩ := h3.slice
  obtain ⟨W, hW⟩ : ∃ W, W = ((w.alloc (.cells #[.slice a1 D.roots.length k1, .slice a2 D.mods.length k2, .slice a3 D.faults.length k3] 26)).alloc (.cells #[.slice none 0 0, .slice none 0 0, .slice none 0 0] 32)).alloc (.cells #[.slice none 0 0, .slice none 0 0, .slice none 0 0] 32) := ⟨_, rfl⟩
  have hWB : Below w.heap.size w W := by rw [hW]; exact below_alloc3 _ _ _
  have hWs : W.heap.size = w.heap.size + 1 + 1 + 1 := by rw [hW]; simp
  have p1 : W.cell? ⟨w.heap.size, 1, none⟩ = some (.slice a2 D.mods.length k2) := by rw [hW]; simp [go_sem]
  have p2 : W.cell? ⟨w.heap.size, 2, none⟩ = some (.slice a3 D.faults.length k3) := by rw [hW]; simp [go_sem]
  have d0 : W.cell? ⟨w.heap.size + 1 + 1, 0, none⟩ = some (.slice none 0 0) := by rw [hW]; simp [go_sem]
  have d1 : W.cell? ⟨w.heap.size + 1 + 1, 1, none⟩ = some (.slice none 0 0) := by rw [hW]; simp [go_sem]
  have d2 : W.cell? ⟨w.heap.size + 1 + 1, 2, none⟩ = some (.slice none 0 0) := by rw [hW]; simp [go_sem]
  have f0 : W.frozen? ⟨w.heap.size + 1 + 1, 0, none⟩ = false := by rw [hW]; simp [go_sem]
  have f1 : W.frozen? ⟨w.heap.size + 1 + 1, 1, none⟩ = false := by rw [hW]; simp [go_sem]
  have f2 : W.frozen? ⟨w.heap.size + 1 + 1, 2, none⟩ = false := by rw [hW]; simp [go_sem]
  have e0 : W.cell? ⟨w.heap.size + 1, 0, none⟩ = some (.slice none 0 0) := by rw [hW]; simp [go_sem]
  have e1 : W.cell? ⟨w.heap.size + 1, 1, none⟩ = some (.slice none 0 0) := by rw [hW]; simp [go_sem]
  have e2 : W.cell? ⟨w.heap.size + 1, 2, none⟩ = some (.slice none 0 0) := by rw [hW]; simp [go_sem]
  have g0 : W.frozen? ⟨w.heap.size + 1, 0, none⟩ = false := by rw [hW]; simp [go_sem]
  have g1 : W.frozen? ⟨w.heap.size + 1, 1, none⟩ = false := by rw [hW]; simp [go_sem]
  have g2 : W.frozen? ⟨w.heap.size + 1, 2, none⟩ = false := by rw [hW]; simp [go_sem]
  go_enter Tryz.func8, Tryz.ntmps8
  go_wp2_with fail
  rw [← hW]
  clear hW
  refine (toS_any _ D.roots W (h1.below hWB (Nat.le_refl _)) hr1).mono ?_
  rintro e w1 ⟨v1, rfl, hv1, hb1⟩
  have hvf1 : vfrom (w.heap.size + 1 + 1 + 1) v1 := by rw [← hWs]; exact vfrom_row hv1
  replace hv1 := Strs.of_row hv1
  obtain ⟨x1, y1, rfl⟩ := hv1.slice
  replace p1 := below_cell0 hb1 (by omega) p1
  replace p2 := below_cell0 hb1 (by omega) p2
  replace d0 := below_cell0 hb1 (by omega) d0
  replace d1 := below_cell0 hb1 (by omega) d1
  replace d2 := below_cell0 hb1 (by omega) d2
  replace e0 := below_cell0 hb1 (by omega) e0
  replace e1 := below_cell0 hb1 (by omega) e1
  replace e2 := below_cell0 hb1 (by omega) e2
  replace f0 := below_frz hb1 (by omega) f0
  replace f1 := below_frz hb1 (by omega) f1
  replace f2 := below_frz hb1 (by omega) f2
  replace g0 := below_frz hb1 (by omega) g0
  replace g1 := below_frz hb1 (by omega) g1
  replace g2 := below_frz hb1 (by omega) g2
  go_wp2_with fail
  obtain ⟨W1, hW1⟩ : ∃ W1, W1 = w1.setCell ⟨w.heap.size + 1 + 1, 0, none⟩ (.slice x1 D.roots.length y1) := ⟨_, rfl⟩
  rw [← hW1]
  have hsz1 : w.heap.size + 1 + 1 + 1 ≤ w1.heap.size := by have := hb1.size; omega
  have hW1s : W1.heap.size = w1.heap.size := by rw [hW1]; simp [World.setCell]
  have hBW1 : Below w.heap.size w W1 := by rw [hW1]; exact (hWB.trans (hb1.mono (by omega))).setCell (p := ⟨w.heap.size + 1 + 1, 0, none⟩) (by simp only []; omega) _
  replace hv1 := hv1.setCell (B := w.heap.size + 1 + 1) hvf1 0 (.slice x1 D.roots.length y1)
  rw [← hW1] at hv1
  replace p1 := set_far (b := w.heap.size + 1 + 1) (o := 0) (u := .slice x1 D.roots.length y1) p1 (.inl (by omega))
  rw [← hW1] at p1
  replace p2 := set_far (b := w.heap.size + 1 + 1) (o := 0) (u := .slice x1 D.roots.length y1) p2 (.inl (by omega))
  rw [← hW1] at p2
  replace d0 := set_at (u := .slice x1 D.roots.length y1) d0
  rw [← hW1] at d0
  replace d1 := set_far (b := w.heap.size + 1 + 1) (o := 0) (u := .slice x1 D.roots.length y1) d1 (.inr (by omega))
  rw [← hW1] at d1
  replace d2 := set_far (b := w.heap.size + 1 + 1) (o := 0) (u := .slice x1 D.roots.length y1) d2 (.inr (by omega))
  rw [← hW1] at d2
  replace e0 := set_far (b := w.heap.size + 1 + 1) (o := 0) (u := .slice x1 D.roots.length y1) e0 (.inl (by omega))
  rw [← hW1] at e0
  replace e1 := set_far (b := w.heap.size + 1 + 1) (o := 0) (u := .slice x1 D.roots.length y1) e1 (.inl (by omega))
  rw [← hW1] at e1
  replace e2 := set_far (b := w.heap.size + 1 + 1) (o := 0) (u := .slice x1 D.roots.length y1) e2 (.inl (by omega))
  rw [← hW1] at e2
  replace f1 := (World.frozen?_setCell w1 ⟨w.heap.size + 1 + 1, 0, none⟩ _ (.slice x1 D.roots.length y1)).trans f1
  rw [← hW1] at f1
  replace f2 := (World.frozen?_setCell w1 ⟨w.heap.size + 1 + 1, 0, none⟩ _ (.slice x1 D.roots.length y1)).trans f2
  rw [← hW1] at f2
  replace g0 := (World.frozen?_setCell w1 ⟨w.heap.size + 1 + 1, 0, none⟩ _ (.slice x1 D.roots.length y1)).trans g0
  rw [← hW1] at g0
  replace g1 := (World.frozen?_setCell w1 ⟨w.heap.size + 1 + 1, 0, none⟩ _ (.slice x1 D.roots.length y1)).trans g1
  rw [← hW1] at g1
  replace g2 := (World.frozen?_setCell w1 ⟨w.heap.size + 1 + 1, 0, none⟩ _ (.slice x1 D.roots.length y1)).trans g2
  rw [← hW1] at g2
  clear hW1 f0
  refine (toModuleS_any _ D.mods W1 (h2.below hBW1 (Nat.le_refl _)) hm1 hm2).mono ?_
  rintro e w2 ⟨v2, rfl, hv2, hb2⟩
  obtain ⟨x2, y2, rfl⟩ := hv2.slice
  replace hv1 := hv1.below hb2 (Nat.le_refl _)
  replace p2 := below_cell0 hb2 (by omega) p2
  replace d0 := below_cell0 hb2 (by omega) d0
  replace d1 := below_cell0 hb2 (by omega) d1
  replace d2 := below_cell0 hb2 (by omega) d2
  replace e0 := below_cell0 hb2 (by omega) e0
  replace e1 := below_cell0 hb2 (by omega) e1
  replace e2 := below_cell0 hb2 (by omega) e2
  replace f1 := below_frz hb2 (by omega) f1
  replace f2 := below_frz hb2 (by omega) f2
  replace g0 := below_frz hb2 (by omega) g0
  replace g1 := below_frz hb2 (by omega) g1
  replace g2 := below_frz hb2 (by omega) g2
  clear p1
  go_wp2_with fail
  obtain ⟨W2, hW2⟩ : ∃ W2, W2 = w2.setCell ⟨w.heap.size + 1 + 1, 1, none⟩ (.slice x2 D.mods.length y2) := ⟨_, rfl⟩
  rw [← hW2]
  have hsz2 : W1.heap.size ≤ w2.heap.size := hb2.size
  have hW2s : W2.heap.size = w2.heap.size := by rw [hW2]; simp [World.setCell]
  have hBW2 : Below w.heap.size w W2 := by rw [hW2]; exact (hBW1.trans (hb2.mono (by omega))).setCell (p := ⟨w.heap.size + 1 + 1, 1, none⟩) (by simp only []; omega) _
  replace hv1 := hv1.setCell (B := w.heap.size + 1 + 1) hvf1 1 (.slice x2 D.mods.length y2)
  rw [← hW2] at hv1
  replace hv2 := hv2.setCell (B := w.heap.size + 1 + 1) (by omega) 1 (.slice x2 D.mods.length y2)
  rw [← hW2] at hv2
  replace p2 := set_far (b := w.heap.size + 1 + 1) (o := 1) (u := .slice x2 D.mods.length y2) p2 (.inl (by omega))
  rw [← hW2] at p2
  replace d0 := set_far (b := w.heap.size + 1 + 1) (o := 1) (u := .slice x2 D.mods.length y2) d0 (.inr (by omega))
  rw [← hW2] at d0
  replace d1 := set_at (u := .slice x2 D.mods.length y2) d1
  rw [← hW2] at d1
  replace d2 := set_far (b := w.heap.size + 1 + 1) (o := 1) (u := .slice x2 D.mods.length y2) d2 (.inr (by omega))
  rw [← hW2] at d2
  replace e0 := set_far (b := w.heap.size + 1 + 1) (o := 1) (u := .slice x2 D.mods.length y2) e0 (.inl (by omega))
  rw [← hW2] at e0
  replace e1 := set_far (b := w.heap.size + 1 + 1) (o := 1) (u := .slice x2 D.mods.length y2) e1 (.inl (by omega))
  rw [← hW2] at e1
  replace e2 := set_far (b := w.heap.size + 1 + 1) (o := 1) (u := .slice x2 D.mods.length y2) e2 (.inl (by omega))
  rw [← hW2] at e2
  replace f2 := (World.frozen?_setCell w2 ⟨w.heap.size + 1 + 1, 1, none⟩ _ (.slice x2 D.mods.length y2)).trans f2
  rw [← hW2] at f2
  replace g0 := (World.frozen?_setCell w2 ⟨w.heap.size + 1 + 1, 1, none⟩ _ (.slice x2 D.mods.length y2)).trans g0
  rw [← hW2] at g0
  replace g1 := (World.frozen?_setCell w2 ⟨w.heap.size + 1 + 1, 1, none⟩ _ (.slice x2 D.mods.length y2)).trans g1
  rw [← hW2] at g1
  replace g2 := (World.frozen?_setCell w2 ⟨w.heap.size + 1 + 1, 1, none⟩ _ (.slice x2 D.mods.length y2)).trans g2
  rw [← hW2] at g2
  clear hW2 f1
  refine (toIntS_any _ D.faults W2 (h3.below hBW2 (Nat.le_refl _)) hf1).mono ?_
  rintro e w3 ⟨v3, rfl, hv3, hvf3, hb3⟩
  obtain ⟨x3, y3, rfl⟩ := hv3.slice
  replace hv1 := hv1.below hb3 (Nat.le_refl _)
  replace hv2 := hv2.below hb3 (Nat.le_refl _)
  replace d0 := below_cell0 hb3 (by omega) d0
  replace d1 := below_cell0 hb3 (by omega) d1
  replace d2 := below_cell0 hb3 (by omega) d2
  replace e0 := below_cell0 hb3 (by omega) e0
  replace e1 := below_cell0 hb3 (by omega) e1
  replace e2 := below_cell0 hb3 (by omega) e2
  replace f2 := below_frz hb3 (by omega) f2
  replace g0 := below_frz hb3 (by omega) g0
  replace g1 := below_frz hb3 (by omega) g1
  replace g2 := below_frz hb3 (by omega) g2
  clear p2
  have hsz3 : W2.heap.size ≤ w3.heap.size := hb3.size
  have hvf3' : vfrom (w.heap.size + 1 + 1 + 1) (.slice x3 D.faults.length y3) := hvf3.mono (by omega)
  go_wp2
  refine bodyPost_ret (v := .agg #[.slice x1 D.roots.length y1, .slice x2 D.mods.length y2, .slice x3 D.faults.length y3]) (by simp [results, Tryz.results8, go_sem, e0, e1, e2]) rfl ⟨_, rfl, ⟨_, _, _, rfl, ?_, ?_, ?_⟩, ?_⟩
  · exact (((hv1.setCell hvf1 _ _).setCell (hvf1.mono (by omega)) _ _).setCell (hvf1.mono (by omega)) _ _).setCell (hvf1.mono (by omega)) _ _
  · exact ((((hv2.setCell (by omega) _ _).setCell (by omega) _ _).setCell (by omega) _ _).setCell (by omega) _ _).mds
  · exact (((hv3.setCell hvf3' _ _).setCell (hvf3'.mono (by omega)) _ _).setCell (hvf3'.mono (by omega)) _ _).setCell (hvf3'.mono (by omega)) _ _
  · exact ((((hBW2.trans (hb3.mono (by omega))).setCell (p := ⟨w.heap.size + 1 + 1, 2, none⟩) (by simp only []; omega) _).setCell (p := ⟨w.heap.size + 1, 0, none⟩) (by simp only []; omega) _).setCell (p := ⟨w.heap.size + 1, 1, none⟩) (by simp only []; omega) _).setCell (p := ⟨w.heap.size + 1, 2, none⟩) (by simp only []; omega) _
end Go.Proofs.YtimgafblpmjajabGreat
namespace Go.Proofs.YtimgafblpmjajabGreat

open Go.RowKit

set_option maxHeartbeats 1000000 in
set_option maxRecDepth 100000 in
theorem eqLine_any (l : Ln) (w : World) :
    Calls Tryz.prog 89 #[lnV l, lnV l] w fun e w' => e = .returned (.bool true) ∧ Below w.heap.size w w' := by
  unfold lnV
  obtain ⟨s, hs⟩ := strV_of l.name
  rw [hs]
  clear hs
  go_enter Tryz.func89, Tryz.ntmps89
  go_wp2
  go_ret
  exact ⟨rfl, below_alloc2 _ _⟩

set_option maxHeartbeats 2000000 in
set_option maxRecDepth 100000 in
theorem eqLineS_any (v v' : Value) (L : List Ln) (w : World) (h : Lns w v L) (h' : Lns w v' L) (hL : L.length ≤ 1048576) :
    Calls Tryz.prog 74 #[v, v'] w fun e w' => e = .returned (.bool true) ∧ Below w.heap.size w w' := by
  obtain ⟨a, cap, rfl, hcap, hmax, hc⟩ := h
  obtain ⟨a', cap', rfl, hcap', hmax', hc'⟩ := h'
  have HC : Hid (∀ k, (hk : k < L.length) → ∃ b o, a = some ⟨b, o, none⟩ ∧ b < w.heap.size ∧
    w.cell? ⟨b, o + k * 4, none⟩ = some (.int .i64 L[k].op) ∧ w.cell? ⟨b, o + k * 4 + 1, none⟩ = some (strV L[k].name) ∧ w.cell? ⟨b, o + k * 4 + 2, none⟩ = some (.int .i64 L[k].num) ∧ w.cell? ⟨b, o + k * 4 + 3, none⟩ = some (.int .i64 L[k].skip)) := hc
  have HC' : Hid (∀ k, (hk : k < L.length) → ∃ b o, a' = some ⟨b, o, none⟩ ∧ b < w.heap.size ∧
    w.cell? ⟨b, o + k * 4, none⟩ = some (.int .i64 L[k].op) ∧ w.cell? ⟨b, o + k * 4 + 1, none⟩ = some (strV L[k].name) ∧ w.cell? ⟨b, o + k * 4 + 2, none⟩ = some (.int .i64 L[k].num) ∧ w.cell? ⟨b, o + k * 4 + 3, none⟩ = some (.int .i64 L[k].skip)) := hc'
  clear hc hmax hc' hmax'
  go_enter Tryz.func74, Tryz.ntmps74
  go_wp2
  go_loopw [5] (fun i wr => ∃ k : Nat, k ≤ L.length ∧ i = .int .i64 k ∧ Below w.heap.size w wr) (fun i _ => L.length - (intOf i).toNat)
  case atStart => exact ⟨0, Nat.zero_le _, rfl, Below.refl _ _⟩
  case round =>
    obtain ⟨k, hk, rfl, hB⟩ := hrel
    by_cases hlt : k < L.length
    · obtain ⟨b, o, rfl, hb, h0, h1, h2, h3⟩ := HC.out k hlt
      obtain ⟨b', o', rfl, hb', h0', h1', h2', h3'⟩ := HC'.out k hlt
      have c0 := (hB.cell (p := ⟨b, o + k * 4, none⟩) hb).trans h0
      have c1 := (hB.cell (p := ⟨b, o + k * 4 + 1, none⟩) hb).trans h1
      have c2 := (hB.cell (p := ⟨b, o + k * 4 + 2, none⟩) hb).trans h2
      have c3 := (hB.cell (p := ⟨b, o + k * 4 + 3, none⟩) hb).trans h3
      have d0 := (hB.cell (p := ⟨b', o' + k * 4, none⟩) hb').trans h0'
      have d1 := (hB.cell (p := ⟨b', o' + k * 4 + 1, none⟩) hb').trans h1'
      have d2 := (hB.cell (p := ⟨b', o' + k * 4 + 2, none⟩) hb').trans h2'
      have d3 := (hB.cell (p := ⟨b', o' + k * 4 + 3, none⟩) hb').trans h3'
      have HEQ : Hid (∀ W, Calls Tryz.prog 89 #[lnV L[k], lnV L[k]] W fun e w' => e = .returned (.bool true) ∧ Below W.heap.size W w') := eqLine_any L[k]
      unfold lnV at HEQ
      clear h0 h1 h2 h3 h0' h1' h2' h3'
      go_wp2
      go_region_with (go_at_call 89; refine (HEQ.out _).mono ?_; rintro e w1 ⟨rfl, hb1⟩)
      all_goals
        have hb2 : Below w.heap.size w w1 := hB.drew.trans (hb1.mono hB.size)
        go_wp2
        go_roundw
        case rel => exact ⟨k + 1, by omega, by go_num, hb2⟩
        case measure => simp [intOf]; omega
    · go_wp2
      go_ret
      exact ⟨rfl, hB⟩

end Go.Proofs.YtimgafblpmjajabGreat
namespace Go.Proofs.YtimgafblpmjajabGreat

open Go.RowKit

set_option maxHeartbeats 1000000 in
set_option maxRecDepth 100000 in
theorem eqModule_any (m : Md) (s s' : Value) (w : World) (h : Lns w s m.lines) (h' : Lns w s' m.lines) (hL : m.lines.length ≤ 1048576) :
    Calls Tryz.prog 55 #[mdV m.name s, mdV m.name s'] w fun e w' => e = .returned (.bool true) ∧ Below w.heap.size w w' := by
  unfold mdV
  obtain ⟨n, hs⟩ := strV_of m.name
  rw [hs]
  clear hs
  obtain ⟨a, cap, rfl⟩ := h.slice
  obtain ⟨a', cap', rfl⟩ := h'.slice
  go_enter Tryz.func55, Tryz.ntmps55
  go_wp2_with fail
  refine (eqLineS_any _ _ m.lines _ (h.below (below_alloc2 _ _) (Nat.le_refl _)) (h'.below (below_alloc2 _ _) (Nat.le_refl _)) hL).mono ?_
  rintro e w1 ⟨rfl, hb⟩
  go_wp2
  go_ret
  exact ⟨rfl, (below_alloc2 _ _).trans (hb.mono (by simp; omega))⟩

set_option maxHeartbeats 2000000 in
set_option maxRecDepth 100000 in
theorem eqModuleS_any (v v' : Value) (L : List Md) (w : World) (h : Mds w v L) (h' : Mds w v' L) (hL : L.length ≤ 1048576) (hLL : ∀ m ∈ L, m.lines.length ≤ 1048576) :
    Calls Tryz.prog 32 #[v, v'] w fun e w' => e = .returned (.bool true) ∧ Below w.heap.size w w' := by
  obtain ⟨a, cap, rfl, hcap, hmax, hc⟩ := h
  obtain ⟨a', cap', rfl, hcap', hmax', hc'⟩ := h'
  have HC : Hid (∀ k, (hk : k < L.length) → ∃ b o s, a = some ⟨b, o, none⟩ ∧ b < w.heap.size ∧
    w.cell? ⟨b, o + k * 2, none⟩ = some (strV L[k].name) ∧ w.cell? ⟨b, o + k * 2 + 1, none⟩ = some s ∧ Lns w s L[k].lines) := hc
  have HC' : Hid (∀ k, (hk : k < L.length) → ∃ b o s, a' = some ⟨b, o, none⟩ ∧ b < w.heap.size ∧
    w.cell? ⟨b, o + k * 2, none⟩ = some (strV L[k].name) ∧ w.cell? ⟨b, o + k * 2 + 1, none⟩ = some s ∧ Lns w s L[k].lines) := hc'
  have HLL : Hid (∀ m ∈ L, m.lines.length ≤ 1048576) := hLL
  clear hc hmax hc' hmax' hLL
  go_enter Tryz.func32, Tryz.ntmps32
  go_wp2
  go_loopw [5] (fun i wr => ∃ k : Nat, k ≤ L.length ∧ i = .int .i64 k ∧ Below w.heap.size w wr) (fun i _ => L.length - (intOf i).toNat)
  case atStart => exact ⟨0, Nat.zero_le _, rfl, Below.refl _ _⟩
  case round =>
    obtain ⟨k, hk, rfl, hB⟩ := hrel
    by_cases hlt : k < L.length
    · obtain ⟨b, o, s, rfl, hb, h0, h1, h2⟩ := HC.out k hlt
      obtain ⟨b', o', s', rfl, hb', h0', h1', h2'⟩ := HC'.out k hlt
      have c0 := (hB.cell (p := ⟨b, o + k * 2, none⟩) hb).trans h0
      have c1 := (hB.cell (p := ⟨b, o + k * 2 + 1, none⟩) hb).trans h1
      have d0 := (hB.cell (p := ⟨b', o' + k * 2, none⟩) hb').trans h0'
      have d1 := (hB.cell (p := ⟨b', o' + k * 2 + 1, none⟩) hb').trans h1'
      have h3 := h2.below hB.drew (Nat.le_refl _)
      have h3' := h2'.below hB.drew (Nat.le_refl _)
      have HEQ : Hid (Calls Tryz.prog 55 #[mdV L[k].name s, mdV L[k].name s'] wr.drew fun e w' => e = .returned (.bool true) ∧ Below wr.heap.size wr.drew w') := eqModule_any L[k] s s' wr.drew h3 h3' (HLL.out _ (List.getElem_mem hlt))
      unfold mdV at HEQ
      clear h0 h1 h0' h1' h2 h2' h3 h3'
      go_wp2
      go_region_with (go_at_call 55; refine HEQ.out.mono ?_; rintro e w1 ⟨rfl, hb1⟩)
      all_goals
        have hb2 : Below w.heap.size w w1 := hB.drew.trans (hb1.mono hB.size)
        go_wp2
        go_roundw
        case rel => exact ⟨k + 1, by omega, by go_num, hb2⟩
        case measure => simp [intOf]; omega
    · go_wp2
      go_ret
      exact ⟨rfl, hB⟩

set_option maxHeartbeats 2000000 in
set_option maxRecDepth 100000 in
theorem eqIntS_any (v v' : Value) (L : List Int) (w : World) (h : Nums w v L) (h' : Nums w v' L) (hL : L.length ≤ 1048576) :
    Calls Tryz.prog 33 #[v, v'] w fun e w' => e = .returned (.bool true) ∧ Below w.heap.size w w' := by
  obtain ⟨a, cap, rfl, hcap, hmax, hc⟩ := h
  obtain ⟨a', cap', rfl, hcap', hmax', hc'⟩ := h'
  have HC : Hid (∀ k, (hk : k < L.length) → ∃ b o, a = some ⟨b, o, none⟩ ∧ b < w.heap.size ∧ w.cell? ⟨b, o + k, none⟩ = some (.int .i64 L[k])) := hc
  have HC' : Hid (∀ k, (hk : k < L.length) → ∃ b o, a' = some ⟨b, o, none⟩ ∧ b < w.heap.size ∧ w.cell? ⟨b, o + k, none⟩ = some (.int .i64 L[k])) := hc'
  clear hc hmax hc' hmax'
  go_enter Tryz.func33, Tryz.ntmps33
  go_wp2
  go_loopw [5] (fun i wr => ∃ k : Nat, k ≤ L.length ∧ i = .int .i64 k ∧ Below w.heap.size w wr) (fun i _ => L.length - (intOf i).toNat)
  case atStart => exact ⟨0, Nat.zero_le _, rfl, Below.refl _ _⟩
  case round =>
    obtain ⟨k, hk, rfl, hB⟩ := hrel
    by_cases hlt : k < L.length
    · obtain ⟨b, o, rfl, hb, h0⟩ := HC.out k hlt
      obtain ⟨b', o', rfl, hb', h0'⟩ := HC'.out k hlt
      have c0 := (hB.cell (p := ⟨b, o + k, none⟩) hb).trans h0
      have d0 := (hB.cell (p := ⟨b', o' + k, none⟩) hb').trans h0'
      clear h0 h0'
      go_wp2
      go_region
      all_goals
        go_wp2
        go_roundw
        case rel => exact ⟨k + 1, by omega, by go_num, hB.drew⟩
        case measure => simp [intOf]; omega
    · go_wp2
      go_ret
      exact ⟨rfl, hB⟩

theorem below_drewN {B : Nat} {w w' : World} (h : Below B w w') (n : Nat) : Below B w (w'.drewN n) := h.trans ⟨rfl, rfl, rfl, Nat.le_refl _, fun _ _ => rfl⟩

set_option maxHeartbeats 2000000 in
set_option maxRecDepth 100000 in
theorem eqWorld_any (v v' : Value) (D : Wd) (w : World) (h : Wds w v D) (h' : Wds w v' D) (hD : D.t ≤ 1048576) :
    Calls Tryz.prog 11 #[v, v'] w fun e w' => e = .returned (.bool true) ∧ Below w.heap.size w w' := by
  obtain ⟨vr, vm, vf, rfl, h1, h2, h3⟩ := h
  obtain ⟨vr', vm', vf', rfl, h1', h2', h3'⟩ := h'
  have hr1 : D.roots.length ≤ 1048576 := by have : D.roots.length ≤ Pl.total D.roots := by unfold Pl.total; omega
                                            unfold Wd.t at hD; omega
  have hm1 : D.mods.length ≤ 1048576 := by unfold Wd.t mdsT at hD; omega
  have hm2 : ∀ m ∈ D.mods, m.lines.length ≤ 1048576 := fun m hm => by
    have h1 : m.t ≤ (D.mods.map Md.t).sum := mem_le_sum _ _ (List.mem_map.2 ⟨m, hm, rfl⟩)
    have h2 : m.lines.length ≤ m.t := by unfold Md.t lnsT; omega
    unfold Wd.t mdsT at hD; omega
  have hf1 : D.faults.length ≤ 1048576 := by unfold Wd.t at hD; omega
  obtain ⟨a1, k1, rfl⟩ := h1.slice
  obtain ⟨a2, k2, rfl⟩ := h2.slice
  obtain ⟨a3, k3, rfl⟩ := h3.slice
  obtain ⟨a1', k1', rfl⟩ := h1'.slice
  obtain ⟨a2', k2', rfl⟩ := h2'.slice
  obtain ⟨a3', k3', rfl⟩ := h3'.slice
  obtain ⟨W, hW⟩ : ∃ W, W = (w.alloc (.cells #[.slice a1 D.roots.length k1, .slice a2 D.mods.length k2, .slice a3 D.faults.length k3] 32)).alloc (.cells #[.slice a1' D.roots.length k1', .slice a2' D.mods.length k2', .slice a3' D.faults.length k3'] 32) := ⟨_, rfl⟩
  have hWB : Below w.heap.size w W := by rw [hW]; exact below_alloc2 _ _
  have hWs : W.heap.size = w.heap.size + 1 + 1 := by rw [hW]; simp
  have p1 : W.cell? ⟨w.heap.size, 1, none⟩ = some (.slice a2 D.mods.length k2) := by rw [hW]; simp [go_sem]
  have p2 : W.cell? ⟨w.heap.size, 2, none⟩ = some (.slice a3 D.faults.length k3) := by rw [hW]; simp [go_sem]
  have q1 : W.cell? ⟨w.heap.size + 1, 1, none⟩ = some (.slice a2' D.mods.length k2') := by rw [hW]; simp [go_sem]
  have q2 : W.cell? ⟨w.heap.size + 1, 2, none⟩ = some (.slice a3' D.faults.length k3') := by rw [hW]; simp [go_sem]
  go_enter Tryz.func11, Tryz.ntmps11
  go_wp2_with fail
  rw [← hW]
  clear hW
  refine (eqS_any _ _ D.roots W (h1.below hWB (Nat.le_refl _)) (h1'.below hWB (Nat.le_refl _)) hr1).mono ?_
  rintro e w1 ⟨rfl, n1, rfl⟩
  have hB1 := below_drewN hWB n1
  replace p1 : (W.drewN n1).cell? _ = _ := p1
  replace p2 : (W.drewN n1).cell? _ = _ := p2
  replace q1 : (W.drewN n1).cell? _ = _ := q1
  replace q2 : (W.drewN n1).cell? _ = _ := q2
  obtain ⟨W1, hW1⟩ : ∃ W1, W1 = W.drewN n1 := ⟨_, rfl⟩
  have hW1s : W1.heap.size = w.heap.size + 1 + 1 := by rw [hW1]; exact hWs
  rw [← hW1] at p1 p2 q1 q2 hB1 ⊢
  clear hW1
  go_wp2_with fail
  refine (eqModuleS_any _ _ D.mods W1 (h2.below hB1 (Nat.le_refl _)) (h2'.below hB1 (Nat.le_refl _)) hm1 hm2).mono ?_
  rintro e w2 ⟨rfl, hb2⟩
  replace p2 := below_cell0 hb2 (by omega) p2
  replace q2 := below_cell0 hb2 (by omega) q2
  have hB2 := hB1.trans (hb2.mono (by omega))
  go_wp2_with fail
  refine (eqIntS_any _ _ D.faults w2 (h3.below hB2 (Nat.le_refl _)) (h3'.below hB2 (Nat.le_refl _)) hf1).mono ?_
  rintro e w3 ⟨rfl, hb3⟩
  have hB3 := hB2.trans (hb3.mono hB2.size)
  go_wp2
  go_ret
  exact ⟨rfl, hB3⟩

/-- A fault as a value. -/
def wrongV (r : Int × Int × Int) : Value := .agg #[.int .i64 r.1, .int .i64 r.2.1, .int .i64 r.2.2]

end Go.Proofs.YtimgafblpmjajabGreat
namespace Go.Proofs.YtimgafblpmjajabGreat

open Go.RowKit

/-- A line as the table says, the i-th of n. -/
def okLn (n i : Nat) (l : Ln) : Bool :=
  if l.op = 1 ∨ l.op = 2 ∨ l.op = 6 then decide (l.name = []) && decide (l.skip = 0)
  else if l.op = 3 ∨ l.op = 4 ∨ l.op = 5 then decide (l.num = 0) && decide (l.name.length ≤ 120) && decide (l.skip = 0)
  else if l.op = 7 then decide (l.num = 0) && decide (l.name.length ≤ 120) && decide (0 ≤ l.skip) && decide (l.skip ≤ (n : Int) - 1 - i)
  else false

theorem str_empty (s : ByteArray) (l : List UInt8) (h : s = ⟨l.toArray⟩) : s.toList.isEmpty = decide (l = []) := by
  rw [h, Go.ByteArray.toList_eq]; cases l <;> simp

theorem toList_nil (s : ByteArray) : s.toList = [] → s.size = 0 := by
  rw [Go.ByteArray.toList_eq]; intro h; rw [size_data, h]; rfl

set_option maxHeartbeats 4000000 in
set_option maxRecDepth 100000 in
theorem l2line_any (n : List UInt8) (a : Option Addr) (N cap i : Nat) (l : Ln) (w : World) (hN : N ≤ 1048576) (hi : i ≤ 1048576) (hl : l.name.length ≤ 1048576) :
    Calls Tryz.prog 63 #[mdV n (.slice a N cap), lnV l, .int .i64 i] w fun e w' => e = .returned (.bool (okLn N i l)) ∧ Below w.heap.size w w' := by
  unfold mdV lnV
  obtain ⟨m, hm⟩ := strV_of n
  rw [hm]
  clear hm
  obtain ⟨s, hs⟩ : ∃ s : ByteArray, s = ⟨l.name.toArray⟩ := ⟨_, rfl⟩
  have hsv : strV l.name = .string s := by rw [hs]; rfl
  have hsz : s.size = l.name.length := by rw [hs]; simp [ByteArray.size]
  have hse := str_empty s l.name hs
  rw [hsv]
  obtain ⟨op, name, num, skip⟩ := l
  simp only [] at *
  clear hs hsv
  obtain ⟨r, hr⟩ : ∃ r, r = okLn N i ⟨op, name, num, skip⟩ := ⟨_, rfl⟩
  rw [← hr]
  by_cases h1 : op = 1
  · subst h1
    simp (config := { decide := true }) only [okLn, if_true, if_false, ← hse, ← hsz] at hr
    have HR : Hid (r = (s.toList.isEmpty && decide (skip = 0))) := hr
    clear hr hse hsz
    go_enter Tryz.func63, Tryz.ntmps63
    go_wp2
    all_goals go_ret
    all_goals refine ⟨ret_bool ?_, below_alloc2 _ _⟩
    all_goals rw [HR.out]
    all_goals (have hE := toList_nil s; simp_all)
    all_goals (first | omega | (rw [Bool.eq_iff_iff]; simp; done) | (rw [Bool.eq_iff_iff]; simp [show s.size ≤ 120 by omega]; done))
  by_cases h2 : op = 2
  · subst h2
    simp (config := { decide := true }) only [okLn, if_true, if_false, ← hse, ← hsz] at hr
    have HR : Hid (r = (s.toList.isEmpty && decide (skip = 0))) := hr
    clear hr hse hsz
    go_enter Tryz.func63, Tryz.ntmps63
    go_wp2
    all_goals go_ret
    all_goals refine ⟨ret_bool ?_, below_alloc2 _ _⟩
    all_goals rw [HR.out]
    all_goals (have hE := toList_nil s; simp_all)
    all_goals (first | omega | (rw [Bool.eq_iff_iff]; simp; done) | (rw [Bool.eq_iff_iff]; simp [show s.size ≤ 120 by omega]; done))
  by_cases h6 : op = 6
  · subst h6
    simp (config := { decide := true }) only [okLn, if_true, if_false, ← hse, ← hsz] at hr
    have HR : Hid (r = (s.toList.isEmpty && decide (skip = 0))) := hr
    clear hr hse hsz
    go_enter Tryz.func63, Tryz.ntmps63
    go_wp2
    all_goals go_ret
    all_goals refine ⟨ret_bool ?_, below_alloc2 _ _⟩
    all_goals rw [HR.out]
    all_goals (have hE := toList_nil s; simp_all)
    all_goals (first | omega | (rw [Bool.eq_iff_iff]; simp; done) | (rw [Bool.eq_iff_iff]; simp [show s.size ≤ 120 by omega]; done))
  by_cases h3 : op = 3
  · subst h3
    simp (config := { decide := true }) only [okLn, if_true, if_false, ← hse, ← hsz] at hr
    have HR : Hid (r = (decide (num = 0) && decide (s.size ≤ 120) && decide (skip = 0))) := hr
    clear hr hse hsz
    go_enter Tryz.func63, Tryz.ntmps63
    go_wp2
    all_goals go_ret
    all_goals refine ⟨ret_bool ?_, below_alloc2 _ _⟩
    all_goals rw [HR.out]
    all_goals (have hE := toList_nil s; simp_all)
    all_goals (first | omega | (rw [Bool.eq_iff_iff]; simp; done) | (rw [Bool.eq_iff_iff]; simp [show s.size ≤ 120 by omega]; done))
  by_cases h4 : op = 4
  · subst h4
    simp (config := { decide := true }) only [okLn, if_true, if_false, ← hse, ← hsz] at hr
    have HR : Hid (r = (decide (num = 0) && decide (s.size ≤ 120) && decide (skip = 0))) := hr
    clear hr hse hsz
    go_enter Tryz.func63, Tryz.ntmps63
    go_wp2
    all_goals go_ret
    all_goals refine ⟨ret_bool ?_, below_alloc2 _ _⟩
    all_goals rw [HR.out]
    all_goals (have hE := toList_nil s; simp_all)
    all_goals (first | omega | (rw [Bool.eq_iff_iff]; simp; done) | (rw [Bool.eq_iff_iff]; simp [show s.size ≤ 120 by omega]; done))
  by_cases h5 : op = 5
  · subst h5
    simp (config := { decide := true }) only [okLn, if_true, if_false, ← hse, ← hsz] at hr
    have HR : Hid (r = (decide (num = 0) && decide (s.size ≤ 120) && decide (skip = 0))) := hr
    clear hr hse hsz
    go_enter Tryz.func63, Tryz.ntmps63
    go_wp2
    all_goals go_ret
    all_goals refine ⟨ret_bool ?_, below_alloc2 _ _⟩
    all_goals rw [HR.out]
    all_goals (have hE := toList_nil s; simp_all)
    all_goals (first | omega | (rw [Bool.eq_iff_iff]; simp; done) | (rw [Bool.eq_iff_iff]; simp [show s.size ≤ 120 by omega]; done))
  by_cases h7 : op = 7
  · subst h7
    simp (config := { decide := true }) only [okLn, if_true, if_false, ← hse, ← hsz] at hr
    have HR : Hid (r = (decide (num = 0) && decide (s.size ≤ 120) && decide (0 ≤ skip) && decide (skip ≤ (N : Int) - 1 - i))) := hr
    clear hr hse hsz
    go_enter Tryz.func63, Tryz.ntmps63
    go_wp2
    all_goals go_ret
    all_goals refine ⟨ret_bool ?_, below_alloc2 _ _⟩
    all_goals rw [HR.out]
    all_goals (have hE := toList_nil s; simp_all)
    all_goals (first | omega | (rw [Bool.eq_iff_iff]; simp; done) | (rw [Bool.eq_iff_iff]; simp [show s.size ≤ 120 by omega]; done))
  have hrf : r = false := by rw [hr, okLn, if_neg (by simp only []; omega), if_neg (by simp only []; omega), if_neg (by simp only []; omega)]
  subst hrf
  have n1 : (op == 1) = false := by simpa using h1
  have n2 : (op == 2) = false := by simpa using h2
  have n3 : (op == 3) = false := by simpa using h3
  have n4 : (op == 4) = false := by simpa using h4
  have n5 : (op == 5) = false := by simpa using h5
  have n6 : (op == 6) = false := by simpa using h6
  have n7 : (op == 7) = false := by simpa using h7
  clear hr hse hsz
  by_cases hlo : op < 1
  · clear h1 h2 h3 h4 h5 h6 h7
    go_enter Tryz.func63, Tryz.ntmps63
    go_wp2
    all_goals go_ret
    all_goals exact ⟨rfl, below_alloc2 _ _⟩
  · have hhi : 7 < op := by omega
    clear h1 h2 h3 h4 h5 h6 h7
    go_enter Tryz.func63, Tryz.ntmps63
    go_wp2
    all_goals go_ret
    all_goals exact ⟨rfl, below_alloc2 _ _⟩

end Go.Proofs.YtimgafblpmjajabGreat
namespace Go.Proofs.YtimgafblpmjajabGreat

open Go.RowKit

/-- The first i from 0 on, below n, at which p says yes; n for none. -/
def firstN (p : Nat → Bool) : Nat → Nat → Nat
  | 0, i => i
  | f + 1, i => if p i then i else firstN p f (i + 1)
theorem firstN_skip (p : Nat → Bool) : ∀ (d f i : Nat), (∀ j, i ≤ j → j < i + d → p j = false) → firstN p (d + f) i = firstN p f (i + d)
  | 0, f, i, _ => by rw [Nat.zero_add, Nat.add_zero]
  | d + 1, f, i, h => by
    rw [Nat.succ_add, firstN, h i (Nat.le_refl _) (by omega), if_neg (by decide), firstN_skip p d f (i + 1) (fun j h1 h2 => h j (by omega) (by omega)), Nat.add_right_comm, Nat.add_assoc]
theorem firstN_hit {p : Nat → Bool} {n k : Nat} (hk : k < n) (hall : ∀ j, j < k → p j = false) (hp : p k = true) : firstN p n 0 = k := by
  obtain ⟨f, rfl⟩ : ∃ f, n = k + (f + 1) := ⟨n - k - 1, by omega⟩
  rw [firstN_skip p k (f + 1) 0 (fun j _ h => hall j (by omega)), Nat.zero_add, firstN, if_pos hp]
theorem firstN_none {p : Nat → Bool} {n : Nat} (hall : ∀ j, j < n → p j = false) : firstN p n 0 = n := by
  have := firstN_skip p n 0 0 (fun j _ h => hall j (by omega))
  rw [Nat.add_zero] at this
  rw [this, Nat.zero_add, firstN]

/-- A name in its one form. -/
def isN (s : List UInt8) : Bool := decide ((Pl.nm [] s).1 = 0) && decide ((Pl.nm [] s).2 = s)
theorem nm_code (s : List UInt8) (h : (Pl.nm [] s).1 ≠ 0) : (Pl.nm [] s).2 = [] := by
  unfold Pl.nm at h ⊢
  split
  · rfl
  · rename_i h60
    rw [if_neg h60] at h
    unfold Pl.fin at h ⊢
    split
    · rename_i h0
      rw [if_pos h0] at h
      split
      · rfl
      · rename_i hj
        rw [if_neg hj] at h
        split
        · rfl
        · rename_i h6
          rw [if_neg h6] at h
          exact absurd rfl h
    · rfl
def oddRoot (r : List UInt8) : Bool := decide (r ≠ []) && !isN r
theorem oddRoot_spec (r : List UInt8) : oddRoot r = (decide (r ≠ []) && decide ((Pl.nm [] r).2 ≠ r)) := by
  unfold oddRoot isN
  by_cases hr : r = []
  · simp [hr]
  · by_cases hc : (Pl.nm [] r).1 = 0
    · simp [hc]
    · have := nm_code r hc
      rw [this]
      simp [hc, hr]

/-- Faults that ascend behind 'last', below 400. -/
def asc : Int → List Int → Bool
  | _, [] => true
  | last, f :: r => if f ≤ last ∨ 400 ≤ f then false else asc f r
def ascTo (L : List Int) (k : Nat) : Option Int := if asc (-1) (L.take k) then some (if k = 0 then -1 else (L[k - 1]?).getD 0) else none

/-- The i-th module is none that may stand there. -/
def badMd (M : List Md) (i : Nat) : Bool :=
  match M[i]? with
  | none => false
  | some m => !isN m.name || decide (60 < m.lines.length) || (M.take i).any (fun k => decide (k.name = m.name))
def badLn (L : List Ln) (i : Nat) : Bool :=
  match L[i]? with
  | none => false
  | some l => !okLn L.length i l
def badLns (M : List Md) (i : Nat) : Bool :=
  match M[i]? with
  | none => false
  | some m => decide (firstN (badLn m.lines) m.lines.length 0 < m.lines.length)
/-- The first fault of a world. -/
def wok (D : Wd) : Int × Int × Int :=
  if 60 < D.mods.length ∨ 8 < D.roots.length ∨ 400 < D.faults.length then (1, 0, 0)
  else if D.roots.any oddRoot then (2, 0, 0)
  else if !asc (-1) D.faults then (3, 0, 0)
  else if firstN (badMd D.mods) D.mods.length 0 < D.mods.length then (4, (firstN (badMd D.mods) D.mods.length 0 : Nat), 0)
  else match D.mods[firstN (badLns D.mods) D.mods.length 0]? with
    | none => (0, 0, 0)
    | some m => (5, (firstN (badLns D.mods) D.mods.length 0 : Nat), (firstN (badLn m.lines) m.lines.length 0 : Nat))

theorem badMd_at {M : List Md} {i : Nat} (hi : i < M.length) : badMd M i = (!isN M[i].name || decide (60 < M[i].lines.length) || (M.take i).any (fun k => decide (k.name = M[i].name))) := by
  unfold badMd; rw [List.getElem?_eq_getElem hi]
theorem badLn_at {L : List Ln} {i : Nat} (hi : i < L.length) : badLn L i = !okLn L.length i L[i] := by
  unfold badLn; rw [List.getElem?_eq_getElem hi]
theorem badLns_at {M : List Md} {i : Nat} (hi : i < M.length) : badLns M i = decide (firstN (badLn M[i].lines) M[i].lines.length 0 < M[i].lines.length) := by
  unfold badLns; rw [List.getElem?_eq_getElem hi]

theorem wok_1 {D : Wd} (h : 60 < D.mods.length ∨ 8 < D.roots.length ∨ 400 < D.faults.length) : wok D = (1, 0, 0) := by unfold wok; rw [if_pos h]
theorem wok_2 {D : Wd} (h : ¬ (60 < D.mods.length ∨ 8 < D.roots.length ∨ 400 < D.faults.length)) (h2 : D.roots.any oddRoot = true) : wok D = (2, 0, 0) := by unfold wok; rw [if_neg h, if_pos h2]
theorem wok_3 {D : Wd} (h : ¬ (60 < D.mods.length ∨ 8 < D.roots.length ∨ 400 < D.faults.length)) (h2 : D.roots.any oddRoot = false) (h3 : asc (-1) D.faults = false) : wok D = (3, 0, 0) := by
  unfold wok; rw [if_neg h, if_neg (by rw [h2]; decide), if_pos (by rw [h3]; rfl)]
theorem wok_4 {D : Wd} (h : ¬ (60 < D.mods.length ∨ 8 < D.roots.length ∨ 400 < D.faults.length)) (h2 : D.roots.any oddRoot = false) (h3 : asc (-1) D.faults = true) {k : Nat} (hk : k < D.mods.length) (hf : firstN (badMd D.mods) D.mods.length 0 = k) : wok D = (4, (k : Int), 0) := by
  unfold wok; rw [if_neg h, if_neg (by rw [h2]; decide), if_neg (by rw [h3]; decide), hf, if_pos hk]
theorem wok_5 {D : Wd} (h : ¬ (60 < D.mods.length ∨ 8 < D.roots.length ∨ 400 < D.faults.length)) (h2 : D.roots.any oddRoot = false) (h3 : asc (-1) D.faults = true) (h4 : firstN (badMd D.mods) D.mods.length 0 = D.mods.length)
    {k : Nat} (hk : k < D.mods.length) (hf : firstN (badLns D.mods) D.mods.length 0 = k) : wok D = (5, (k : Int), ((firstN (badLn D.mods[k].lines) D.mods[k].lines.length 0 : Nat) : Int)) := by
  unfold wok; rw [if_neg h, if_neg (by rw [h2]; decide), if_neg (by rw [h3]; decide), h4, if_neg (by omega), hf, List.getElem?_eq_getElem hk]
theorem wok_0 {D : Wd} (h : ¬ (60 < D.mods.length ∨ 8 < D.roots.length ∨ 400 < D.faults.length)) (h2 : D.roots.any oddRoot = false) (h3 : asc (-1) D.faults = true) (h4 : firstN (badMd D.mods) D.mods.length 0 = D.mods.length)
    (h5 : firstN (badLns D.mods) D.mods.length 0 = D.mods.length) : wok D = (0, 0, 0) := by
  unfold wok; rw [if_neg h, if_neg (by rw [h2]; decide), if_neg (by rw [h3]; decide), h4, if_neg (by omega), h5, List.getElem?_eq_none (Nat.le_refl _)]

/-- Faults, round by round. -/
theorem asc_snoc (last : Int) (L : List Int) (f : Int) (hlast : asc last L = true) : asc last (L ++ [f]) = if f ≤ (L.getLastD last) ∨ 400 ≤ f then false else true := by
  induction L generalizing last with
  | nil => simp [asc]
  | cons x r ih =>
    simp only [asc] at hlast
    split at hlast
    · cases hlast
    · rename_i hx
      rw [List.cons_append, asc, if_neg hx, ih x hlast]
      simp only [List.getLastD_cons]
theorem asc_append_false (last : Int) (L R : List Int) (h : asc last L = false) : asc last (L ++ R) = false := by
  induction L generalizing last with
  | nil => simp [asc] at h
  | cons x r ih =>
    simp only [asc] at h
    rw [List.cons_append, asc]
    split
    · rfl
    · rename_i hx; rw [if_neg hx] at h; exact ih x h
end Go.Proofs.YtimgafblpmjajabGreat
namespace Go.Proofs.YtimgafblpmjajabGreat

open Go.RowKit

/-- The argument in its box, the answer's cells at their zeros. -/
structure Bx (n : Nat) (w : World) (vr vm vf : Value) : Prop where
  p0 : w.cell? ⟨n, 0, none⟩ = some vr
  p1 : w.cell? ⟨n, 1, none⟩ = some vm
  p2 : w.cell? ⟨n, 2, none⟩ = some vf
  r0 : w.cell? ⟨n + 1, 0, none⟩ = some (.int .i64 0)
  r1 : w.cell? ⟨n + 1, 1, none⟩ = some (.int .i64 0)
  r2 : w.cell? ⟨n + 1, 2, none⟩ = some (.int .i64 0)
  f0 : w.frozen? ⟨n + 1, 0, none⟩ = false
  f1 : w.frozen? ⟨n + 1, 1, none⟩ = false
  f2 : w.frozen? ⟨n + 1, 2, none⟩ = false
theorem Bx.below {n B : Nat} {w w' : World} {vr vm vf : Value} (h : Bx n w vr vm vf) (hb : Below B w w') (hB : n + 2 ≤ B) : Bx n w' vr vm vf :=
  ⟨below_cell0 hb (by omega) h.p0, below_cell0 hb (by omega) h.p1, below_cell0 hb (by omega) h.p2, below_cell0 hb (by omega) h.r0, below_cell0 hb (by omega) h.r1, below_cell0 hb (by omega) h.r2, below_frz hb (by omega) h.f0, below_frz hb (by omega) h.f1, below_frz hb (by omega) h.f2⟩

theorem str_ne {s t : ByteArray} {a b : List UInt8} (hs : s.data.toList = a) (ht : t.data.toList = b) (h : a ≠ b) : s ≠ t := fun e => h (by rw [← hs, ← ht, e])
theorem str_eq {s t : ByteArray} {a : List UInt8} (hs : s.data.toList = a) (ht : t.data.toList = a) : s = t := by
  cases s; cases t; congr 1; exact Array.toList_inj.1 (hs.trans ht.symm)
theorem str_beq {s t : ByteArray} {a b : List UInt8} (hs : s.data.toList = a) (ht : t.data.toList = b) : (s.toList == t.toList) = decide (a = b) := by
  rw [Go.ByteArray.toList_eq, Go.ByteArray.toList_eq, hs, ht, Bool.eq_iff_iff]; simp
theorem below_ret {w W w1 : World} (hWB : Below w.heap.size w W) (hB1 : Below (w.heap.size + 2) W w1) (a b c : Value) :
    Below w.heap.size w (((w1.setCell ⟨w.heap.size + 1, 0, none⟩ a).setCell ⟨w.heap.size + 1, 1, none⟩ b).setCell ⟨w.heap.size + 1, 2, none⟩ c) :=
  (((hWB.trans (hB1.mono (by omega))).setCell (p := ⟨w.heap.size + 1, 0, none⟩) (by simp only []; omega) _).setCell (p := ⟨w.heap.size + 1, 1, none⟩) (by simp only []; omega) _).setCell (p := ⟨w.heap.size + 1, 2, none⟩) (by simp only []; omega) _
theorem sz3 (w1 : World) (p q r : Addr) (a b c : Value) : (((w1.setCell p a).setCell q b).setCell r c).heap.size = w1.heap.size := by simp [World.setCell]

theorem str_emp {s : ByteArray} {a : List UInt8} (hs : s.data.toList = a) : s.toList.isEmpty = decide (a = []) := by
  rw [Go.ByteArray.toList_eq, hs]; cases a <;> simp

theorem take_snoc_last (L : List Int) (k : Nat) (hk : k < L.length) (d : Int) : (L.take (k + 1)).getLastD d = L[k] := by
  rw [List.take_succ_eq_append_getElem hk, List.getLastD_eq_getLast?, List.getLast?_concat]; rfl
theorem asc_take (L : List Int) (k : Nat) (hk : k < L.length) (h : asc (-1) (L.take k) = true) : asc (-1) (L.take (k + 1)) = if L[k] ≤ (L.take k).getLastD (-1) ∨ 400 ≤ L[k] then false else true := by
  rw [List.take_succ_eq_append_getElem hk, asc_snoc _ _ _ h]
theorem asc_of_take (L : List Int) (k : Nat) (h : asc (-1) (L.take k) = false) : asc (-1) L = false := by
  have := asc_append_false (-1) (L.take k) (L.drop k) h
  rwa [List.take_append_drop] at this
/-- A module's name is small. -/
theorem Md.small {m : Md} (h : m.t ≤ 1048576) : m.name.length ≤ 1048576 ∧ m.lines.length ≤ 1048576 ∧ ∀ l ∈ m.lines, l.name.length ≤ 1048576 := by
  unfold Md.t lnsT at h
  refine ⟨by omega, by omega, fun l hl => ?_⟩
  have : l.t ≤ (m.lines.map Ln.t).sum := mem_le_sum _ _ (List.mem_map.2 ⟨l, hl, rfl⟩)
  have h2 : l.t = l.name.length := rfl
  omega

set_option maxHeartbeats 8000000 in
set_option maxRecDepth 100000 in
theorem specWorldOk_any (v : Value) (D : Wd) (w : World) (h : Wds w v D) (hD : D.t ≤ 1048576) :
    Calls Tryz.prog 46 #[v] w fun e w' => e = .returned (wrongV (wok D)) ∧ Below w.heap.size w w' := by
  obtain ⟨vr, vm, vf, rfl, h1, h2, h3⟩ := h
  have hr0 : Pl.total D.roots ≤ 1048576 := by unfold Wd.t at hD; omega
  have hr1 : D.roots.length ≤ 1048576 := by have : D.roots.length ≤ Pl.total D.roots := by unfold Pl.total; omega
                                            omega
  have hm1 : D.mods.length ≤ 1048576 := by unfold Wd.t mdsT at hD; omega
  have hm2 : ∀ m ∈ D.mods, m.t ≤ 1048576 := fun m hm => by
    have h1 : m.t ≤ (D.mods.map Md.t).sum := mem_le_sum _ _ (List.mem_map.2 ⟨m, hm, rfl⟩)
    unfold Wd.t mdsT at hD; omega
  have hf1 : D.faults.length ≤ 1048576 := by unfold Wd.t at hD; omega
  obtain ⟨R, hR⟩ : ∃ R, R = wok D := ⟨_, rfl⟩
  rw [← hR]
  have HR : Hid (R = wok D) := hR
  clear hR
  obtain ⟨a1, k1, rfl, hk1, hx1, hc1⟩ := h1
  obtain ⟨a2, k2, rfl, hk2, hx2, hc2⟩ := h2
  obtain ⟨a3, k3, rfl, hk3, hx3, hc3⟩ := h3
  have HC1 : Hid (∀ k, (hk : k < D.roots.length) → ∃ b o, a1 = some ⟨b, o, none⟩ ∧ b < w.heap.size ∧ w.cell? ⟨b, o + k, none⟩ = some (strV D.roots[k])) := hc1
  have HC2 : Hid (∀ k, (hk : k < D.mods.length) → ∃ b o s, a2 = some ⟨b, o, none⟩ ∧ b < w.heap.size ∧
    w.cell? ⟨b, o + k * 2, none⟩ = some (strV D.mods[k].name) ∧ w.cell? ⟨b, o + k * 2 + 1, none⟩ = some s ∧ Lns w s D.mods[k].lines) := hc2
  have HC3 : Hid (∀ k, (hk : k < D.faults.length) → ∃ b o, a3 = some ⟨b, o, none⟩ ∧ b < w.heap.size ∧ w.cell? ⟨b, o + k, none⟩ = some (.int .i64 D.faults[k])) := hc3
  clear hc1 hc2 hc3 hx1 hx2 hx3 hD
  obtain ⟨W, hW⟩ : ∃ W, W = (w.alloc (.cells #[.slice a1 D.roots.length k1, .slice a2 D.mods.length k2, .slice a3 D.faults.length k3] 32)).alloc (.cells #[.int .i64 0, .int .i64 0, .int .i64 0] 88) := ⟨_, rfl⟩
  have hWB : Below w.heap.size w W := by rw [hW]; exact below_alloc2 _ _
  have hWs : W.heap.size = w.heap.size + 2 := by rw [hW]; simp
  have hBx : Bx w.heap.size W (.slice a1 D.roots.length k1) (.slice a2 D.mods.length k2) (.slice a3 D.faults.length k3) := by
    rw [hW]; constructor <;> simp [go_sem]
  have HW : Hid (W = (w.alloc (.cells #[.slice a1 D.roots.length k1, .slice a2 D.mods.length k2, .slice a3 D.faults.length k3] 32)).alloc (.cells #[.int .i64 0, .int .i64 0, .int .i64 0] 88)) := hW
  clear hW
  by_cases hbig : 60 < D.mods.length ∨ 8 < D.roots.length ∨ 400 < D.faults.length
  · have hR1 : R = (1, 0, 0) := by rw [HR.out, wok_1 hbig]
    subst hR1
    go_enter Tryz.func46, Tryz.ntmps46
    go_wp2
    all_goals exact bodyPost_ret (v := wrongV (1, 0, 0)) (by simp [results, Tryz.results46, go_sem, wrongV]) rfl ⟨rfl, below_alloc2 _ _⟩
  · have HR2 : Hid (D.roots.any oddRoot = true → R = (2, 0, 0)) := fun h => by rw [HR.out, wok_2 hbig h]
    have hb1 : ¬ 60 < D.mods.length := fun h => hbig (.inl h)
    have hb2 : ¬ 8 < D.roots.length := fun h => hbig (.inr (.inl h))
    have hb3 : ¬ 400 < D.faults.length := fun h => hbig (.inr (.inr h))
    have HBIG : Hid (¬ (60 < D.mods.length ∨ 8 < D.roots.length ∨ 400 < D.faults.length)) := hbig
    have HM2 : Hid (∀ m ∈ D.mods, m.t ≤ 1048576) := hm2
    clear hbig hm2
    go_enter Tryz.func46, Tryz.ntmps46
    go_wp2
    rw [← HW.out]
    go_loopw [37] (fun i wr => ∃ k : Nat, k ≤ D.roots.length ∧ i = .int .i64 k ∧ (∀ j (hj : j < D.roots.length), j < k → oddRoot D.roots[j] = false) ∧ Below (w.heap.size + 2) W wr) (fun i _ => D.roots.length - (intOf i).toNat)
    case atStart => exact ⟨0, Nat.zero_le _, rfl, fun j _ h => absurd h (by omega), Below.refl _ _⟩
    case round =>
      obtain ⟨k, hk, rfl, hodd, hB⟩ := hrel
      have HODD : Hid (∀ j (hj : j < D.roots.length), j < k → oddRoot D.roots[j] = false) := hodd
      clear hodd
      by_cases hlt : k < D.roots.length
      · obtain ⟨b, o, rfl, hb, h0⟩ := HC1.out k hlt
        have c0 := (hB.cell (p := ⟨b, o + k, none⟩) (by simp only []; omega)).trans ((hWB.cell (p := ⟨b, o + k, none⟩) hb).trans h0)
        obtain ⟨s, hs⟩ : ∃ s : ByteArray, s = ⟨D.roots[k].toArray⟩ := ⟨_, rfl⟩
        have hsl : s.data.toList = D.roots[k] := by rw [hs]
        have hsv : strV D.roots[k] = .string s := by rw [hs]; rfl
        have hsm : s.size ≤ 1048576 := by
          have h1 : D.roots[k].length ≤ Lib.lens D.roots := mem_le_sum _ _ (List.mem_map.2 ⟨_, List.getElem_mem hlt, rfl⟩)
          have h2 : Lib.lens D.roots ≤ Pl.total D.roots := by unfold Pl.total; omega
          rw [size_data, hsl]; omega
        rw [hsv] at c0
        clear h0 hs
        have hBxr := hBx.below hB (Nat.le_refl _)
        obtain ⟨p0, p1, p2, q0, q1, q2, f0, f1, f2⟩ := hBxr
        go_wp2_with fail
        refine (specClean_any s _ hsm).mono ?_
        rw [hsl]
        obtain ⟨c, x, hn⟩ : ∃ c x, Pl.nm [] D.roots[k] = (c, x) := ⟨_, _, rfl⟩
        obtain ⟨t, ht⟩ : ∃ t : ByteArray, t.data.toList = x := ⟨⟨x.toArray⟩, by simp⟩
        have htv : strV x = .string t := by rw [← ht, strV_data]
        rw [hn]
        unfold namedV
        rw [htv]
        clear htv
        have hod : oddRoot D.roots[k] = (decide (D.roots[k] ≠ []) && decide (x ≠ D.roots[k])) := by rw [oddRoot_spec, hn]
        have HN : Hid (Pl.nm [] D.roots[k] = (c, x)) := hn
        have hse := str_emp hsl
        have hBr : w.heap.size + 2 ≤ wr.heap.size := by have := hB.size; omega
        rintro e w1 ⟨rfl, hb4⟩
        have hB1 : Below (w.heap.size + 2) W w1 := hB.trans (hb4.mono hBr)
        have hBxr1 := hBx.below hB1 (Nat.le_refl _)
        obtain ⟨p0, p1, p2, q0, q1, q2, f0, f1, f2⟩ := hBxr1
        have hz1 : w.heap.size < w1.heap.size := by have := hB1.size; omega
        have hz2 : w.heap.size + 1 < w1.heap.size := by have := hB1.size; omega
        have HSL : Hid (s.data.toList = D.roots[k]) := hsl
        clear hn hsm hsl
        by_cases he : D.roots[k] = []
        · have hod' : oddRoot D.roots[k] = false := by rw [hod]; simp [he]
          have HOD : Hid (oddRoot D.roots[k] = false) := hod'
          have hse' : s.toList.isEmpty = true := by rw [hse]; simpa using he
          clear hod hod' hse he ht
          go_wp2
          go_roundw
          case rel => exact ⟨k + 1, by omega, by go_num, fun j hj hjk => by
            by_cases hjk' : j = k
            · subst hjk'; exact HOD.out
            · exact HODD.out j hj (by omega), hB1.alloc (by omega) _⟩
          case measure => simp [intOf]; omega
        · have hse' : s.toList.isEmpty = false := by rw [hse]; simpa using he
          by_cases hx : x = D.roots[k]
          · have hod' : oddRoot D.roots[k] = false := by rw [hod]; simp [hx]
            have HOD : Hid (oddRoot D.roots[k] = false) := hod'
            obtain rfl : t = s := str_eq (ht.trans hx) HSL.out
            clear hod hod' hse he ht hx
            go_wp2
            go_roundw
            case rel => exact ⟨k + 1, by omega, by go_num, fun j hj hjk => by
              by_cases hjk' : j = k
              · subst hjk'; exact HOD.out
              · exact HODD.out j hj (by omega), hB1.alloc (by omega) _⟩
            case measure => simp [intOf]; omega
          · have hod' : oddRoot D.roots[k] = true := by rw [hod]; simp [hx, he]
            have hR2 : R = (2, 0, 0) := HR2.out (List.any_eq_true.2 ⟨_, List.getElem_mem hlt, hod'⟩)
            subst hR2
            have hne : (t.toList == s.toList) = false := by rw [str_beq ht HSL.out]; simpa using hx
            clear hod hod' hse he ht hx
            go_wp2
            exact bodyPost_ret (v := wrongV (2, 0, 0)) (by simp [results, Tryz.results46, go_sem, wrongV, *]) rfl ⟨rfl, (below_ret hWB hB1 _ _ _).alloc (by rw [sz3]; omega) _⟩
      · have hroot : D.roots.any oddRoot = false := by
          rw [List.any_eq_false]
          intro r hr
          obtain ⟨j, hj, rfl⟩ := List.getElem_of_mem hr
          rw [HODD.out j hj (by omega)]; decide
        have HR3 : Hid (asc (-1) D.faults = false → R = (3, 0, 0)) := fun h => by rw [HR.out, wok_3 HBIG.out hroot h]
        have HROOT : Hid (D.roots.any oddRoot = false) := hroot
        clear hroot HR2 HODD HC1
        obtain ⟨p0, p1, p2, q0, q1, q2, f0, f1, f2⟩ := hBx.below hB (Nat.le_refl _)
        have hBr : w.heap.size + 2 ≤ wr.heap.size := by have := hB.size; omega
        go_wp2
        obtain ⟨W1, hW1⟩ : ∃ W1, W1 = wr := ⟨_, rfl⟩
        rw [← hW1] at hB p0 p1 p2 q0 q1 q2 f0 f1 f2 hBr ⊢
        clear hW1
        go_loopw [6, 56] (fun l i wr => ∃ k : Nat, k ≤ D.faults.length ∧ i = .int .i64 k ∧ l = .int .i64 ((D.faults.take k).getLastD (-1)) ∧ asc (-1) (D.faults.take k) = true ∧ Below (w.heap.size + 2) W wr) (fun _ i _ => D.faults.length - (intOf i).toNat)
        case atStart => exact ⟨0, Nat.zero_le _, rfl, rfl, rfl, hB⟩
        case round =>
          obtain ⟨k, hk, rfl, rfl, hasc, hB2⟩ := hrel
          obtain ⟨lst, hlst⟩ : ∃ lst, lst = (D.faults.take k).getLastD (-1) := ⟨_, rfl⟩
          rw [← hlst]
          have HL : Hid (lst = (D.faults.take k).getLastD (-1)) := hlst
          have HASC : Hid (asc (-1) (D.faults.take k) = true) := hasc
          clear hlst hasc hB p0 p1 p2 q0 q1 q2 f0 f1 f2
          obtain ⟨p0, p1, p2, q0, q1, q2, f0, f1, f2⟩ := hBx.below hB2 (Nat.le_refl _)
          have hBr2 : w.heap.size + 2 ≤ wr.heap.size := by have := hB2.size; omega
          by_cases hlt : k < D.faults.length
          · obtain ⟨b, o, rfl, hb, h0⟩ := HC3.out k hlt
            have c0 := (hB2.cell (p := ⟨b, o + k, none⟩) (by simp only []; omega)).trans ((hWB.cell (p := ⟨b, o + k, none⟩) hb).trans h0)
            have hstep := asc_take D.faults k hlt HASC.out
            rw [← HL.out] at hstep
            have hlast := take_snoc_last D.faults k hlt (-1)
            obtain ⟨f, hf⟩ : ∃ f, f = D.faults[k] := ⟨_, rfl⟩
            rw [← hf] at c0 hstep hlast
            clear h0 hf
            by_cases hx1 : f ≤ lst
            · have hR3 : R = (3, 0, 0) := HR3.out (asc_of_take _ (k + 1) (by rw [hstep, if_pos (.inl hx1)]))
              subst hR3
              clear hstep hlast
              go_wp2
              exact bodyPost_ret (v := wrongV (3, 0, 0)) (by simp [results, Tryz.results46, go_sem, wrongV, *]) rfl ⟨rfl, below_ret hWB hB2 _ _ _⟩
            · by_cases hx2 : 400 ≤ f
              · have hR3 : R = (3, 0, 0) := HR3.out (asc_of_take _ (k + 1) (by rw [hstep, if_pos (.inr hx2)]))
                subst hR3
                clear hstep hlast
                go_wp2
                exact bodyPost_ret (v := wrongV (3, 0, 0)) (by simp [results, Tryz.results46, go_sem, wrongV, *]) rfl ⟨rfl, below_ret hWB hB2 _ _ _⟩
              · rw [if_neg (by omega)] at hstep
                have HST : Hid (asc (-1) (D.faults.take (k + 1)) = true ∧ (D.faults.take (k + 1)).getLastD (-1) = f) := ⟨hstep, hlast⟩
                clear hstep hlast
                go_wp2
                go_roundw
                case rel => exact ⟨k + 1, by omega, by go_num, by rw [HST.out.2], HST.out.1, hB2⟩
                case measure => simp [intOf]; omega
          · have hasc : asc (-1) D.faults = true := by have := HASC.out; rwa [List.take_of_length_le (by omega)] at this
            have HR4 : Hid (∀ k, k < D.mods.length → firstN (badMd D.mods) D.mods.length 0 = k → R = (4, (k : Int), 0)) := fun k hk h => by rw [HR.out, wok_4 HBIG.out HROOT.out hasc hk h]
            have HASC' : Hid (asc (-1) D.faults = true) := hasc
            clear hasc HR3 HC3 HL HASC
            go_wp2
            obtain ⟨W2, hW2⟩ : ∃ W2, W2 = wr := ⟨_, rfl⟩
            rw [← hW2] at hB2 p0 p1 p2 q0 q1 q2 f0 f1 f2 hBr2 ⊢
            clear hW2
            go_loopw [73] (fun i wr => ∃ k : Nat, k ≤ D.mods.length ∧ i = .int .i64 k ∧ (∀ j, j < k → badMd D.mods j = false) ∧ Below (w.heap.size + 2) W wr) (fun i _ => D.mods.length - (intOf i).toNat)
            case atStart => exact ⟨0, Nat.zero_le _, rfl, fun j h => absurd h (by omega), hB2⟩
            case round =>
              obtain ⟨k, hk, rfl, hbad, hB3⟩ := hrel
              have HBAD : Hid (∀ j, j < k → badMd D.mods j = false) := hbad
              clear hbad hB2 p0 p1 p2 q0 q1 q2 f0 f1 f2
              have hBr3 : w.heap.size + 2 ≤ wr.heap.size := by have := hB3.size; omega
              by_cases hlt : k < D.mods.length
              · obtain ⟨b, o, s, rfl, hb, h0, h1, h2⟩ := HC2.out k hlt
                obtain ⟨hs1, hs2, hs3⟩ := Md.small (HM2.out _ (List.getElem_mem hlt))
                obtain ⟨asl, cs, rfl⟩ := h2.slice
                obtain ⟨N, hN⟩ : ∃ N, N = D.mods[k].lines.length := ⟨_, rfl⟩
                obtain ⟨ns, hns⟩ : ∃ ns : ByteArray, ns.data.toList = D.mods[k].name := ⟨⟨D.mods[k].name.toArray⟩, by simp⟩
                have hnv : strV D.mods[k].name = .string ns := by rw [← hns, strV_data]
                rw [hnv] at h0
                rw [← hN] at h1 hs2
                have c0 := (hB3.cell (p := ⟨b, o + k * 2, none⟩) (by simp only []; omega)).trans ((hWB.cell (p := ⟨b, o + k * 2, none⟩) hb).trans h0)
                have c1 := (hB3.cell (p := ⟨b, o + k * 2 + 1, none⟩) (by simp only []; omega)).trans ((hWB.cell (p := ⟨b, o + k * 2 + 1, none⟩) hb).trans h1)
                have hnsm : ns.size ≤ 1048576 := by rw [size_data, hns]; exact hs1
                have hbm := badMd_at hlt
                rw [← hN] at hbm
                have HBM : Hid (badMd D.mods k = (!isN D.mods[k].name || decide (60 < N) || (D.mods.take k).any (fun m => decide (m.name = D.mods[k].name)))) := hbm
                have HNS : Hid (ns.data.toList = D.mods[k].name) := hns
                clear h0 h1 h2 hs3 hs1 hbm hns hnv hN
                go_wp2_with fail
                refine (specClean_any ns _ hnsm).mono ?_
                obtain ⟨c, x, hn⟩ : ∃ c x, Pl.nm [] D.mods[k].name = (c, x) := ⟨_, _, rfl⟩
                obtain ⟨t, ht⟩ : ∃ t : ByteArray, t.data.toList = x := ⟨⟨x.toArray⟩, by simp⟩
                have htv : strV x = .string t := by rw [← ht, strV_data]
                rw [HNS.out, hn]
                unfold namedV
                rw [htv]
                have HIS : Hid (isN D.mods[k].name = (decide (c = 0) && decide (x = D.mods[k].name))) := by unfold Hid; rw [isN, hn]
                have HTX : Hid (t.data.toList = x) := ht
                clear htv ht hn c0 c1
                rintro e w1 ⟨rfl, hb4⟩
                have m0 : w1.cell? ⟨wr.heap.size, 0, none⟩ = some (.string ns) := below_cell0 hb4 (by simp) (by simp [go_sem])
                have m1 : w1.cell? ⟨wr.heap.size, 1, none⟩ = some (.slice asl N cs) := below_cell0 hb4 (by simp) (by simp [go_sem])
                have hB4 : Below (w.heap.size + 2) W w1 := (hB3.alloc hBr3 _).trans (hb4.mono (by simp; omega))
                have hz0 : wr.heap.size < w1.heap.size := by have := hb4.size; simp at this; omega
                have hz1 : w.heap.size < w1.heap.size := by omega
                have hz2 : w.heap.size + 1 < w1.heap.size := by omega
                obtain ⟨p0, p1, p2, q0, q1, q2, f0, f1, f2⟩ := hBx.below hB4 (Nat.le_refl _)
                clear hb4
                by_cases hc0 : c = 0
                · subst hc0
                  by_cases hxn : x = D.mods[k].name
                  · obtain rfl : t = ns := str_eq (HTX.out.trans hxn) HNS.out
                    by_cases h60 : 60 < N
                    · have hR4 : R = (4, (k : Int), 0) := HR4.out k hlt (firstN_hit hlt HBAD.out (by rw [HBM.out]; simp [h60]))
                      subst hR4
                      clear hxn
                      go_wp2
                      exact bodyPost_ret (v := wrongV (4, (k : Int), 0)) (by simp [results, Tryz.results46, go_sem, wrongV, *]) rfl ⟨rfl, (below_ret hWB hB4 _ _ _).alloc (by rw [sz3]; omega) _⟩
                    · have HIN : Hid (isN D.mods[k].name = true) := by unfold Hid; rw [HIS.out, hxn]; simp
                      clear hxn
                      go_wp2
                      obtain ⟨W3, hW3⟩ : ∃ W3, W3 = w1.alloc (Obj.cells #[Value.int IntKind.i64 0, Value.string t] 118) := ⟨_, rfl⟩
                      have hB5 : Below (w.heap.size + 2) W W3 := by rw [hW3]; exact hB4.alloc (by omega) _
                      have m0' : W3.cell? ⟨wr.heap.size, 0, none⟩ = some (.string t) := by rw [hW3, World.cell?_alloc_past _ _ _ hz0]; exact m0
                      have hz5 : wr.heap.size < W3.heap.size := by rw [hW3]; simp; omega
                      rw [← hW3]
                      clear hW3 p0 p1 p2 q0 q1 q2 f0 f1 f2 m0 m1 hz0 hz1 hz2
                      go_loopw [12] (fun i wr' => ∃ k' : Nat, k' ≤ k ∧ i = .int .i64 k' ∧ (∀ j (hj : j < D.mods.length), j < k' → D.mods[j].name ≠ D.mods[k].name) ∧ Below W3.heap.size W3 wr') (fun i _ => k - (intOf i).toNat)
                      case atStart => exact ⟨0, Nat.zero_le _, rfl, fun j _ h => absurd h (by omega), Below.refl _ _⟩
                      case round =>
                        obtain ⟨k', hk', rfl, hnn, hB6⟩ := hrel
                        have HNN : Hid (∀ j (hj : j < D.mods.length), j < k' → D.mods[j].name ≠ D.mods[k].name) := hnn
                        rename World => w6
                        have hB7 : Below (w.heap.size + 2) W w6 := hB5.trans (hB6.mono (by omega))
                        have m0 := below_cell0 hB6 hz5 m0'
                        obtain ⟨p0, p1, p2, q0, q1, q2, f0, f1, f2⟩ := hBx.below hB7 (Nat.le_refl _)
                        clear hnn
                        by_cases hlt' : k' < k
                        · have hlk : k' < D.mods.length := by omega
                          obtain ⟨b', o', s', hbo, hb', h0', _, _⟩ := HC2.out k' hlk
                          cases hbo
                          obtain ⟨ns', hns'⟩ : ∃ ns' : ByteArray, ns'.data.toList = D.mods[k'].name := ⟨⟨D.mods[k'].name.toArray⟩, by simp⟩
                          have hnv' : strV D.mods[k'].name = .string ns' := by rw [← hns', strV_data]
                          rw [hnv'] at h0'
                          have c0' := (hB7.cell (p := ⟨b, o + k' * 2, none⟩) (by simp only []; omega)).trans ((hWB.cell (p := ⟨b, o + k' * 2, none⟩) hb).trans h0')
                          clear h0' hnv'
                          by_cases hnm : D.mods[k'].name = D.mods[k].name
                          · obtain rfl : ns' = t := str_eq (hns'.trans hnm) HNS.out
                            have hR4 : R = (4, (k : Int), 0) := HR4.out k hlt (firstN_hit hlt HBAD.out (by
                              rw [HBM.out]
                              have : (D.mods.take k).any (fun m => decide (m.name = D.mods[k].name)) = true := by
                                rw [List.any_eq_true]
                                exact ⟨D.mods[k'], List.mem_take_iff_getElem.2 ⟨k', by omega, rfl⟩, by simpa using hnm⟩
                              rw [this]; simp))
                            subst hR4
                            clear hnm hns'
                            go_wp2
                            go_region
                            all_goals
                              go_wp2
                              exact bodyPost_ret (v := wrongV (4, (k : Int), 0)) (by simp [results, Tryz.results46, go_sem, wrongV, *]) rfl ⟨rfl, below_ret hWB hB7.drew _ _ _⟩
                          · have hne : (ns'.toList == t.toList) = false := by rw [str_beq hns' HNS.out]; simpa using hnm
                            have HNM : Hid (¬ D.mods[k'].name = D.mods[k].name) := hnm
                            clear hnm hns'
                            go_wp2
                            go_region
                            all_goals
                              go_wp2
                              go_roundw
                              case rel => exact ⟨k' + 1, by omega, by go_num, fun j hj hjk => by
                                by_cases hjk' : j = k'
                                · subst hjk'; exact HNM.out
                                · exact HNN.out j hj (by omega), hB6.drew⟩
                              case measure => simp [intOf]; omega
                        · have HBK : Hid (badMd D.mods k = false) := by
                            unfold Hid
                            rw [HBM.out, HIN.out]
                            have : (D.mods.take k).any (fun m => decide (m.name = D.mods[k].name)) = false := by
                              rw [List.any_eq_false]
                              intro m hm
                              obtain ⟨j, hj, rfl⟩ := List.mem_take_iff_getElem.1 hm
                              have := HNN.out j (by omega) (by omega)
                              simpa using this
                            rw [this]; simp; omega
                          go_wp2
                          go_roundw
                          case rel => exact ⟨k + 1, by omega, by go_num, fun j hjk => by
                            by_cases hjk' : j = k
                            · subst hjk'; exact HBK.out
                            · exact HBAD.out j (by omega), hB7⟩
                          case measure => simp [intOf]; omega
                  · have hR4 : R = (4, (k : Int), 0) := HR4.out k hlt (firstN_hit hlt HBAD.out (by rw [HBM.out, HIS.out]; simp [hxn]))
                    subst hR4
                    have hne : (t.toList == ns.toList) = false := by rw [str_beq HTX.out HNS.out]; simpa using hxn
                    clear hxn
                    go_wp2
                    exact bodyPost_ret (v := wrongV (4, (k : Int), 0)) (by simp [results, Tryz.results46, go_sem, wrongV, *]) rfl ⟨rfl, (below_ret hWB hB4 _ _ _).alloc (by rw [sz3]; omega) _⟩
                · have hR4 : R = (4, (k : Int), 0) := HR4.out k hlt (firstN_hit hlt HBAD.out (by rw [HBM.out, HIS.out]; simp [hc0]))
                  subst hR4
                  have hcb : (c == 0) = false := by simpa using hc0
                  go_wp2
                  exact bodyPost_ret (v := wrongV (4, (k : Int), 0)) (by simp [results, Tryz.results46, go_sem, wrongV, *]) rfl ⟨rfl, (below_ret hWB hB4 _ _ _).alloc (by rw [sz3]; omega) _⟩
              · have hmods : firstN (badMd D.mods) D.mods.length 0 = D.mods.length := firstN_none (fun j hj => HBAD.out j (by omega))
                have HR5 : Hid (∀ k, (hk : k < D.mods.length) → firstN (badLns D.mods) D.mods.length 0 = k → R = (5, (k : Int), ((firstN (badLn D.mods[k].lines) D.mods[k].lines.length 0 : Nat) : Int))) := fun k hk h => by rw [HR.out, wok_5 HBIG.out HROOT.out HASC'.out hmods hk h]
                have HR6 : Hid (firstN (badLns D.mods) D.mods.length 0 = D.mods.length → R = (0, 0, 0)) := fun h => by rw [HR.out, wok_0 HBIG.out HROOT.out HASC'.out hmods h]
                clear hmods HR4 HBAD
                obtain ⟨p0, p1, p2, q0, q1, q2, f0, f1, f2⟩ := hBx.below hB3 (Nat.le_refl _)
                go_wp2
                obtain ⟨W4, hW4⟩ : ∃ W4, W4 = wr := ⟨_, rfl⟩
                rw [← hW4] at hB3 p0 p1 p2 q0 q1 q2 f0 f1 f2 hBr3 ⊢
                clear hW4
                go_loopw [119] (fun i wr => ∃ k : Nat, k ≤ D.mods.length ∧ i = .int .i64 k ∧ (∀ j, j < k → badLns D.mods j = false) ∧ Below (w.heap.size + 2) W wr) (fun i _ => D.mods.length - (intOf i).toNat)
                case atStart => exact ⟨0, Nat.zero_le _, rfl, fun j h => absurd h (by omega), hB3⟩
                case round =>
                  obtain ⟨k, hk, rfl, hbad, hB8⟩ := hrel
                  have HBAD : Hid (∀ j, j < k → badLns D.mods j = false) := hbad
                  clear hbad hB3 p0 p1 p2 q0 q1 q2 f0 f1 f2
                  rename World => w8
                  have hBr8 : w.heap.size + 2 ≤ w8.heap.size := by have := hB8.size; omega
                  obtain ⟨p0, p1, p2, q0, q1, q2, f0, f1, f2⟩ := hBx.below hB8 (Nat.le_refl _)
                  by_cases hlt : k < D.mods.length
                  · obtain ⟨b, o, s, rfl, hb, h0, h1, h2⟩ := HC2.out k hlt
                    obtain ⟨hs1, hs2, hs3⟩ := Md.small (HM2.out _ (List.getElem_mem hlt))
                    obtain ⟨asl, cs, rfl⟩ := h2.slice
                    obtain ⟨N, hN⟩ : ∃ N, N = D.mods[k].lines.length := ⟨_, rfl⟩
                    obtain ⟨ns, hns⟩ : ∃ ns : ByteArray, ns.data.toList = D.mods[k].name := ⟨⟨D.mods[k].name.toArray⟩, by simp⟩
                    have hnv : strV D.mods[k].name = .string ns := by rw [← hns, strV_data]
                    rw [hnv] at h0
                    rw [← hN] at h1 hs2
                    have c0 := (hB8.cell (p := ⟨b, o + k * 2, none⟩) (by simp only []; omega)).trans ((hWB.cell (p := ⟨b, o + k * 2, none⟩) hb).trans h0)
                    have c1 := (hB8.cell (p := ⟨b, o + k * 2 + 1, none⟩) (by simp only []; omega)).trans ((hWB.cell (p := ⟨b, o + k * 2 + 1, none⟩) hb).trans h1)
                    have HLN : Hid (Lns w (.slice asl N cs) D.mods[k].lines ∧ N = D.mods[k].lines.length ∧ ∀ l ∈ D.mods[k].lines, l.name.length ≤ 1048576) := ⟨by rw [hN]; exact h2, hN, hs3⟩
                    have HNV : Hid (strV D.mods[k].name = .string ns) := hnv
                    clear h0 h1 h2 hs3 hs1 hns hnv hN
                    go_wp2
                    obtain ⟨W5, hW5⟩ : ∃ W5, W5 = w8.alloc (Obj.cells #[Value.string ns, Value.slice asl N cs] 49) := ⟨_, rfl⟩
                    have hB9 : Below (w.heap.size + 2) W W5 := by rw [hW5]; exact hB8.alloc (by omega) _
                    have m0' : W5.cell? ⟨w8.heap.size, 0, none⟩ = some (.string ns) := by rw [hW5]; simp [go_sem]
                    have m1' : W5.cell? ⟨w8.heap.size, 1, none⟩ = some (.slice asl N cs) := by rw [hW5]; simp [go_sem]
                    have hz9 : w8.heap.size < W5.heap.size := by rw [hW5]; simp
                    rw [← hW5]
                    clear hW5 p0 p1 p2 q0 q1 q2 f0 f1 f2 c0 c1
                    go_loopw [127] (fun i wr' => ∃ k' : Nat, k' ≤ N ∧ i = .int .i64 k' ∧ (∀ j, j < k' → badLn D.mods[k].lines j = false) ∧ Below W5.heap.size W5 wr') (fun i _ => N - (intOf i).toNat)
                    case atStart => exact ⟨0, Nat.zero_le _, rfl, fun j h => absurd h (by omega), Below.refl _ _⟩
                    case round =>
                      obtain ⟨k', hk', rfl, hnn, hB10⟩ := hrel
                      have HNN : Hid (∀ j, j < k' → badLn D.mods[k].lines j = false) := hnn
                      rename World => w10
                      have hB11 : Below (w.heap.size + 2) W w10 := hB9.trans (hB10.mono (by omega))
                      have m0 := below_cell0 hB10 hz9 m0'
                      have m1 := below_cell0 hB10 hz9 m1'
                      have hz11 : W5.heap.size ≤ w10.heap.size := hB10.size
                      have hz12 : w8.heap.size < w10.heap.size := by omega
                      have hz13 : w.heap.size + 1 < w10.heap.size := by omega
                      have hz14 : w.heap.size < w10.heap.size := by omega
                      obtain ⟨p0, p1, p2, q0, q1, q2, f0, f1, f2⟩ := hBx.below hB11 (Nat.le_refl _)
                      clear hnn
                      by_cases hlt' : k' < N
                      · have hlk : k' < D.mods[k].lines.length := by rw [← HLN.out.2.1]; exact hlt'
                        obtain ⟨al, capl, hsl, _, _, hcl⟩ := HLN.out.1.below (hWB.trans (hB11.mono (by omega))) (Nat.le_refl _)
                        obtain ⟨b', o', hbo, hb', l0, l1, l2, l3⟩ := hcl k' hlk
                        obtain rfl : al = asl := by injection hsl with h1 h2 h3; exact h1.symm
                        subst hbo
                        obtain ⟨ls, hls⟩ := strV_of D.mods[k].lines[k'].name
                        rw [hls] at l1
                        have hok := l2line_any D.mods[k].name (some ⟨b', o', none⟩) N cs k' D.mods[k].lines[k']
                        rw [mdV, HNV.out, lnV, hls] at hok
                        have hbl := badLn_at hlk
                        rw [← HLN.out.2.1] at hbl
                        have HBL : Hid (badLn D.mods[k].lines k' = !okLn N k' D.mods[k].lines[k']) := hbl
                        have HOK : Hid (∀ W, Calls Tryz.prog 63 #[.agg #[.string ns, .slice (some ⟨b', o', none⟩) N cs], .agg #[.int .i64 D.mods[k].lines[k'].op, .string ls, .int .i64 D.mods[k].lines[k'].num, .int .i64 D.mods[k].lines[k'].skip], .int .i64 k'] W fun e w' => e = .returned (.bool (okLn N k' D.mods[k].lines[k'])) ∧ Below W.heap.size W w') :=
                          fun W => hok W (by omega) (by omega) (HLN.out.2.2 _ (List.getElem_mem hlk))
                        clear hls hok hbl hcl hsl
                        go_wp2_with fail
                        refine (HOK.out _).mono ?_
                        obtain ⟨q, hq⟩ : ∃ q, q = okLn N k' D.mods[k].lines[k'] := ⟨_, rfl⟩
                        rw [← hq]
                        have HQ : Hid (q = okLn N k' D.mods[k].lines[k']) := hq
                        clear hq
                        rintro e w12 ⟨rfl, hb12⟩
                        have hz15 : w10.heap.size < w12.heap.size := by have := hb12.size; simp at this; omega
                        have hB12 : Below (w.heap.size + 2) W w12 := (hB11.alloc (by omega) _).trans (hb12.mono (by simp; omega))
                        have hB13 : Below W5.heap.size W5 w12 := (hB10.alloc (by omega) _).trans (hb12.mono (by simp; omega))
                        clear l0 l1 l2 l3 p0 p1 p2 q0 q1 q2 f0 f1 f2 m0 m1 hb12
                        obtain ⟨p0, p1, p2, q0, q1, q2, f0, f1, f2⟩ := hBx.below hB12 (Nat.le_refl _)
                        cases q with
                        | true =>
                          go_wp2
                          go_roundw
                          case rel => exact ⟨k' + 1, by omega, by go_num, fun j hjk => by
                            by_cases hjk' : j = k'
                            · subst hjk'; rw [HBL.out, ← HQ.out]; rfl
                            · exact HNN.out j (by omega), hB13⟩
                          case measure => simp [intOf]; omega
                        | false =>
                          have hlf : firstN (badLn D.mods[k].lines) D.mods[k].lines.length 0 = k' := firstN_hit hlk HNN.out (by rw [HBL.out, ← HQ.out]; rfl)
                          have hR5 : R = (5, (k : Int), (k' : Int)) := by
                            rw [HR5.out k hlt (firstN_hit hlt HBAD.out (by rw [badLns_at hlt, hlf]; simpa using hlk)), hlf]
                          subst hR5
                          clear hlf
                          go_wp2
                          exact bodyPost_ret (v := wrongV (5, (k : Int), (k' : Int))) (by simp [results, Tryz.results46, go_sem, wrongV, *]) rfl ⟨rfl, below_ret hWB hB12 _ _ _⟩
                      · have HBK : Hid (badLns D.mods k = false) := by
                          unfold Hid
                          rw [badLns_at hlt, firstN_none (fun j hj => HNN.out j (by have := HLN.out.2.1; omega))]; simp
                        go_wp2
                        go_roundw
                        case rel => exact ⟨k + 1, by omega, by go_num, fun j hjk => by
                          by_cases hjk' : j = k
                          · subst hjk'; exact HBK.out
                          · exact HBAD.out j (by omega), hB11⟩
                        case measure => simp [intOf]; omega
                  · have hR0 : R = (0, 0, 0) := HR6.out (firstN_none (fun j hj => HBAD.out j (by omega)))
                    subst hR0
                    go_wp2
                    exact bodyPost_ret (v := wrongV (0, 0, 0)) (by simp [results, Tryz.results46, go_sem, wrongV, *]) rfl ⟨rfl, below_ret hWB hB8 _ _ _⟩
end Go.Proofs.YtimgafblpmjajabGreat
