import Derived.Shelf.Strings.Builder1
import Derived.Shelf.Strings.Builder2
import Derived.Shelf.Strings.OnBuilder
import Derived.Shelf.LaysM
import Derived.Shelf.Strconv.Clone
import Derived.Shelf.Strings.Search1
import Derived.Shelf.Strings.Search2
import Derived.Test.YtimgafblpmjajaaGreatProg
import Derived.RangeFuncNested
import Derived.RangeFuncBound
import Derived.RangeFuncCalls
import Derived.RangeFuncLeaves
import Derived.RangeFuncBox
import Derived.Shelf.Abstract
import Derived.Shelf.RegionOpen
import Derived.WalkKit
import Derived.OwnWalkIn
import Derived.TacticsInMore
import Derived.LoopNIn
import Derived.LoopIn
import Derived.Test.YtimgafblpmjajaaGreatKb1
namespace Go.Proofs.YtimgafblpmjajaaGreat

open Go.RowKit
theorem row_form {w : World} {base : Nat} {e : TypeId} {size n : Nat} {v : Value} {xs : List Value} (h : w.ownsRow base e size v n xs) : ∃ a cap, v = .slice a n cap ∧ n ≤ cap ∧ (0 < n → ∃ g, a = some ⟨g, 0, none⟩) := by
  obtain ⟨_, ⟨rfl, hn0⟩ | ⟨g, cap, cur, rfl, hg, hh, hcap, _⟩⟩ := h
  · exact ⟨none, 0, by rw [hn0], by omega, fun h => by omega⟩
  · exact ⟨_, cap, rfl, hcap, fun _ => ⟨g, rfl⟩⟩
theorem row_cell {w : World} {base : Nat} {e : TypeId} {size n cap g : Nat} {xs : List Value} (h : w.ownsRow base e size (.slice (some ⟨g, 0, none⟩) n cap) n xs) (i : Nat) (hi : i < n * size) : ∃ u, w.cell? ⟨g, i, none⟩ = some u := by
  have := h.1
  rw [h.cellAt i (by omega)]; exact ⟨_, List.getElem?_eq_getElem (by omega)⟩

end Go.Proofs.YtimgafblpmjajaaGreat
namespace Go.Proofs.YtimgafblpmjajaaGreat

open Go.RowKit

/-- Only what lies from one block to another is turned. -/
structure Btw (lo hi : Nat) (w w' : World) : Prop where
  os : w'.os = w.os
  tape : w'.tape = w.tape
  output : w'.output = w.output
  size : w.heap.size ≤ w'.heap.size
  block : ∀ b, b < w.heap.size → b < lo ∨ hi ≤ b → w'.heap[b]? = w.heap[b]?
theorem Btw.refl (lo hi : Nat) (w : World) : Btw lo hi w w := ⟨rfl, rfl, rfl, Nat.le_refl _, fun _ _ _ => rfl⟩
theorem Btw.trans {lo hi : Nat} {w w1 w2 : World} (h : Btw lo hi w w1) (k : Btw lo hi w1 w2) : Btw lo hi w w2 :=
  ⟨k.os.trans h.os, k.tape.trans h.tape, k.output.trans h.output, Nat.le_trans h.size k.size, fun b hb hn => (k.block b (Nat.lt_of_lt_of_le hb h.size) hn).trans (h.block b hb hn)⟩
theorem Btw.of_below {lo hi : Nat} {w w1 : World} (h : Below w.heap.size w w1) : Btw lo hi w w1 := ⟨h.os, h.tape, h.output, h.size, fun b hb _ => h.block b hb⟩
theorem Btw.of_grown {lo hi : Nat} {w w1 : World} {row : Option Nat} (h : w.grownBy w1 row) (hr : ∀ b, row = some b → lo ≤ b ∧ b < hi) : Btw lo hi w w1 :=
  ⟨h.os, h.tape, h.output, h.size, fun b hb hn => h.block b hb (fun e => by have := hr b e.symm; omega)⟩
theorem Btw.below {lo hi : Nat} {w w1 : World} (h : Btw lo hi w w1) (hlo : lo ≤ w.heap.size) : Below lo w w1 :=
  ⟨h.os, h.tape, h.output, h.size, fun b hb => h.block b (by omega) (.inl hb)⟩
theorem Btw.own {lo hi base n size : Nat} {w w1 : World} {e : TypeId} {v : Value} {xs : List Value} (h : Btw lo hi w w1) (ho : w.ownsRow base e size v n xs) (hb : hi ≤ base) : w1.ownsRow base e size v n xs :=
  own_block ho (fun b hv => h.block b (ho.lt b hv).2 (.inr (Nat.le_trans hb (ho.lt b hv).1)))
theorem Btw.own_old {lo hi base n size : Nat} {w w1 : World} {e : TypeId} {v : Value} {xs : List Value} (h : Btw lo hi w w1) (ho : w.ownsRow base e size v n xs) (hb : ∀ b, v.ownBlock = some b → b < lo) : w1.ownsRow base e size v n xs :=
  own_block ho (fun b hv => h.block b (ho.lt b hv).2 (.inl (hb b hv)))

theorem own_twin {w w' : World} {lo lo' : Nat} {e : TypeId} {size n n' : Nat} {v v' : Value} {xs ys xs' : List Value} (h : w.ownsRow lo e size v n xs) (h1 : w'.ownsRow lo e size v n ys) (h' : w.ownsRow lo' e size v' n' xs') (hg : w.grownBy w' v.ownBlock) : ∃ zs, w'.ownsRow lo' e size v' n' zs := by
  obtain ⟨k1, h2 | ⟨g, cap, cur, rfl, hlo, hh, hc, hm, hs, ht⟩⟩ := h'
  · exact ⟨xs', k1, .inl h2⟩
  · by_cases hv : v.ownBlock = some g
    · obtain ⟨j1, j2 | ⟨ga, capa, cura, rfl, _, hha, _, _, hsa, _⟩⟩ := h
      · rw [j2.1] at hv; cases hv
      · simp [Value.ownBlock] at hv
        subst hv
        obtain ⟨i1, i2 | ⟨gb, capb, curb, hvb, _, hhb, _, _, hsb, _⟩⟩ := h1
        · cases i2.1
        · cases hvb
          rw [hh] at hha
          have hcc : cur = cura := by simpa using hha
          subst hcc
          refine ⟨curb.toList.take (n' * size), ?_, .inr ⟨ga, cap, curb, rfl, hlo, hhb, hc, hm, by omega, rfl⟩⟩
          rw [List.length_take, Array.length_toList, hsb, ← hsa, hs]
          exact Nat.min_eq_left (Nat.mul_le_mul_right _ hc)
    · exact ⟨xs', k1, .inr ⟨g, cap, cur, rfl, hlo, by rw [hg.block g (Array.getElem?_eq_some_iff.1 hh).1 (fun e => hv (by rw [e]))]; exact hh, hc, hm, hs, ht⟩⟩

theorem rows_apart' {w : World} {b1 b2 : Nat} {e1 e2 : TypeId} {s1 s2 n1 n2 : Nat} {v1 v2 : Value} {x1 x2 : List Value} (he : e1 ≠ e2) (h1 : w.ownsRow b1 e1 s1 v1 n1 x1) (h2 : w.ownsRow b2 e2 s2 v2 n2 x2) : ∀ b, v2.ownBlock = some b → v1.ownBlock ≠ some b := by
  intro b hb hb1
  obtain ⟨_, j2 | ⟨g, cap, cur, rfl, _, hg, _⟩⟩ := h2
  · rw [j2.1] at hb; cases hb
  · obtain ⟨_, i2 | ⟨g', cap', cur', rfl, _, hg', _⟩⟩ := h1
    · rw [i2.1] at hb1; cases hb1
    · simp [Value.ownBlock] at hb hb1
      subst hb hb1
      rw [hg] at hg'
      simp at hg'
      exact he hg'.2.symm

/-- Blocks of other types than a module's and a line's stand. -/
def Kt (w w' : World) : Prop := ∀ (b : Nat) (cs : Array Value) (t : TypeId) (fr : Nat × Nat), w.heap[b]? = some (.cells cs t fr) → t ≠ 39 → t ≠ 56 → w'.heap[b]? = w.heap[b]?
theorem Kt.refl (w : World) : Kt w w := fun _ _ _ _ _ _ _ => rfl
theorem Kt.trans {w w1 w2 : World} (h : Kt w w1) (k : Kt w1 w2) : Kt w w2 := fun b cs t fr hb h1 h2 => (k b cs t fr ((h b cs t fr hb h1 h2).trans hb) h1 h2).trans (h b cs t fr hb h1 h2)
theorem Kt.of_below {w w1 : World} (h : Below w.heap.size w w1) : Kt w w1 := fun b _ _ _ hb _ _ => h.block b (Array.getElem?_eq_some_iff.1 hb).1
theorem Kt.of_grown {w w1 : World} {lo : Nat} {e : TypeId} {size n : Nat} {v : Value} {xs : List Value} (h : w.grownBy w1 v.ownBlock) (hr : w.ownsRow lo e size v n xs) (he : e = 39 ∨ e = 56) : Kt w w1 := fun b cs t fr hb h1 h2 =>
  h.block b (Array.getElem?_eq_some_iff.1 hb).1 (fun ev => by
    obtain ⟨_, j2 | ⟨g, cap, cur, rfl, _, hg, _⟩⟩ := hr
    · rw [j2.1] at ev; cases ev
    · simp [Value.ownBlock] at ev
      subst ev
      rw [hb] at hg
      have : t = e := by simp at hg; exact hg.2.1
      rcases he with he | he
      · exact h1 (this.trans he)
      · exact h2 (this.trans he))
theorem Kt.own {w w1 : World} {lo : Nat} {e : TypeId} {size n : Nat} {v : Value} {xs : List Value} (h : Kt w w1) (hr : w.ownsRow lo e size v n xs) (h1 : e ≠ 39) (h2 : e ≠ 56) : w1.ownsRow lo e size v n xs := by
  obtain ⟨k, j2 | ⟨g, cap, cur, hv, hlo, hg, r⟩⟩ := hr
  · exact ⟨k, .inl j2⟩
  · exact ⟨k, .inr ⟨g, cap, cur, hv, hlo, (h g _ _ _ hg h1 h2).trans hg, r⟩⟩
theorem Mrow.grown {lo b : Nat} {w w' : World} {v u : Value} {M : List Md} {X : List Value} {e : TypeId} {size n : Nat} {xs : List Value} (h : Mrow lo w v M X) (hr : w.ownsRow b e size u n xs) (h1 : e ≠ 39) (h2 : e ≠ 56) (hg : w.grownBy w' u.ownBlock) : Mrow lo w' v M X :=
  ⟨own_block h.1 (fun b hb => hg.block b (h.1.lt b hb).2 (rows_apart' h1 hr h.1 b hb).symm), fun j hj => by
    obtain ⟨ls, k1, k2, k3⟩ := h.2 j hj
    exact ⟨ls, k1, k2, own_block k3 (fun b hb => hg.block b (k3.lt b hb).2 (rows_apart' h2 hr k3 b hb).symm)⟩⟩

def lineN (M : List Md) : Nat := (M.map (fun m => m.lines.length)).sum
theorem lineN_take (M : List Md) (j : Nat) (hj : j < M.length) : lineN (M.take (j + 1)) = lineN (M.take j) + M[j].lines.length := by
  unfold lineN; rw [List.take_succ_eq_append_getElem hj, List.map_append, List.sum_append]; simp
theorem lineN_le (M : List Md) : M.length + lineN M ≤ mdsT M := by
  unfold lineN mdsT
  have : ∀ L : List Md, (L.map (fun m => m.lines.length)).sum ≤ (L.map Md.t).sum := fun L => by
    induction L with
    | nil => simp
    | cons x r ih => simp only [List.map_cons, List.sum_cons]; have : x.lines.length ≤ x.t := by unfold Md.t lnsT; omega
                     omega
  have := this M; omega
theorem lineN_mono (M : List Md) (j : Nat) : lineN (M.take j) ≤ lineN M := by
  have h : lineN M = lineN (M.take j) + lineN (M.drop j) := by unfold lineN; rw [← List.sum_append, ← List.map_append, List.take_append_drop]
  omega

end Go.Proofs.YtimgafblpmjajaaGreat
namespace Go.Proofs.YtimgafblpmjajaaGreat

open Go.RowKit

/-- An edge as plain data. -/
structure Eg where
  src : Int
  line : Int
  to : Int
def egV (e : Eg) : Value := .agg #[.int .i64 e.src, .int .i64 e.line, .int .i64 e.to]
def egR (e : Eg) : List Value := [.int .i64 e.src, .int .i64 e.line, .int .i64 e.to]
theorem egR_len (L : List Eg) : (L.flatMap egR).length = L.length * 3 := by
  induction L with
  | nil => rfl
  | cons x r ih => simp only [List.flatMap_cons, List.length_append, ih, egR, List.length_cons, List.length_nil]; omega
theorem egR_get : ∀ (L : List Eg) (k : Nat) (h : k < L.length), (L.flatMap egR)[k * 3]? = some (.int .i64 L[k].src) ∧ (L.flatMap egR)[k * 3 + 1]? = some (.int .i64 L[k].line) ∧ (L.flatMap egR)[k * 3 + 2]? = some (.int .i64 L[k].to)
  | [], _, h => absurd h (by simp)
  | x :: r, 0, _ => by simp [egR]
  | x :: r, k + 1, h => by
    have h' : k < r.length := by simpa using h
    obtain ⟨i0, i1, i2⟩ := egR_get r k h'
    have e : ∀ j, ((x :: r).flatMap egR)[j + 3]? = (r.flatMap egR)[j]? := fun j => by
      rw [List.flatMap_cons, List.getElem?_append_right (by simp [egR])]; simp [egR]
    have e0 : (k + 1) * 3 = k * 3 + 3 := by omega
    have e1 : (k + 1) * 3 + 1 = (k * 3 + 1) + 3 := by omega
    have e2 : (k + 1) * 3 + 2 = (k * 3 + 2) + 3 := by omega
    rw [e1, e2, e0, e, e, e]
    simp only [List.getElem_cons_succ]
    exact ⟨i0, i1, i2⟩
/-- A slice of edges that can be read. -/
def Egs (w : World) (v : Value) (L : List Eg) : Prop :=
  ∃ a cap, v = .slice a L.length cap ∧ L.length ≤ cap ∧ cap ≤ maxLen ∧ ∀ k, (hk : k < L.length) → ∃ b o, a = some ⟨b, o, none⟩ ∧ b < w.heap.size ∧
    w.cell? ⟨b, o + k * 3, none⟩ = some (.int .i64 L[k].src) ∧ w.cell? ⟨b, o + k * 3 + 1, none⟩ = some (.int .i64 L[k].line) ∧ w.cell? ⟨b, o + k * 3 + 2, none⟩ = some (.int .i64 L[k].to)
theorem Egs.below {w w' : World} {B : Nat} {v : Value} {L : List Eg} (h : Egs w v L) (hb : Below B w w') (hB : w.heap.size ≤ B) : Egs w' v L := by
  obtain ⟨a, cap, hv, hcap, hmax, hc⟩ := h
  exact ⟨a, cap, hv, hcap, hmax, fun k hk => by
    obtain ⟨b, o, ha, hlt, h0, h1, h2⟩ := hc k hk
    have hl := Nat.lt_of_lt_of_le hlt hB
    exact ⟨b, o, ha, Nat.lt_of_lt_of_le hlt hb.size, (hb.cell (p := ⟨b, o + k * 3, none⟩) hl).trans h0, (hb.cell (p := ⟨b, o + k * 3 + 1, none⟩) hl).trans h1, (hb.cell (p := ⟨b, o + k * 3 + 2, none⟩) hl).trans h2⟩⟩
theorem egs_own {w : World} {base : Nat} {v : Value} {L : List Eg} (h : w.ownsRow base 33 3 v L.length (L.flatMap egR)) : Egs w v L := by
  have hca := fun (g cap : Nat) (hv : v = .slice (some ⟨g, 0, none⟩) L.length cap) => (hv ▸ h : w.ownsRow base 33 3 (.slice (some ⟨g, 0, none⟩) L.length cap) L.length (L.flatMap egR)).cellAt
  rcases h.2 with ⟨hv, hn⟩ | ⟨g, cap, cur, hv, hg, hh, hc, hm, _⟩
  · exact ⟨none, 0, by rw [hv, hn], by omega, by unfold maxLen; omega, fun k hk => by omega⟩
  · have hca := hca g cap hv
    refine ⟨_, cap, hv, hc, hm, fun k hk => ?_⟩
    obtain ⟨i0, i1, i2⟩ := egR_get L k hk
    exact ⟨g, 0, rfl, (Array.getElem?_eq_some_iff.1 hh).1, by rw [Nat.zero_add, hca _ (by omega)]; exact i0, by rw [Nat.zero_add, hca _ (by omega)]; exact i1, by rw [Nat.zero_add, hca _ (by omega)]; exact i2⟩

/-- The marks of n edges, from 1 on. -/
def egM (j : Nat) : Eg := ⟨(1 + 3 * j : Nat), (1 + 3 * j + 1 : Nat), (1 + 3 * j + 2 : Nat)⟩
def egMs (n : Nat) : List Eg := (List.range n).map egM
theorem egMs_len (n : Nat) : (egMs n).length = n := by simp [egMs]
theorem egMs_get (n j : Nat) (h : j < (egMs n).length) : (egMs n)[j] = egM j := by simp [egMs]

end Go.Proofs.YtimgafblpmjajaaGreat
namespace Go.Proofs
open Go.Shelf
def Tryz.lays156_ren : Go.Shelf.Ren := ⟨fun | 156 => 80 | 165 => 85 | 166 => 86 | 169 => 87 | 240 => 92 | 241 => 93 | 276 => 96 | 277 => 97 | n => n, fun | 31 => 23 | 9 => 9 | 3 => 3 | 4 => 4 | 0 => 0 | 20 => 20 | 72 => 165 | 76 => 168 | 70 => 163 | 37 => 22 | 75 => 167 | 127 => 153 | 164 => 174 | 5 => 5 | 80 => 72 | n => n, fun | n => n⟩
theorem Tryz.lays156 : Go.Proofs.Lays.n156 Tryz.prog Tryz.lays156_ren := {
  mixed := by kernel_rfl
  f156 := Tryz.func80.trans (congrArg some (by kernel_rfl))
  f165 := Tryz.func85.trans (congrArg some (by kernel_rfl))
  f166 := Tryz.func86.trans (congrArg some (by kernel_rfl))
  f169 := Tryz.func87.trans (congrArg some (by kernel_rfl))
  f240 := Tryz.func92.trans (congrArg some (by kernel_rfl))
  f241 := Tryz.func93.trans (congrArg some (by kernel_rfl))
  f276 := Tryz.func96.trans (congrArg some (by kernel_rfl))
  f277 := Tryz.func97.trans (congrArg some (by kernel_rfl))
  t0 := Tryz.underlying0
  a0 := Tryz.isAgg0
  z0 := Tryz.sizeOf0
  v0 := Tryz.zeroValue0
  t3 := Tryz.underlying3
  a3 := Tryz.isAgg3
  z3 := Tryz.sizeOf3
  v3 := Tryz.zeroValue3
  t4 := Tryz.underlying4
  a4 := Tryz.isAgg4
  z4 := Tryz.sizeOf4
  v4 := Tryz.zeroValue4
  t9 := Tryz.underlying9
  a9 := Tryz.isAgg9
  z9 := Tryz.sizeOf9
  v9 := Tryz.zeroValue9
  t20 := Tryz.underlying20
  a20 := Tryz.isAgg20
  z20 := Tryz.sizeOf20
  v20 := Tryz.zeroValue20
  t31 := Tryz.underlying23
  a31 := Tryz.isAgg23
  z31 := Tryz.sizeOf23
  v31 := Tryz.zeroValue23
  t37 := Tryz.underlying22
  a37 := Tryz.isAgg22
  z37 := Tryz.sizeOf22
  v37 := Tryz.zeroValue22
  t70 := Tryz.underlying163
  a70 := Tryz.isAgg163
  z70 := Tryz.sizeOf163
  v70 := Tryz.zeroValue163
  t72 := Tryz.underlying165
  a72 := Tryz.isAgg165
  z72 := Tryz.sizeOf165
  v72 := Tryz.zeroValue165
  t75 := Tryz.underlying167
  a75 := Tryz.isAgg167
  z75 := Tryz.sizeOf167
  v75 := Tryz.zeroValue167
  t76 := Tryz.underlying168
  a76 := Tryz.isAgg168
  z76 := Tryz.sizeOf168
  v76 := Tryz.zeroValue168
  t127 := Tryz.underlying153
  a127 := Tryz.isAgg153
  z127 := Tryz.sizeOf153
  v127 := Tryz.zeroValue153
  t164 := Tryz.underlying174
  a164 := Tryz.isAgg174
  z164 := Tryz.sizeOf174
  v164 := Tryz.zeroValue174 }
theorem Tryz.Builder_Extra_156 : Builder.Extra Tryz.prog Tryz.lays156_ren := {
  sizeBuilder := by kernel_rfl
  liesBuilder := by kernel_rfl
  t5 := Tryz.underlying5
  a5 := Tryz.isAgg5
  z5 := Tryz.sizeOf5
  v5 := Tryz.zeroValue5
  infoByte := by kernel_rfl
  cellsByte := by kernel_rfl
  sizeByte := by kernel_rfl
  neB5 := by decide }
open Go.RowKit in
theorem Tryz.strings_Join_none (a : Option Addr) (c : Nat) (sep : ByteArray) (w : World) :
    Calls Tryz.prog 80 #[.slice a 0 c, .string sep] w fun e w' => e = .returned (.string ⟨#[]⟩) ∧ w' = w := Any.strings_Join_none Tryz.lays156 Tryz.Builder_Extra_156 a c sep w
open Go.RowKit in
theorem Tryz.strings_Join (bk o c : Nat) (xs : List ByteArray) (sep : ByteArray) (w : World) (hcells : ∀ (j : Nat) x, xs[j]? = some x → w.cell? ⟨bk, o + j, none⟩ = some (.string x)) (hbk : bk < w.heap.size) (hN : xs.length ≤ 140737488355328) (hcap : xs.length ≤ c) (hlen : (Lib.join (xs.map (·.data.toList)) sep.data.toList).length ≤ 140737488355328) :
    Calls Tryz.prog 80 #[.slice (some ⟨bk, o, none⟩) xs.length c, .string sep] w fun e w' => e = .returned (.string ⟨(Lib.join (xs.map (·.data.toList)) sep.data.toList).toArray⟩) ∧ Below w.heap.size w w' := Any.strings_Join Tryz.lays156 Tryz.Builder_Extra_156 bk o c xs sep w hcells hbk hN hcap hlen
def Tryz.laysM316_ren : Go.Shelf.Ren := ⟨fun | 316 => 57 | n => n, fun | 9 => 9 | 3 => 3 | 4 => 4 | 37 => 22 | 0 => 0 | 127 => 153 | 5 => 5 | n => n, fun | n => n⟩
theorem Tryz.laysM316 : Go.Proofs.LaysM.n316 Tryz.prog Tryz.laysM316_ren := {
  mixed := by kernel_rfl
  f316 := Tryz.func57.trans (congrArg some (by kernel_rfl))
  t0 := Tryz.underlying0
  a0 := Tryz.isAgg0
  z0 := Tryz.sizeOf0
  v0 := Tryz.zeroValue0
  t3 := Tryz.underlying3
  a3 := Tryz.isAgg3
  z3 := Tryz.sizeOf3
  v3 := Tryz.zeroValue3
  t4 := Tryz.underlying4
  a4 := Tryz.isAgg4
  z4 := Tryz.sizeOf4
  v4 := Tryz.zeroValue4
  t9 := Tryz.underlying9
  a9 := Tryz.isAgg9
  z9 := Tryz.sizeOf9
  v9 := Tryz.zeroValue9
  t37 := Tryz.underlying22
  a37 := Tryz.isAgg22
  z37 := Tryz.sizeOf22
  v37 := Tryz.zeroValue22
  t127 := Tryz.underlying153
  a127 := Tryz.isAgg153
  z127 := Tryz.sizeOf153
  v127 := Tryz.zeroValue153
  t5 := Tryz.underlying5
  a5 := Tryz.isAgg5
  z5 := Tryz.sizeOf5
  v5 := Tryz.zeroValue5
  i0 := by kernel_rfl
  i3 := by kernel_rfl
  i4 := by kernel_rfl
  i5 := by kernel_rfl
  i9 := by kernel_rfl
  i37 := by kernel_rfl
  i127 := by kernel_rfl }
open Go.RowKit in
theorem Tryz.stringslite_Clone (s : ByteArray) (w : World) (hlim : s.size ≤ 281474976710656) :
    Calls Tryz.prog 57 #[.string s] w fun e w' => e = .returned (.string s) ∧ Below w.heap.size w w' := Any.stringslite_Clone Tryz.laysM316 s w hlim
def Tryz.lays219_ren : Go.Shelf.Ren := ⟨fun | 219 => 83 | 217 => 88 | 225 => 89 | 224 => 90 | 267 => 91 | 266 => 94 | 314 => 95 | n => n, fun | 9 => 9 | 3 => 3 | 4 => 4 | 5 => 5 | 46 => 138 | 146 => 172 | 51 => 171 | n => n, fun | 1 => 0 | n => n⟩
theorem Tryz.lays219 : Go.Proofs.Lays.n219 Tryz.prog Tryz.lays219_ren := {
  mixed := by kernel_rfl
  f217 := Tryz.func88.trans (congrArg some (by kernel_rfl))
  f219 := Tryz.func83.trans (congrArg some (by kernel_rfl))
  f224 := Tryz.func90.trans (congrArg some (by kernel_rfl))
  f225 := Tryz.func89.trans (congrArg some (by kernel_rfl))
  f266 := Tryz.func94.trans (congrArg some (by kernel_rfl))
  f267 := Tryz.func91.trans (congrArg some (by kernel_rfl))
  f314 := Tryz.func95.trans (congrArg some (by kernel_rfl))
  t3 := Tryz.underlying3
  a3 := Tryz.isAgg3
  z3 := Tryz.sizeOf3
  v3 := Tryz.zeroValue3
  t4 := Tryz.underlying4
  a4 := Tryz.isAgg4
  z4 := Tryz.sizeOf4
  v4 := Tryz.zeroValue4
  t5 := Tryz.underlying5
  a5 := Tryz.isAgg5
  z5 := Tryz.sizeOf5
  v5 := Tryz.zeroValue5
  t9 := Tryz.underlying9
  a9 := Tryz.isAgg9
  z9 := Tryz.sizeOf9
  v9 := Tryz.zeroValue9
  t46 := Tryz.underlying138
  a46 := Tryz.isAgg138
  z46 := Tryz.sizeOf138
  v46 := Tryz.zeroValue138
  t51 := Tryz.underlying171
  a51 := Tryz.isAgg171
  z51 := Tryz.sizeOf171
  v51 := Tryz.zeroValue171
  t146 := Tryz.underlying172
  a146 := Tryz.isAgg172
  z146 := Tryz.sizeOf172
  v146 := Tryz.zeroValue172
  g1 := by kernel_rfl }
open Go.RowKit Go.Lib in
theorem Tryz.stringslite_Index_one (s : ByteArray) (c : UInt8) (w : World) :
    Calls Tryz.prog 83 #[.string s, .string ⟨#[c]⟩] w fun e w' => e = .returned (.int .i64 (Lib.indexByte s.data.toList c)) ∧ w' = w := Any.stringslite_Index_one Tryz.lays219 s c w
end Go.Proofs
namespace Go.Proofs.YtimgafblpmjajaaGreat

open Go.RowKit

/-- The first slash, if there is one. -/
theorem index47 (l : List UInt8) : (Lib.indexByte l 47 = -1 ∧ ∀ cur, Pl.splitTo cur l = [cur ++ l]) ∨
    ∃ i : Nat, Lib.indexByte l 47 = (i : Int) ∧ i < l.length ∧ ∀ cur, Pl.splitTo cur l = (cur ++ l.take i) :: Pl.split (l.drop (i + 1)) := by
  induction l with
  | nil => left; exact ⟨rfl, fun cur => by simp [Pl.splitTo]⟩
  | cons c r ih =>
    by_cases hc : c = 47
    · right
      refine ⟨0, ?_, by simp, fun cur => ?_⟩
      · simp [Lib.indexByte, hc]
      · simp [Pl.splitTo, hc, Pl.split]
    · have hc' : (c == 47) = false := by simpa using hc
      rcases ih with ⟨h1, h2⟩ | ⟨i, h1, h2, h3⟩
      · left
        refine ⟨?_, fun cur => ?_⟩
        · simp [Lib.indexByte, hc', h1]
        · simp only [Pl.splitTo, hc, if_false]; rw [h2]; simp
      · right
        refine ⟨i + 1, ?_, by simpa using h2, fun cur => ?_⟩
        · have hne : ((i : Int) == -1) = false := by rw [beq_eq_false_iff_ne]; omega
          simp only [Lib.indexByte, hc', h1, hne]; simp
        · simp only [Pl.splitTo, hc, if_false]; rw [h3]; simp

set_option maxHeartbeats 1000000 in
set_option maxRecDepth 100000 in
theorem cut0_miss (s : ByteArray) (w : World) (h : Lib.indexByte s.data.toList 47 = -1) :
    Calls Tryz.prog 76 #[.string s, .string ⟨#[47]⟩] w fun e w' => e = .returned (.tuple #[.string s, .string ⟨#[]⟩, .bool false]) ∧ w' = w := by
  go_enter Tryz.func76, Tryz.ntmps76
  go_wp2_with (go_at_call 83; refine (Tryz.stringslite_Index_one _ _ _).mono ?_; rintro e w' ⟨rfl, rfl⟩; rw [h])
  go_ret3
  exact ⟨rfl, rfl⟩

set_option maxHeartbeats 1000000 in
set_option maxRecDepth 100000 in
theorem cut_miss (s : ByteArray) (w : World) (h : Lib.indexByte s.data.toList 47 = -1) :
    Calls Tryz.prog 65 #[.string s, .string ⟨#[47]⟩] w fun e w' => e = .returned (.tuple #[.string s, .string ⟨#[]⟩, .bool false]) ∧ w' = w := by
  go_enter Tryz.func65, Tryz.ntmps65
  go_wp2_with (go_at_call 76; refine (cut0_miss _ _ h).mono ?_; rintro e w' ⟨rfl, rfl⟩)
  go_ret3
  exact ⟨rfl, rfl⟩

set_option maxHeartbeats 1000000 in
set_option maxRecDepth 100000 in
theorem cut0_hit (s : ByteArray) (i : Nat) (w : World) (h : Lib.indexByte s.data.toList 47 = (i : Int)) (hi : i < s.size) (hs : s.size ≤ 1048576) :
    Calls Tryz.prog 76 #[.string s, .string ⟨#[47]⟩] w fun e w' => e = .returned (.tuple #[.string (s.extract 0 i), .string (s.extract (i + 1) s.size), .bool true]) ∧ w' = w.drew := by
  have c1 : (0 : Int) ≤ ↑i := by omega
  have c2 : (↑i : Int) ≤ ↑s.size := by omega
  have c3 : (0 : Int) ≤ ↑i + 1 := by omega
  have c4 : (↑i + 1 : Int) ≤ ↑s.size := by omega
  go_enter Tryz.func76, Tryz.ntmps76
  go_wp2_with (go_at_call 83; refine (Tryz.stringslite_Index_one _ _ _).mono ?_; rintro e w' ⟨rfl, rfl⟩; rw [h])
  go_region
  all_goals go_wp2
  all_goals go_ret3
  all_goals exact ⟨rfl, rfl⟩

set_option maxHeartbeats 1000000 in
set_option maxRecDepth 100000 in
theorem cut_hit (s : ByteArray) (i : Nat) (w : World) (h : Lib.indexByte s.data.toList 47 = (i : Int)) (hi : i < s.size) (hs : s.size ≤ 1048576) :
    Calls Tryz.prog 65 #[.string s, .string ⟨#[47]⟩] w fun e w' => e = .returned (.tuple #[.string (s.extract 0 i), .string (s.extract (i + 1) s.size), .bool true]) ∧ w' = w.drew := by
  go_enter Tryz.func65, Tryz.ntmps65
  go_wp2_with (go_at_call 76; refine (cut0_hit _ _ _ h hi hs).mono ?_; rintro e w' ⟨rfl, rfl⟩)
  go_ret3
  exact ⟨rfl, rfl⟩

end Go.Proofs.YtimgafblpmjajaaGreat
namespace Go.Proofs.YtimgafblpmjajaaGreat

open Go.RowKit Go.Shelf

attribute [local go_sem] Oper.semAt_some

abbrev Part := { x : List UInt8 // x.length ≤ 60 }
def vals (l : List Part) : List (List UInt8) := l.map (·.1)
theorem vals_snoc (l : List Part) (x : Part) : vals (l ++ [x]) = vals l ++ [x.1] := by simp [vals]
theorem vals_length (l : List Part) : (vals l).length = l.length := by simp [vals]

/-- For the loop's measure. -/
def leftM : Value → Value → Nat
  | .string r, .bool true => r.size + 1
  | _, _ => 0
theorem leftM_go (r : ByteArray) : leftM (.string r) (.bool true) = r.size + 1 := rfl
theorem leftM_end (v : Value) : leftM v (.bool false) = 0 := by cases v <;> rfl

theorem grown_drew (w : World) (row : Option Nat) : w.grownBy w.drew row := ⟨rfl, rfl, rfl, Nat.le_refl _, fun _ _ _ => rfl⟩

set_option maxRecDepth 100000 in
set_option maxHeartbeats 1000000 in
theorem parts1_in (n : Nat) (hn : 1 ≤ n) (l Bn : Nat) (s : ByteArray) (hs : s.size ≤ 60) (J Jx : List Part → World → Prop) (W : World)
    (hJ : AbidesFrom W.heap.size J)
    (hY : ∀ pre (x : Part) W1, J pre W1 → pre.length < (Pl.split s.data.toList).length → YieldAt Fence.wide (n - 1) Tryz.prog l #[strV x.1] W1 fun e W' =>
      (e = .returned (.bool true) ∧ J (pre ++ [x]) W' ∧ True) ∨ (e = .returned (.bool false) ∧ Jx (pre ++ [x]) W'))
    (hBn : W.cell? ⟨Bn, 0, none⟩ = some (.string s)) (h0 : J [] W) :
    CallsIn Fence.wide n Tryz.prog 78 #[.func (.yield l) #[] #[], .pointer (some ⟨Bn, 0, none⟩)] W fun e W' => (∃ v, e = .returned v) ∧
      ((∃ ys, vals ys = Pl.split s.data.toList ∧ J ys W') ∨ (∃ pre, vals pre <+: Pl.split s.data.toList ∧ Jx pre W')) := by
  have hJd : ∀ pre X, J pre X → J pre X.drew := fun pre X h => hJ pre X X.drew none h (grown_drew X none) (fun r e => by cases e)
  have HJd : Hid (∀ pre X, J pre X → J pre X.drew) := hJd
  have HY := hY
  have HY' : Hid (∀ pre (x : Part) W1, J pre W1 → pre.length < (Pl.split s.data.toList).length → YieldAt Fence.wide (n - 1) Tryz.prog l #[strV x.1] W1 fun e W' =>
      (e = .returned (.bool true) ∧ J (pre ++ [x]) W' ∧ True) ∨ (e = .returned (.bool false) ∧ Jx (pre ++ [x]) W')) := HY
  clear HY hY hJd hJ
  refine callsIn_of_wp Tryz.func78 rfl trivial ?_ rfl
  simp only [Tryz.ntmps78, List.size_toArray, List.length_cons, List.length_nil, Nat.reduceAdd, Nat.reduceSub, Array.replicate_succ, Array.replicate_zero, List.push_toArray, List.append_toArray, List.nil_append, List.cons_append]
  gi_wp2
  gi_loopw [3, 4] (fun rv mv wr => ∃ (pre : List Part) (r : ByteArray) (b : Bool), rv = .string r ∧ mv = .bool b ∧ r.size ≤ 60 ∧ J pre wr ∧ ((b = true ∧ Pl.split s.data.toList = vals pre ++ Pl.split r.data.toList) ∨ (b = false ∧ vals pre = Pl.split s.data.toList)))
    (fun rv mv _ => leftM rv mv)
  case atStart => exact ⟨[], s, true, rfl, rfl, hs, h0, .inl ⟨rfl, rfl⟩⟩
  case round =>
    obtain ⟨pre, r, b, rfl, rfl, hr, hJs, hb⟩ := hrel
    cases b with
    | false =>
      obtain ⟨h, _⟩ | ⟨_, hp⟩ := hb
      · cases h
      · have HP : Hid (vals pre = Pl.split s.data.toList) := hp
        clear hp
        gi_wp2
        go_end0
        exact ⟨⟨_, rfl⟩, .inl ⟨pre, HP.out, hJs⟩⟩
    | true =>
      have hp : Pl.split s.data.toList = vals pre ++ Pl.split r.data.toList := by rcases hb with ⟨_, h⟩ | ⟨h, _⟩; exact h; cases h
      clear hb
      rcases index47 r.data.toList with ⟨hix, hsp⟩ | ⟨i, hix, hil, hsp⟩
      · have hs1 : Pl.split r.data.toList = [r.data.toList] := by have := hsp []; simpa [Pl.split] using this
        obtain ⟨x, hx⟩ : ∃ x : Part, x.1 = r.data.toList := ⟨⟨r.data.toList, by rw [← size_data]; exact hr⟩, rfl⟩
        have HE : Hid (vals (pre ++ [x]) = Pl.split s.data.toList) := by unfold Hid; rw [vals_snoc, hx, hp, hs1]
        obtain ⟨fn, tmps, assign, body, hy, hR⟩ := HY'.out pre x wr hJs (by rw [hp, hs1]; simp [vals_length])
        rw [hx, strV_data] at hy
        clear hp hs1 hsp hx
        gi_wp2_with (refine ⟨trivial, ?_⟩; gi_at_call 65; refine (callsIn_wide.2 (cut_miss r _ hix)).mono ?_; rintro e w' ⟨rfl, rfl⟩)
        refine hR.mono ?_
        rintro e W3 (⟨rfl, hJ3, _⟩ | ⟨rfl, hJx3⟩)
        · gi_wp2
          go_roundw
          case rel => exact ⟨pre ++ [x], _, false, rfl, rfl, by decide, hJ3, .inr ⟨rfl, HE.out⟩⟩
          case measure => simp [leftM]
        · gi_wp2
          refine bodyPost_ret (results_none rfl _ _ _) rfl ?_
          exact ⟨⟨_, rfl⟩, .inr ⟨pre ++ [x], ⟨[], by rw [HE.out]; simp⟩, hJx3⟩⟩
      · have hi : i < r.size := by rw [size_data]; exact hil
        have hs1 : Pl.split r.data.toList = r.data.toList.take i :: Pl.split (r.data.toList.drop (i + 1)) := by have := hsp []; simpa [Pl.split] using this
        have hr2 : (r.extract (i + 1) r.size).data.toList = r.data.toList.drop (i + 1) := by
          rw [ByteArray.data_extract]
          simp
          rw [List.take_of_length_le (by rw [List.length_drop, ← size_data]; exact Nat.le_refl _)]
        obtain ⟨x, hx⟩ : ∃ x : Part, x.1 = r.data.toList.take i := ⟨⟨r.data.toList.take i, by rw [List.length_take]; omega⟩, rfl⟩
        have hxv : strV x.1 = .string (r.extract 0 i) := by rw [hx, strV_extract]; simp
        have HE : Hid (Pl.split s.data.toList = vals (pre ++ [x]) ++ Pl.split (r.extract (i + 1) r.size).data.toList) := by unfold Hid; rw [vals_snoc, hx, hp, hs1, hr2]; simp
        have hrs : (r.extract (i + 1) r.size).size = r.size - (i + 1) := by rw [size_data, hr2, List.length_drop, ← size_data]
        have hr60 : (r.extract (i + 1) r.size).size ≤ 60 := by omega
        have hml : (r.extract (i + 1) r.size).size < r.size := by omega
        obtain ⟨r', hr'⟩ : ∃ r', r' = r.extract (i + 1) r.size := ⟨_, rfl⟩
        obtain ⟨fn, tmps, assign, body, hy, hR⟩ := HY'.out pre x wr.drew (HJd.out _ _ hJs) (by rw [hp, hs1]; simp [vals_length])
        rw [hxv] at hy
        have hcut := cut_hit r i wr hix hi (by omega)
        rw [← hr'] at hcut HE hr60 hml
        clear hp hs1 hsp hx hxv hrs hr2 hr' hil
        gi_wp2_with (refine ⟨trivial, ?_⟩; gi_at_call 65; refine (callsIn_wide.2 hcut).mono ?_; rintro e w' ⟨rfl, rfl⟩)
        refine hR.mono ?_
        rintro e W3 (⟨rfl, hJ3, _⟩ | ⟨rfl, hJx3⟩)
        · gi_wp2
          go_roundw
          case rel => exact ⟨pre ++ [x], r', true, rfl, rfl, hr60, hJ3, .inl ⟨rfl, HE.out⟩⟩
          case measure => simp [leftM]; omega
        · gi_wp2
          refine bodyPost_ret (results_none rfl _ _ _) rfl ?_
          exact ⟨⟨_, rfl⟩, .inr ⟨pre ++ [x], ⟨_, HE.out.symm⟩, hJx3⟩⟩

set_option maxHeartbeats 1000000 in
theorem parts_in (n : Nat) (s : ByteArray) (w : World) :
    CallsIn Fence.wide n Tryz.prog 67 #[.string s] w fun e w' => e = .returned (.func (.func 78) #[] #[.pointer (some ⟨w.heap.size, 0, none⟩)]) ∧ w' = w.alloc (.cells #[.string s] 9) := by
  refine callsIn_of_wp Tryz.func67 rfl trivial ?_ rfl
  simp only [Tryz.ntmps67, List.size_toArray, List.length_cons, List.length_nil, Nat.reduceAdd, Nat.reduceSub, Array.replicate_succ, Array.replicate_zero, List.push_toArray, List.append_toArray, List.nil_append, List.cons_append]
  gi_wp2
  go_ret
  exact ⟨rfl, rfl⟩

theorem parts_stops (n : Nat) (hn : 1 ≤ n) (Bn : Nat) (s : ByteArray) (hs : s.size ≤ 60) (w : World) (hBn : Bn < w.heap.size) (hc : w.cell? ⟨Bn, 0, none⟩ = some (.string s)) :
    SeqStopsK Fence.wide n Tryz.prog 78 #[.pointer (some ⟨Bn, 0, none⟩)] (fun x : Part => #[strV x.1]) (fun _ _ => True) (fun ys => vals ys = Pl.split s.data.toList) (fun pre => vals pre <+: Pl.split s.data.toList) (Pl.split s.data.toList).length w := fun l J Jx W hW hJ _ hY h0 =>
  parts1_in n hn l Bn s hs J Jx W hJ hY ((hW.cell (p := ⟨Bn, 0, none⟩) hBn).trans hc) h0

end Go.Proofs.YtimgafblpmjajaaGreat
namespace Go.Proofs.YtimgafblpmjajaaGreat

open Go.RowKit

theorem join_any (base : Nat) (v : Value) (xs : List (List UInt8)) (w : World) (hrow : w.ownsRow base 9 1 v xs.length (xs.map strV)) (hs : Pl.total xs ≤ 4194304) :
    Calls Tryz.prog 80 #[v, .string ⟨#[47]⟩] w fun e w' => e = .returned (strV (Pl.joinS xs)) ∧ Below w.heap.size w w' := by
  obtain ⟨a, cap, rfl, hcap, hmax, hcell⟩ := row_shape hrow
  have hlen : xs.length ≤ 4194304 := by unfold Pl.total at hs; omega
  have hj := joinS_len xs
  cases xs with
  | nil => exact (Tryz.strings_Join_none a cap _ w).mono fun e w' ⟨he, hw⟩ => ⟨he, hw ▸ Below.refl _ _⟩
  | cons x r =>
    obtain ⟨g, rfl, _, hg, _⟩ := hcell 0 (by simp)
    obtain ⟨ys, hys⟩ : ∃ ys : List ByteArray, ys = (x :: r).map (fun l => (⟨l.toArray⟩ : ByteArray)) := ⟨_, rfl⟩
    have hyl : ys.length = (x :: r).length := by rw [hys, List.length_map]
    have hmap : ys.map (·.data.toList) = x :: r := by
      rw [hys, List.map_map]
      conv => rhs; rw [← List.map_id (x :: r)]
      exact List.map_congr_left (fun l _ => by simp)
    have h := Tryz.strings_Join g 0 cap ys ⟨#[47]⟩ w (fun j y hy => by
      rw [hys] at hy
      rw [List.getElem?_map] at hy
      obtain ⟨l, hl, rfl⟩ := Option.map_eq_some_iff.1 hy
      obtain ⟨hlt, hl'⟩ := List.getElem?_eq_some_iff.1 hl
      obtain ⟨g', hg', _, _, hc⟩ := hcell j hlt
      cases hg'
      rw [Nat.zero_add, hc, hl']; rfl) hg (by omega) (by omega) (by
      rw [hmap]
      have : (Lib.join (x :: r) [47]).length ≤ 4194304 := by unfold Pl.joinS at hj; omega
      exact Nat.le_trans this (by decide))
    rw [hmap, hyl] at h
    exact h

set_option maxHeartbeats 1000000 in
set_option maxRecDepth 100000 in
theorem clone_any (s : ByteArray) (w : World) (hs : s.size ≤ 4194304) :
    Calls Tryz.prog 38 #[.string s] w fun e w' => e = .returned (.string s) ∧ Below w.heap.size w w' := by
  go_enter Tryz.func38, Tryz.ntmps38
  go_wp2_with (go_at_call 57; refine (Tryz.stringslite_Clone s _ (by omega)).mono ?_; rintro e w' ⟨rfl, hb⟩)
  go_ret
  exact ⟨rfl, hb⟩

/-- The answer's cell, made first, behind what was laid since. -/
theorem old_cell {w w2 : World} {o : Obj} {u : Value} {t : TypeId} (ho : o = .cells #[u] t) (hb : Below (w.alloc o).heap.size (w.alloc o) w2) (o' : Obj) : (w2.alloc o').cell? ⟨w.heap.size, 0, none⟩ = some u ∧ (w2.alloc o').frozen? ⟨w.heap.size, 0, none⟩ = false := by
  have hz : w.heap.size < w2.heap.size := by have := hb.size; simp at this; omega
  have hb' : Below (w.alloc o).heap.size (w.alloc o) (w2.alloc o') := hb.trans ((Below.refl _ _).alloc (by simp; omega) o')
  obtain ⟨hc, hf⟩ := bcell hb'
  subst ho
  exact ⟨by rw [hc _ _ (by simp)]; simp, by rw [hf _ _ (by simp)]; simp⟩

theorem old_set {w w2 : World} {o : Obj} {u : Value} {t : TypeId} (ho : o = .cells #[u] t) (hb : Below (w.alloc o).heap.size (w.alloc o) w2) (u' : Value) (o' : Obj) : ((w2.setCell ⟨w.heap.size, 0, none⟩ u').alloc o').cell? ⟨w.heap.size, 0, none⟩ = some u' := by
  have hz : w.heap.size < w2.heap.size := by have := hb.size; simp at this; omega
  obtain ⟨hc, hf⟩ := bcell hb
  subst ho
  rw [World.cell?_alloc_past _ _ _ (by simp [World.setCell]; omega)]
  exact World.cell?_setCell_same' _ _ _ (by rw [hc _ _ (by simp)]; simp)

/-- The one form as a value, with its code. -/
def formV (r : Int × List UInt8) : Value := .tuple #[.agg #[strV r.2], .int .i64 r.1]

set_option maxHeartbeats 1000000 in
set_option maxRecDepth 100000 in
theorem formOf_any (base : Nat) (v : Value) (xs : List (List UInt8)) (w : World) (hrow : w.ownsRow base 9 1 v xs.length (xs.map strV)) (hs : Pl.total xs ≤ 4194304) :
    Calls Tryz.prog 69 #[v] w fun e w' => e = .returned (formV (Pl.fin (xs, 0))) ∧ Below w.heap.size w w' := by
  obtain ⟨t, ht⟩ : ∃ t : ByteArray, t.data.toList = Pl.joinS xs := ⟨⟨(Pl.joinS xs).toArray⟩, by simp⟩
  have HT : Hid (strV (Pl.joinS xs) = .string t) := by unfold Hid; rw [← ht, strV_data]
  have hts : t.size ≤ 4194304 := by rw [size_data, ht]; have := joinS_len xs; omega
  have hrow1 := hrow.alloc (.cells #[.string ⟨#[]⟩] 91)
  by_cases hj : Pl.joinS xs = []
  · have hfin : Pl.fin (xs, 0) = (1, []) := by unfold Pl.fin; rw [if_pos rfl, if_pos hj]
    have hte : t.toList.isEmpty = true := by rw [Go.ByteArray.toList_eq, ht, hj]; rfl
    rw [hfin]
    clear hfin ht hj
    go_enter Tryz.func69, Tryz.ntmps69
    go_wp2_with fail
    refine (join_any base v xs _ hrow1 hs).mono ?_
    rw [HT.out]
    rintro e w1 ⟨rfl, hb⟩
    go_wp2_with (go_at_call 38; refine (clone_any t _ hts).mono ?_; rintro e w2 ⟨rfl, hb2⟩; have hb3 := hb.trans (hb2.mono hb.size); have hA := fun o' => (old_cell rfl hb3 o').1; have hF := fun o' => (old_cell rfl hb3 o').2; have hz : w.heap.size < w2.heap.size := (by have := hb3.size; simp at this; omega))
    exact bodyPost_ret (v := formV (1, [])) (by simp [results, Tryz.results69, go_sem, formV, strV, old_set rfl hb3]) rfl ⟨rfl, ((below_one hb3).setCell (p := ⟨w.heap.size, 0, none⟩) (Nat.le_refl _) _).alloc (by simp [World.setCell]; omega) _⟩
  · have hte : t.toList.isEmpty = false := by rw [Go.ByteArray.toList_eq, ht]; simpa using hj
    by_cases hl' : 60 < (Pl.joinS xs).length
    · have hfin : Pl.fin (xs, 0) = (3, []) := by unfold Pl.fin; rw [if_pos rfl, if_neg hj, if_pos hl']
      have htl : 60 < t.size := by rw [size_data, ht]; exact hl'
      rw [hfin]
      clear hfin ht hj hl'
      go_enter Tryz.func69, Tryz.ntmps69
      go_wp2_with fail
      refine (join_any base v xs _ hrow1 hs).mono ?_
      rw [HT.out]
      rintro e w1 ⟨rfl, hb⟩
      go_wp2_with (go_at_call 38; refine (clone_any t _ hts).mono ?_; rintro e w2 ⟨rfl, hb2⟩; have hb3 := hb.trans (hb2.mono hb.size); have hA := fun o' => (old_cell rfl hb3 o').1; have hF := fun o' => (old_cell rfl hb3 o').2; have hz : w.heap.size < w2.heap.size := (by have := hb3.size; simp at this; omega))
      exact bodyPost_ret (v := formV (3, [])) (by simp [results, Tryz.results69, go_sem, formV, strV, old_set rfl hb3]) rfl ⟨rfl, ((below_one hb3).setCell (p := ⟨w.heap.size, 0, none⟩) (Nat.le_refl _) _).alloc (by simp [World.setCell]; omega) _⟩
    · have hfin : Pl.fin (xs, 0) = (0, Pl.joinS xs) := by unfold Pl.fin; rw [if_pos rfl, if_neg hj, if_neg hl']
      have htl : ¬ 60 < t.size := by rw [size_data, ht]; exact hl'
      rw [hfin]
      clear hfin ht hj hl'
      go_enter Tryz.func69, Tryz.ntmps69
      go_wp2_with fail
      refine (join_any base v xs _ hrow1 hs).mono ?_
      rw [HT.out]
      rintro e w1 ⟨rfl, hb⟩
      go_wp2_with (go_at_call 38; refine (clone_any t _ hts).mono ?_; rintro e w2 ⟨rfl, hb2⟩; have hb3 := hb.trans (hb2.mono hb.size); have hA := fun o' => (old_cell rfl hb3 o').1; have hF := fun o' => (old_cell rfl hb3 o').2; have hz : w.heap.size < w2.heap.size := (by have := hb3.size; simp at this; omega))
      exact bodyPost_ret (v := formV (0, Pl.joinS xs)) (by simp [results, Tryz.results69, go_sem, formV, HT.out, old_set rfl hb3]) rfl ⟨rfl, ((below_one hb3).setCell (p := ⟨w.heap.size, 0, none⟩) (Nat.le_refl _) _).alloc (by simp [World.setCell]; omega) _⟩

end Go.Proofs.YtimgafblpmjajaaGreat
namespace Go.Proofs.YtimgafblpmjajaaGreat

open Go.RowKit Go.Shelf

attribute [local go_sem] Oper.semAt_some

theorem Boxed.below {W W' : World} {B n : Nat} {t : TypeId} {v : Value} (h : Boxed W B t v) (hb : Below n W W') (hn : B < n) : Boxed W' B t v := (hb.block B hn).trans h

/-- Between two rounds: the row so far, the two answers' cells as they were laid. -/
def Mid (n₀ N : Nat) (R : List (List UInt8)) (pre : List Part) (W : World) : Prop :=
  (∃ v, Boxed W N 23 v ∧ W.ownsRow n₀ 9 1 v (Pl.walkP R (vals pre)).1.length ((Pl.walkP R (vals pre)).1.map strV) ∧ (Pl.walkP R (vals pre)).2 = 0)
/-- A round has left. -/
def Left2 (R : List (List UInt8)) (c : Code) (pre : List Part) : Prop := c = .ret ∧ (Pl.walkP R (vals pre)).2 ≠ 0

theorem walkP_snoc (R pre : List (List UInt8)) (p : List UInt8) (h : (Pl.walkP R pre).2 = 0) :
    Pl.walkP R (pre ++ [p]) = if (Pl.stepW (Pl.walkP R pre).1 p).2 = 0 then (Pl.stepW (Pl.walkP R pre).1 p) else ([], (Pl.stepW (Pl.walkP R pre).1 p).2) := by
  rw [Pl.walkP_append, if_pos h]
  simp only [Pl.walkP]
  split
  · rename_i h2; rw [← h2]
  · rfl

theorem total_vals (pre : List Part) : Pl.total (vals pre) ≤ 61 * pre.length := by
  induction pre with
  | nil => simp [vals, Pl.total, Lib.lens]
  | cons x r ih =>
    have := x.2
    simp only [vals, Pl.total, Lib.lens, List.map_cons, List.sum_cons, List.length_cons] at ih ⊢
    omega

set_option maxRecDepth 100000 in
set_option maxHeartbeats 2000000 in
theorem walk_short (n₀ : Nat) (v0 : Value) (R : List (List UInt8)) (s : ByteArray) (w : World) (hrow : w.ownsRow n₀ 9 1 v0 R.length (R.map strV)) (hn₀ : n₀ ≤ w.heap.size) (hR : Pl.total R ≤ 1048576) (hs : s.size ≤ 60) :
    Calls Tryz.prog 55 #[v0, .string s] w fun e w' => e = .returned (formV (Pl.fin (Pl.walkP R (Pl.split s.data.toList)))) ∧ Below n₀ w w' := by
  obtain ⟨i0, hi, hz0, hz1, hz2⟩ := info_parts Tryz.info9
  obtain ⟨a0, cap0, rfl, hcap0, hmax0, _⟩ := row_shape hrow
  have hb60 : (decide ((60 : Int) < (s.size : Int))) = false := by simp; omega
  have hsl : (Pl.split s.data.toList).length ≤ 61 := by have := Pl.length_split s.data.toList; rw [← size_data] at this; omega
  obtain ⟨rc, rx, hfin⟩ : ∃ rc rx, Pl.fin (Pl.walkP R (Pl.split s.data.toList)) = (rc, rx) := ⟨_, _, rfl⟩
  obtain ⟨t, ht⟩ : ∃ t : ByteArray, strV rx = .string t := ⟨_, rfl⟩
  have hfv : formV (Pl.fin (Pl.walkP R (Pl.split s.data.toList))) = .tuple #[.agg #[.string t], .int .i64 rc] := by rw [hfin, formV, ht]
  rw [hfv]
  have HFV : Hid (formV (Pl.fin (Pl.walkP R (Pl.split s.data.toList))) = .tuple #[.agg #[.string t], .int .i64 rc]) := hfv
  clear hfv hfin ht
  refine (callsIn_wide (n := 5)).1 ?_
  refine callsIn_of_wp_marks Tryz.func55 rfl trivial ?_ rfl
  simp only [Tryz.ntmps55, List.size_toArray, List.length_cons, List.length_nil, Nat.reduceAdd, Nat.reduceSub, Array.replicate_succ, Array.replicate_zero, List.push_toArray, List.append_toArray, List.nil_append, List.cons_append]
  gi_wp2_with (refine ⟨trivial, ?_⟩; gi_at_call 67; refine (parts_in _ s _).mono ?_; rintro e w' ⟨rfl, rfl⟩)
  have b0 := Boxed.new w 23 (.slice a0 R.length cap0)
  have b1 := Boxed.new (w.alloc (.cells #[.slice a0 R.length cap0] 23)) 91 (.string ⟨#[]⟩)
  have b2 := Boxed.new ((w.alloc (.cells #[.slice a0 R.length cap0] 23)).alloc (.cells #[.string ⟨#[]⟩] 91)) 3 (.int .i64 0)
  have b3 := Boxed.new (((w.alloc (.cells #[.slice a0 R.length cap0] 23)).alloc (.cells #[.string ⟨#[]⟩] 91)).alloc (.cells #[.int .i64 0] 3)) 9 (.string s)
  simp only [World.size_alloc] at b1 b2 b3
  have hB0 : Below n₀ w ((((w.alloc (.cells #[.slice a0 R.length cap0] 23)).alloc (.cells #[.string ⟨#[]⟩] 91)).alloc (.cells #[.int .i64 0] 3)).alloc (.cells #[.string s] 9)) := ((((Below.refl _ w).alloc hn₀ _).alloc (by simp; omega) _).alloc (by simp; omega) _).alloc (by simp; omega) _
  refine wpIn_rangeFunc_ownG rfl (by omega) (gf := 78) (lb := #[.pointer (some ⟨w.heap.size + 1 + 1 + 1, 0, none⟩)]) rfl trivial (enters_of Tryz.func78 (by kernel_rfl) rfl)
    (parts_stops (5 - 1) (by omega) (w.heap.size + 1 + 1 + 1) s hs _ (by simp) b3.cell) (fun _ _ => trivial) (fun _ _ _ _ _ _ _ _ => trivial) (Below.refl _ _) (fun _ => rfl)
    (fun pre W => Mid n₀ w.heap.size R pre W ∧ Boxed W (w.heap.size + 1) 91 (.string ⟨#[]⟩) ∧ Boxed W (w.heap.size + 1 + 1) 3 (.int .i64 0) ∧ Below n₀ w W)
    (fun c pre W => Left2 R c pre ∧ Boxed W (w.heap.size + 1) 91 (.string ⟨#[]⟩) ∧ Boxed W (w.heap.size + 1 + 1) 3 (.int .i64 (Pl.walkP R (vals pre)).2) ∧ Below n₀ w W)
    (OwnFrom.and (Own.from (holdsRow_own n₀ w.heap.size 23 9 1 (fun pre => (Pl.walkP R (vals pre)).1.length) (fun pre => (Pl.walkP R (vals pre)).1.map strV) (fun pre v => (Pl.walkP R (vals pre)).2 = 0)) _) (OwnFrom.and (Own.from (boxed_own _ _ (fun _ => .string ⟨#[]⟩)) _) (OwnFrom.and (Own.from (boxed_own _ _ (fun _ => .int .i64 0)) _) (ownFrom_below hn₀ (by simp; omega)))))
    (fun c => OwnFrom.and (ownFrom_pure _ (fun pre => Left2 R c pre)) (OwnFrom.and (Own.from (boxed_own _ _ (fun _ => .string ⟨#[]⟩)) _) (OwnFrom.and (Own.from (boxed_own _ _ (fun pre => .int .i64 (Pl.walkP R (vals pre)).2)) _) (ownFrom_below hn₀ (by simp; omega)))))
    ⟨⟨_, ((b0.alloc _).alloc _).alloc _, (((hrow.alloc _).alloc _).alloc _).alloc _, rfl⟩, (b1.alloc _).alloc _, b2.alloc _, hB0⟩
    (fun x => { tmps := #[.slice a0 R.length cap0, .string s, .pointer (some ⟨w.heap.size, 0, none⟩), undef, .pointer (some ⟨w.heap.size + 1, 0, none⟩), .pointer (some ⟨w.heap.size + 1 + 1, 0, none⟩), .string ⟨x.1.toArray⟩, .string s, .int .i64 s.size, .bool false, undef, .string s, .func (.func 78) #[] #[.pointer (some ⟨w.heap.size + 1 + 1 + 1, 0, none⟩)], .string ⟨x.1.toArray⟩, undef, undef, undef, undef, undef, undef, undef, undef, undef, undef, undef, undef, undef, undef, undef, undef, undef, undef, undef, undef, undef, undef, undef, undef, undef, undef, undef, undef, undef, undef, undef, undef], defers := [] }) ?assign ?body ?done ?stop
  case assign =>
    intro l x W K hK
    gi_wp2
    exact hK
  case body =>
    rintro l pre x W ⟨⟨v, hv, hrw, hz⟩, h1, h2, hB⟩ hlt
    have hsz := hB.size
    have hbl : (Pl.walkP R (vals pre)).1.length ≤ 2097153 := by
      have g1 := Pl.total_walkP R (vals pre)
      have g2 := total_vals pre
      have g3 : (Pl.walkP R (vals pre)).1.length ≤ Pl.total (Pl.walkP R (vals pre)).1 := by unfold Pl.total; omega
      omega
    have HS := walkP_snoc R (vals pre) x.1 hz
    rw [← vals_snoc] at HS
    obtain ⟨D, hD⟩ : ∃ D, D = (Pl.walkP R (vals pre)).1 := ⟨_, rfl⟩
    rw [← hD] at hrw hbl HS
    obtain ⟨p, hp⟩ : ∃ p, p = x.1 := ⟨_, rfl⟩
    have hpl := x.2
    rw [← hp] at HS hpl
    have HS' : Hid (Pl.walkP R (vals (pre ++ [x])) = if (Pl.stepW D p).2 = 0 then Pl.stepW D p else ([], (Pl.stepW D p).2)) := HS
    obtain ⟨q, hq⟩ : ∃ q : ByteArray, q = ⟨p.toArray⟩ := ⟨_, rfl⟩
    have hqd : q.data.toList = p := by rw [hq]
    have hqs : q.size ≤ 60 := by rw [size_data, hqd]; exact hpl
    have hql' : q.toList = p := by rw [Go.ByteArray.toList_eq, hqd]
    dsimp only
    rw [← hp, ← hq]
    have hqv : Value.string q = strV p := by rw [hq]; rfl
    clear HS hD hz hq hpl hlt
    obtain ⟨a6, cap6, rfl, hcap6, hmax6, _⟩ := row_shape hrw
    have hc0 := hv.cell
    have hf0 := hv.frozen
    have hc1 := h1.cell
    have hf1 := h1.frozen
    have hc2 := h2.cell
    have hf2 := h2.frozen
    by_cases c1 : p = [46]
    · have t1 : (q.toList == [46]) = true := by rw [hql', c1]; rfl
      have HF : Hid (Pl.walkP R (vals (pre ++ [x])) = (D, 0)) := by unfold Hid; rw [HS'.out]; simp [Pl.stepW, c1]
      clear hql' hqd c1 hqv hp
      gi_wp2
      exact ⟨KeepsFrom.refl _ _, trivial, ⟨_, hv, by rw [HF.out]; exact hrw, by rw [HF.out]⟩, h1, h2, hB⟩
    · have t1 : (q.toList == [46]) = false := by rw [hql']; simpa using c1
      by_cases c2 : p = [46, 46]
      · have t2 : (q.toList == [46, 46]) = true := by rw [hql', c2]; rfl
        by_cases c3 : D = []
        · have t3 : ((D.length : Int) == 0) = true := by rw [c3]; rfl
          have HF : Hid (Pl.walkP R (vals (pre ++ [x])) = ([], 2)) := by unfold Hid; rw [HS'.out]; simp [Pl.stepW, c2, c3]
          clear hql' hqd c1 c2 c3 hqv hp
          gi_wp2
          refine ⟨((KeepsOthers.setCell _ _ _).trans (KeepsOthers.setCell _ _ _)).from _, ⟨rfl, by rw [HF.out]; decide⟩, (h1.set _).other (by omega) _, by rw [HF.out]; exact (h2.other (by omega) _).set _, (hB.setCell (p := ⟨w.heap.size + 1, 0, none⟩) (by simp; omega) _).setCell (p := ⟨w.heap.size + 1 + 1, 0, none⟩) (by simp; omega) _⟩
        · have hDp : 0 < D.length := List.length_pos_iff.2 c3
          have t3 : ((D.length : Int) == 0) = false := by rw [beq_eq_false_iff_ne]; omega
          have HF : Hid (Pl.walkP R (vals (pre ++ [x])) = (D.dropLast, 0)) := by unfold Hid; rw [HS'.out]; simp [Pl.stepW, c2, c3]
          obtain ⟨g6, cap6', hv6, _, hpop⟩ := pop_row c3 hrw
          cases hv6
          clear hql' hqd c1 c2 c3 hqv hp
          gi_wp2
          exact ⟨(KeepsOthers.setCell _ _ _).from _, trivial, ⟨_, hv.set _, by rw [HF.out]; exact hpop.kept (grownBy_setCell' W _ _) (.inr (hv.not_row (by decide) hpop).symm), by rw [HF.out]⟩, h1.other (by omega) _, h2.other (by omega) _, hB.setCell (p := ⟨w.heap.size, 0, none⟩) hn₀ _⟩
      · have t2 : (q.toList == [46, 46]) = false := by rw [hql']; simpa using c2
        cases hpp : Pl.plainP p with
        | false =>
          have HF : Hid (Pl.walkP R (vals (pre ++ [x])) = ([], 1)) := by unfold Hid; rw [HS'.out]; simp [Pl.stepW, c1, c2, hpp]
          have hip := isPlain_any q
          rw [hqd, hpp] at hip
          clear hql' hqd c1 c2 hqv hp hpp
          gi_wp2_with (refine ⟨trivial, ?_⟩; gi_at_call 68; refine (CallsIn.inRound l (callsIn_wide.2 (hip _ (by unfold maxLen; omega)))).mono ?_; rintro e w' ⟨rfl, rfl⟩)
          refine ⟨((KeepsOthers.setCell _ _ _).trans (KeepsOthers.setCell _ _ _)).from _, ⟨rfl, by rw [HF.out]; decide⟩, (h1.set _).other (by omega) _, by rw [HF.out]; exact (h2.other (by omega) _).set _, (hB.setCell (p := ⟨w.heap.size + 1, 0, none⟩) (by simp; omega) _).setCell (p := ⟨w.heap.size + 1 + 1, 0, none⟩) (by simp; omega) _⟩
        | true =>
          have HF : Hid (Pl.walkP R (vals (pre ++ [x])) = (D ++ [p], 0)) := by unfold Hid; rw [HS'.out]; simp [Pl.stepW, c1, c2, hpp]
          have hip := isPlain_any q
          rw [hqd, hpp] at hip
          have HQ : Hid (Value.string q = strV p) := hqv
          clear hql' hqd c1 c2 hqv hp hpp
          gi_wp2_with (first | (refine ⟨trivial, ?_⟩; gi_at_call 68; refine (CallsIn.inRound l (callsIn_wide.2 (hip _ (by unfold maxLen; omega)))).mono ?_; rintro e w' ⟨rfl, rfl⟩) | (gi_at_builtin; refine wpListIn_append_own _ rfl _ _ 23 rfl n₀ 9 i0 (.string ByteArray.empty) 1 16 Tryz.underlying23 hi hz0 hz1 hz2 rfl (by decide) _ _ _ rfl (hrw.alloc _) ⟨_, 0, none⟩ 1 1 [.string q] rfl rfl (cell_one_new _ _ _) (by simp [Value.oneCell']) (by unfold maxLen; omega) (by omega) (by simp; omega) ?_; intro v' w1 hown' hgrow _; obtain ⟨g', cap', rfl⟩ := ownsRow_succ hown'; obtain ⟨hv1, hv2, hr2, hk2, hb2⟩ := hv.appended (by decide) hrw (by omega) hn₀ hown' hgrow; have hc3 := hv1.cell; have hf3 := hv1.frozen))
          refine ⟨hk2.from _, trivial, ⟨_, hv2, ?_, by rw [HF.out]⟩, ((h1.alloc _).kept hgrow (h1.not_row (by decide) hrw)).other (by omega) _, ((h2.alloc _).kept hgrow (h2.not_row (by decide) hrw)).other (by omega) _, hB.trans hb2⟩
          rw [HF.out]; rw [HQ.out] at hr2; simpa using hr2
  case done =>
    rintro D ys W hD hS ⟨⟨v, hv, hrw, hz⟩, h1, h2, hB⟩ hK
    rw [hS] at hrw hz
    have hsz := hB.size
    have hform := formOf_any n₀ v _ W hrw (by
      have g1 := Pl.total_walkP R (Pl.split s.data.toList)
      have g2 := Pl.total_split s.data.toList
      rw [← size_data] at g2
      omega)
    rw [show ((Pl.walkP R (Pl.split s.data.toList)).1, (0 : Int)) = Pl.walkP R (Pl.split s.data.toList) by rw [← hz], HFV.out] at hform
    obtain ⟨a6, cap6, rfl, _, _, _⟩ := row_shape hrw
    have hc0 := hv.cell
    clear hz hrw
    gi_wp2_with (refine ⟨trivial, ?_⟩; gi_at_call 69; refine (callsIn_wide.2 hform).mono ?_; rintro e w2 ⟨rfl, hb⟩; have g1 := Boxed.below h1 hb h1.lt; have g2 := Boxed.below h2 hb h2.lt; have gc1 := g1.cell; have gf1 := g1.frozen; have gc2 := g2.cell; have gf2 := g2.frozen)
    have hK2 : w2.heap[D]? = some (.deferred (some [])) := (hb.block D (Array.getElem?_eq_some_iff.1 hK).1).trans hK
    have hK3 := (KeepsOthers.setCell (w2.setCell ⟨w.heap.size + 1, 0, none⟩ (.string t)) ⟨w.heap.size + 1 + 1, 0, none⟩ (.int .i64 rc)).same D _ ((KeepsOthers.setCell w2 ⟨w.heap.size + 1, 0, none⟩ (.string t)).same D _ hK2 rfl) rfl
    have e1 : Boxed ((w2.setCell ⟨w.heap.size + 1, 0, none⟩ (.string t)).setCell ⟨w.heap.size + 1 + 1, 0, none⟩ (.int .i64 rc)) (w.heap.size + 1) 91 (.string t) := (g1.set _).other (by omega) _
    have e2 : Boxed ((w2.setCell ⟨w.heap.size + 1, 0, none⟩ (.string t)).setCell ⟨w.heap.size + 1 + 1, 0, none⟩ (.int .i64 rc)) (w.heap.size + 1 + 1) 3 (.int .i64 rc) := (g2.other (by omega) _).set _
    refine ⟨by simp, .inl ⟨_, _, rfl, run_takeDeferred hK3, ?_⟩⟩
    have f1 := cell_kept e1.cell (grownBy_putObj' _ D (.deferred none)) (fun r e => by cases e; exact ⟨_, hK3, rfl⟩)
    have f2 := cell_kept e2.cell (grownBy_putObj' _ D (.deferred none)) (fun r e => by cases e; exact ⟨_, hK3, rfl⟩)
    refine ⟨.tuple #[.agg #[.string t], .int .i64 rc], ?_, rfl, (((hB.trans (hb.mono (by omega))).setCell (p := ⟨w.heap.size + 1, 0, none⟩) (by simp; omega) _).setCell (p := ⟨w.heap.size + 1 + 1, 0, none⟩) (by simp; omega) _).trans (belowK_b (w := w) hn₀ _ D _ _ (by simp at hD; omega) hK3 rfl rfl)⟩
    simp [results, Tryz.results55, go_sem, f1, f2]
  case stop =>
    rintro D c pre W hD hpre ⟨⟨rfl, hne⟩, h1, h2, hB⟩ hK
    obtain ⟨rest, hrest⟩ := hpre
    have hw : Pl.walkP R (Pl.split s.data.toList) = Pl.walkP R (vals pre) := by rw [← hrest, Pl.walkP_append, if_neg hne]
    have hv : (Value.tuple #[.agg #[.string t], .int .i64 rc]) = .tuple #[.agg #[.string ⟨#[]⟩], .int .i64 (Pl.walkP R (vals pre)).2] := by
      rw [← HFV.out, hw]; unfold Pl.fin; rw [if_neg hne]; rfl
    have HV : Hid ((Value.tuple #[.agg #[.string t], .int .i64 rc]) = .tuple #[.agg #[.string ⟨#[]⟩], .int .i64 (Pl.walkP R (vals pre)).2]) := hv
    clear hv hw hrest hne
    gi_wp2
    refine ⟨by simp, .inl ⟨_, _, rfl, run_takeDeferred hK, ?_⟩⟩
    have f1 := cell_kept h1.cell (grownBy_putObj' _ D (.deferred none)) (fun r e => by cases e; exact ⟨_, hK, rfl⟩)
    have f2 := cell_kept h2.cell (grownBy_putObj' _ D (.deferred none)) (fun r e => by cases e; exact ⟨_, hK, rfl⟩)
    refine ⟨.tuple #[.agg #[.string ⟨#[]⟩], .int .i64 (Pl.walkP R (vals pre)).2], ?_, by rw [HV.out], hB.trans (belowK_b (w := w) hn₀ W D _ _ (by simp at hD; omega) hK rfl rfl)⟩
    simp [results, Tryz.results55, go_sem, f1, f2]

set_option maxRecDepth 100000 in
set_option maxHeartbeats 2000000 in
theorem walk_any (n₀ : Nat) (v0 : Value) (R : List (List UInt8)) (s : ByteArray) (w : World) (hrow : w.ownsRow n₀ 9 1 v0 R.length (R.map strV)) (hn₀ : n₀ ≤ w.heap.size) (hR : Pl.total R ≤ 1048576) :
    Calls Tryz.prog 55 #[v0, .string s] w fun e w' => e = .returned (formV (Pl.nm R s.data.toList)) ∧ Below n₀ w w' := by
  unfold Pl.nm
  by_cases h60 : 60 < s.data.toList.length
  · rw [if_pos h60]
    rw [← size_data] at h60
    obtain ⟨a0, cap0, rfl, hcap0, hmax0, _⟩ := row_shape hrow
    clear hrow
    go_enter Tryz.func55, Tryz.ntmps55
    go_wp2
    exact bodyPost_ret (v := formV (3, [])) (by simp [results, Tryz.results55, go_sem, formV, strV]) rfl ⟨rfl, (((Below.refl _ w).alloc hn₀ _).alloc (by simp; omega) _).alloc (by simp; omega) _⟩
  · rw [if_neg h60]
    exact walk_short n₀ v0 R s w hrow hn₀ hR (by rw [size_data]; omega)

end Go.Proofs.YtimgafblpmjajaaGreat
namespace Go.Proofs.YtimgafblpmjajaaGreat

open Go.RowKit

theorem below_set2' {B : Nat} {w w1 : World} (hb : Below B w w1) (hB : B ≤ w.heap.size) (u0 u1 : Value) : Below B w ((w1.setCell ⟨w.heap.size, 0, none⟩ u0).setCell ⟨w.heap.size, 1, none⟩ u1) :=
  (hb.setCell (p := ⟨w.heap.size, 0, none⟩) hB _).setCell (p := ⟨w.heap.size, 1, none⟩) hB _

/-- A struct of two cells that was laid first, behind what was laid since. -/
theorem old_two {w1 w2 : World} {u0 u1 : Value} {t : TypeId} (hb : Below (w1.alloc (.cells #[u0, u1] t)).heap.size (w1.alloc (.cells #[u0, u1] t)) w2) (o' : Obj) :
    (w2.alloc o').cell? ⟨w1.heap.size, 0, none⟩ = some u0 ∧ (w2.alloc o').cell? ⟨w1.heap.size, 1, none⟩ = some u1 := by
  have hz : w1.heap.size < w2.heap.size := by have := hb.size; simp at this; omega
  have hb' : Below (w1.alloc (.cells #[u0, u1] t)).heap.size (w1.alloc (.cells #[u0, u1] t)) (w2.alloc o') := hb.trans ((Below.refl _ _).alloc (by simp; omega) o')
  obtain ⟨hc, hf⟩ := bcell hb'
  exact ⟨by rw [hc _ _ (by simp)]; simp, by rw [hc _ _ (by simp)]; simp⟩

end Go.Proofs.YtimgafblpmjajaaGreat
namespace Go.Proofs.YtimgafblpmjajaaGreat

open Go.RowKit Go.Shelf

attribute [local go_sem] Oper.semAt_some

set_option maxRecDepth 100000 in
set_option maxHeartbeats 2000000 in
theorem appendSeq_any (Bn : Nat) (s : ByteArray) (w : World) (hs : s.size ≤ 60) (hBn : Bn < w.heap.size) (hc : w.cell? ⟨Bn, 0, none⟩ = some (.string s)) :
    Calls Tryz.prog 84 #[.slice none 0 0, .func (.func 78) #[] #[.pointer (some ⟨Bn, 0, none⟩)]] w fun e w' => ∃ v, e = .returned v ∧ w'.ownsRow w.heap.size 9 1 v (Pl.split s.data.toList).length ((Pl.split s.data.toList).map strV) ∧ Below w.heap.size w w' := by
  obtain ⟨i0, hi, hz0, hz1, hz2⟩ := info_parts Tryz.info9
  have hsl : (Pl.split s.data.toList).length ≤ 61 := by have := Pl.length_split s.data.toList; rw [← size_data] at this; omega
  refine (callsIn_wide (n := 5)).1 ?_
  refine callsIn_of_wp_marks Tryz.func84 rfl trivial ?_ rfl
  simp only [Tryz.ntmps84, List.size_toArray, List.length_cons, List.length_nil, Nat.reduceAdd, Nat.reduceSub, Array.replicate_succ, Array.replicate_zero, List.push_toArray, List.append_toArray, List.nil_append, List.cons_append]
  gi_wp2
  have b0 := Boxed.new w 23 (.slice none 0 0)
  have hB0 : Below w.heap.size w (w.alloc (.cells #[.slice none 0 0] 23)) := (Below.refl _ w).alloc (Nat.le_refl _) _
  have hc1 : (w.alloc (.cells #[.slice none 0 0] 23)).cell? ⟨Bn, 0, none⟩ = some (.string s) := (World.cell?_alloc_past _ _ _ hBn).trans hc
  refine wpIn_rangeFunc_ownG rfl (by omega) (gf := 78) (lb := #[.pointer (some ⟨Bn, 0, none⟩)]) rfl trivial (enters_of Tryz.func78 (by kernel_rfl) rfl)
    (parts_stops (5 - 1) (by omega) Bn s hs _ (by simp; omega) hc1) (fun _ _ => trivial) (fun _ _ _ _ _ _ _ _ => trivial) (Below.refl _ _) (fun _ => rfl)
    (fun pre W => (∃ v, Boxed W w.heap.size 23 v ∧ W.ownsRow w.heap.size 9 1 v (vals pre).length ((vals pre).map strV) ∧ True) ∧ Below w.heap.size w W)
    (fun _ _ _ => False)
    (OwnFrom.and (Own.from (holdsRow_own w.heap.size w.heap.size 23 9 1 (fun pre => (vals pre).length) (fun pre => (vals pre).map strV) (fun _ _ => True)) _) (ownFrom_below (Nat.le_refl _) (by simp)))
    (fun _ _ _ _ _ hs _ _ => hs)
    ⟨⟨_, b0, World.ownsRow_nil _ _ _ _, trivial⟩, hB0⟩
    (fun x => { tmps := #[.slice none 0 0, .func (.func 78) #[] #[.pointer (some ⟨Bn, 0, none⟩)], .pointer (some ⟨w.heap.size, 0, none⟩), undef, .slice none 0 0, .string ⟨x.1.toArray⟩, .func (.func 78) #[] #[.pointer (some ⟨Bn, 0, none⟩)], .string ⟨x.1.toArray⟩, undef, undef, undef, undef, undef], defers := [] }) ?assign ?body ?done ?stop
  case assign =>
    intro l x W K hK
    gi_wp2
    exact hK
  case body =>
    rintro l pre x W ⟨⟨v, hv, hrw, _⟩, hB⟩ hlt
    have hsz := hB.size
    have hpl : (vals pre).length ≤ 61 := by rw [vals_length]; omega
    have hc0 := hv.cell
    obtain ⟨a6, cap6, rfl, hcap6, hmax6, _⟩ := row_shape hrw
    gi_wp2_with (gi_at_builtin; refine wpListIn_append_own _ rfl _ _ 23 rfl w.heap.size 9 i0 (.string ByteArray.empty) 1 16 Tryz.underlying23 hi hz0 hz1 hz2 rfl (by decide) _ _ _ rfl (hrw.alloc _) ⟨_, 0, none⟩ 1 1 [.string ⟨x.1.toArray⟩] rfl rfl (cell_one_new _ _ _) (by simp [Value.oneCell']) (by unfold maxLen; omega) (by omega) (by simp; omega) ?_; intro v' w1 hown' hgrow _; obtain ⟨g', cap', rfl⟩ := ownsRow_succ hown'; obtain ⟨hv1, hv2, hr2, hk2, hb2⟩ := hv.appended (by decide) hrw hsz (Nat.le_refl _) hown' hgrow; have hc3 := hv1.cell; have hf3 := hv1.frozen)
    refine ⟨hk2.from _, trivial, ⟨_, hv2, ?_, trivial⟩, hB.trans hb2⟩
    rw [vals_snoc]
    exact row_snoc (p := x.1) rfl hr2
  case done =>
    rintro D ys W hD hS ⟨⟨v, hv, hrow, _⟩, hB⟩ hK
    rw [hS] at hrow
    have hc := hv.cell
    obtain ⟨a6, cap6, rfl, hcap6, hmax6, _⟩ := row_shape hrow
    gi_wp2
    refine ⟨by simp, .inl ⟨_, _, rfl, run_takeDeferred hK, ?_⟩⟩
    exact ⟨_, results_tmp rfl _ _ _, _, rfl, ownsRow_putObj hrow _ hK rfl, hB.trans (belowK_b (w := w) (Nat.le_refl _) W D _ _ (by simp at hD; omega) hK rfl rfl)⟩
  case stop =>
    rintro D c pre W _ _ h _
    exact h.elim

set_option maxRecDepth 100000 in
set_option maxHeartbeats 1000000 in
theorem collect_any (Bn : Nat) (s : ByteArray) (w : World) (hs : s.size ≤ 60) (hBn : Bn < w.heap.size) (hc : w.cell? ⟨Bn, 0, none⟩ = some (.string s)) :
    Calls Tryz.prog 77 #[.func (.func 78) #[] #[.pointer (some ⟨Bn, 0, none⟩)]] w fun e w' => ∃ v, e = .returned v ∧ w'.ownsRow w.heap.size 9 1 v (Pl.split s.data.toList).length ((Pl.split s.data.toList).map strV) ∧ Below w.heap.size w w' := by
  go_enter Tryz.func77, Tryz.ntmps77
  go_wp2_with (go_at_call 84; refine (appendSeq_any Bn s _ hs hBn hc).mono ?_; rintro e w' ⟨v, rfl, hr, hb⟩)
  go_ret
  exact ⟨_, rfl, hr, hb⟩

set_option maxRecDepth 100000 in
set_option maxHeartbeats 1000000 in
theorem folder_any (t : ByteArray) (w : World) (hs : t.size ≤ 60) :
    Calls Tryz.prog 66 #[.agg #[.string t]] w fun e w' => ∃ v, e = .returned v ∧ w'.ownsRow w.heap.size 9 1 v (Pl.split t.data.toList).dropLast.length ((Pl.split t.data.toList).dropLast.map strV) ∧ Below w.heap.size w w' := by
  go_enter Tryz.func66, Tryz.ntmps66
  go_wp2_with (go_at_call 67; refine (callsIn_wide.1 (parts_in 3 t _)).mono ?_; rintro e w' ⟨rfl, rfl⟩)
  refine (collect_any (w.heap.size + 1) t _ hs (by simp) (by simp)).mono ?_
  rintro e w1 ⟨v, rfl, hr, hb⟩
  have hsne : Pl.split t.data.toList ≠ [] := Pl.splitTo_ne _ _
  have hpos : 0 < (Pl.split t.data.toList).length := List.length_pos_iff.2 hsne
  have hsl : (Pl.split t.data.toList).length ≤ 61 := by have := Pl.length_split t.data.toList; rw [← size_data] at this; omega
  obtain ⟨g, cap, rfl, hcap, hpop⟩ := pop_row hsne hr
  have hpop2 := own_mono (base' := w.heap.size) hpop (by simp; omega)
  clear hr hpop hsne
  go_wp2
  go_ret
  exact ⟨_, rfl, hpop2, (((Below.refl _ w).alloc (Nat.le_refl _) _).alloc (by simp) _).trans (hb.mono (by simp; omega))⟩

end Go.Proofs.YtimgafblpmjajaaGreat
namespace Go.Proofs.YtimgafblpmjajaaGreat

open Go.RowKit

/-- Walked from where the module stands. -/
def Pl.wn (from' s : List UInt8) : Int × List UInt8 := if (Pl.nm [] from').1 = 0 then Pl.nm (Pl.split (Pl.nm [] from').2).dropLast s else (4, [])

theorem Pl.nm_len (R : List (List UInt8)) (s : List UInt8) : (Pl.nm R s).2.length ≤ 60 := by
  unfold Pl.nm
  split
  · simp
  · unfold Pl.fin
    split
    · split
      · simp
      · split
        · simp
        · simp only; omega
    · simp
theorem Pl.folder_total (x : List UInt8) (h : x.length ≤ 60) : Pl.total (Pl.split x).dropLast ≤ 1048576 := by
  have h1 := Pl.total_dropLast (Pl.split x)
  have h2 := Pl.total_split x
  omega

/-- The answer's two cells, laid first, behind what was laid since. -/
theorem old_two_frozen {w1 w2 : World} {u0 u1 : Value} {t : TypeId} (hb : Below (w1.alloc (.cells #[u0, u1] t)).heap.size (w1.alloc (.cells #[u0, u1] t)) w2) (o' : Obj) :
    (w2.alloc o').frozen? ⟨w1.heap.size, 0, none⟩ = false ∧ (w2.alloc o').frozen? ⟨w1.heap.size, 1, none⟩ = false := by
  have hz : w1.heap.size < w2.heap.size := by have := hb.size; simp at this; omega
  have hb' : Below (w1.alloc (.cells #[u0, u1] t)).heap.size (w1.alloc (.cells #[u0, u1] t)) (w2.alloc o') := hb.trans ((Below.refl _ _).alloc (by simp; omega) o')
  obtain ⟨hc, hf⟩ := bcell hb'
  exact ⟨by rw [hf _ _ (by simp)]; simp, by rw [hf _ _ (by simp)]; simp⟩
theorem old_two_set {w1 w2 : World} {u0 u1 : Value} {t : TypeId} (hb : Below (w1.alloc (.cells #[u0, u1] t)).heap.size (w1.alloc (.cells #[u0, u1] t)) w2) (v0 v1 : Value) (o' : Obj) :
    (((w2.setCell ⟨w1.heap.size, 0, none⟩ v0).setCell ⟨w1.heap.size, 1, none⟩ v1).alloc o').cell? ⟨w1.heap.size, 0, none⟩ = some v0 ∧ (((w2.setCell ⟨w1.heap.size, 0, none⟩ v0).setCell ⟨w1.heap.size, 1, none⟩ v1).alloc o').cell? ⟨w1.heap.size, 1, none⟩ = some v1 := by
  have hz : w1.heap.size < w2.heap.size := by have := hb.size; simp at this; omega
  obtain ⟨hc, hf⟩ := bcell hb
  have e0 : w2.cell? ⟨w1.heap.size, 0, none⟩ = some u0 := by rw [hc _ _ (by simp)]; simp
  have e1 : w2.cell? ⟨w1.heap.size, 1, none⟩ = some u1 := by rw [hc _ _ (by simp)]; simp
  constructor
  · rw [World.cell?_alloc_past _ _ _ (by simp [World.setCell]; omega)]
    simp [go_sem, e0]
  · rw [World.cell?_alloc_past _ _ _ (by simp [World.setCell]; omega)]
    simp [go_sem, e1]

set_option maxRecDepth 100000 in
set_option maxHeartbeats 1000000 in
theorem specWithin_any (f s : ByteArray) (w : World) (hf0 : f.size ≤ 1048576) (hs : s.size ≤ 1048576) :
    Calls Tryz.prog 51 #[.string f, .string s] w fun e w' => e = .returned (namedV (Pl.wn f.data.toList s.data.toList)) ∧ Below w.heap.size w w' := by
  obtain ⟨c, x, hn⟩ : ∃ c x, Pl.nm [] f.data.toList = (c, x) := ⟨_, _, rfl⟩
  have hx : x.length ≤ 60 := by have := Pl.nm_len [] f.data.toList; rw [hn] at this; exact this
  have hwn : Pl.wn f.data.toList s.data.toList = if c = 0 then Pl.nm (Pl.split x).dropLast s.data.toList else (4, []) := by unfold Pl.wn; rw [hn]
  have HN : Hid (Pl.nm [] f.data.toList = (c, x)) := hn
  rw [hwn]
  clear hn hwn
  by_cases hc0 : c = 0
  · rw [if_pos hc0]
    have hb0 : (c == 0) = true := by simpa using hc0
    obtain ⟨c2, x2, hn2⟩ : ∃ c2 x2, Pl.nm (Pl.split x).dropLast s.data.toList = (c2, x2) := ⟨_, _, rfl⟩
    have HN2 : Hid (Pl.nm (Pl.split x).dropLast s.data.toList = (c2, x2)) := hn2
    rw [hn2]
    obtain ⟨t, ht⟩ : ∃ t : ByteArray, t = ⟨x.toArray⟩ := ⟨_, rfl⟩
    have htd : t.data.toList = x := by rw [ht]
    have hts : t.size ≤ 60 := by rw [size_data, htd]; exact hx
    have HT : Hid (strV x = .string t) := by unfold Hid; rw [ht]; rfl
    have HTD : Hid (t.data.toList = x) := htd
    have hsne : Pl.split x ≠ [] := Pl.splitTo_ne _ _
    have hpos : 0 < (Pl.split x).length := List.length_pos_iff.2 hsne
    have hsl : (Pl.split x).length ≤ 61 := by have := Pl.length_split x; omega
    have HNE : Hid (Pl.split x ≠ []) := hsne
    clear hn2 ht htd hsne hc0
    go_enter Tryz.func51, Tryz.ntmps51
    go_wp2_with fail
    refine (specClean_any f _ hf0).mono ?_
    rw [HN.out]
    unfold namedV
    rw [HT.out]
    rintro e w1 ⟨rfl, hb1⟩
    have hz1 : w.heap.size + 1 ≤ w1.heap.size := by have := hb1.size; simp at this; omega
    go_wp2_with fail
    refine (l1parts_any t _ (by omega)).mono ?_
    rw [HTD.out]
    rintro e w2 ⟨v, rfl, hr, hb2⟩
    obtain ⟨g, cap, rfl, hcap, hpop⟩ := pop_row HNE.out hr
    go_wp2_with fail
    refine (l1named_any _ _ _ s _ hpop (Pl.folder_total x hx) hs).mono ?_
    rw [HN2.out]
    unfold namedV strV
    rintro e w3 ⟨rfl, hb3⟩
    have hb12 : Below (w.heap.size + 1) (w.alloc (.cells #[.int .i64 0, .string ⟨#[]⟩] 118)) w3 := ((hb1.mono (by simp)).alloc (by omega) _).trans ((hb2.mono (by simp; omega)).trans (hb3.mono (by have := hb2.size; simp at this; omega)))
    obtain ⟨hc, hf⟩ := bcell (W := w.alloc (.cells #[.int .i64 0, .string ⟨#[]⟩] 118)) (w1 := w3) (by rw [World.size_alloc]; exact hb12)
    go_wp2
    exact bodyPost_ret (v := namedV (c2, x2)) (by simp [results, Tryz.results51, go_sem, namedV, strV, hc]) rfl ⟨rfl, below_set2' (((Below.refl _ w).alloc (Nat.le_refl _) _).trans (hb12.mono (by simp))) (Nat.le_refl _) _ _⟩
  · rw [if_neg hc0]
    have hb0 : (c == 0) = false := by simpa using hc0
    clear hc0
    go_enter Tryz.func51, Tryz.ntmps51
    go_wp2_with fail
    refine (specClean_any f _ hf0).mono ?_
    rw [HN.out]
    unfold namedV strV
    rintro e w1 ⟨rfl, hb1⟩
    have hz1 : w.heap.size + 1 ≤ w1.heap.size := by have := hb1.size; simp at this; omega
    have hA := fun o' => (old_two hb1 o').1
    have hA2 := fun o' => (old_two hb1 o').2
    have hF := fun o' => (old_two_frozen hb1 o').1
    have hF2 := fun o' => (old_two_frozen hb1 o').2
    go_wp2
    exact bodyPost_ret (v := namedV (4, [])) (by simp [results, Tryz.results51, go_sem, namedV, strV, hA, hA2]) rfl ⟨rfl, below_set2' ((below_one hb1).alloc (by omega) _) (Nat.le_refl _) _ _⟩

set_option maxRecDepth 100000 in
set_option maxHeartbeats 1000000 in
theorem within_any (f s : ByteArray) (w : World) :
    Calls Tryz.prog 54 #[.string f, .string s] w fun e w' => e = .returned (formV (Pl.wn f.data.toList s.data.toList)) ∧ Below w.heap.size w w' := by
  obtain ⟨c, x, hn⟩ : ∃ c x, Pl.nm [] f.data.toList = (c, x) := ⟨_, _, rfl⟩
  have hx : x.length ≤ 60 := by have := Pl.nm_len [] f.data.toList; rw [hn] at this; exact this
  have hwn : Pl.wn f.data.toList s.data.toList = if c = 0 then Pl.nm (Pl.split x).dropLast s.data.toList else (4, []) := by unfold Pl.wn; rw [hn]
  have HN : Hid (Pl.nm [] f.data.toList = (c, x)) := hn
  rw [hwn]
  obtain ⟨t, ht⟩ : ∃ t : ByteArray, t = ⟨x.toArray⟩ := ⟨_, rfl⟩
  have htd : t.data.toList = x := by rw [ht]
  have hts : t.size ≤ 60 := by rw [size_data, htd]; exact hx
  have HT : Hid (strV x = .string t) := by unfold Hid; rw [ht]; rfl
  have HTD : Hid (t.data.toList = x) := htd
  clear hn hwn ht htd
  by_cases hc0 : c = 0
  · rw [if_pos hc0]
    have hb0 : (c == 0) = true := by simpa using hc0
    have hb0' : (c != 0) = false := by simpa using hc0
    obtain ⟨c2, x2, hn2⟩ : ∃ c2 x2, Pl.nm (Pl.split x).dropLast s.data.toList = (c2, x2) := ⟨_, _, rfl⟩
    have HN2 : Hid (Pl.nm (Pl.split x).dropLast s.data.toList = (c2, x2)) := hn2
    rw [hn2]
    clear hn2 hc0
    go_enter Tryz.func54, Tryz.ntmps54
    go_wp2_with fail
    refine (walk_any (w.heap.size + 1) (.slice none 0 0) [] f _ (World.ownsRow_nil _ _ _ _) (by simp) (by decide)).mono ?_
    rw [HN.out]
    unfold formV
    rw [HT.out]
    rintro e w1 ⟨rfl, hb1⟩
    have hz1 : w.heap.size + 1 ≤ w1.heap.size := by have := hb1.size; simp at this; omega
    go_wp2_with fail
    refine (folder_any t _ hts).mono ?_
    rw [HTD.out]
    rintro e w2 ⟨v, rfl, hr, hb2⟩
    have hz2 : w1.heap.size + 1 ≤ w2.heap.size := by have := hb2.size; simp at this; omega
    go_wp2_with fail
    refine (walk_any (w1.heap.size + 1) v _ s _ (own_mono hr (by simp)) hz2 (Pl.folder_total x hx)).mono ?_
    rw [HN2.out]
    unfold formV strV
    rintro e w3 ⟨rfl, hb3⟩
    have hz3 := hb3.size
    have hb13 : Below (w.heap.size + 1) (w.alloc (.cells #[.string ⟨#[]⟩] 91)) w3 := (hb1.alloc (by omega) _).trans ((hb2.mono (by simp; omega)).trans (hb3.mono (by omega)))
    obtain ⟨hc, hf⟩ := bcell (W := w.alloc (.cells #[.string ⟨#[]⟩] 91)) (w1 := w3) (by rw [World.size_alloc]; exact hb13)
    go_wp2
    exact bodyPost_ret (v := formV (c2, x2)) (by simp [results, Tryz.results54, go_sem, formV, strV, hc]) rfl ⟨rfl, ((((Below.refl _ w).alloc (Nat.le_refl _) _).trans (hb13.mono (by simp)))).setCell (p := ⟨w.heap.size, 0, none⟩) (Nat.le_refl _) _⟩
  · rw [if_neg hc0]
    have hb0 : (c == 0) = false := by simpa using hc0
    have hb0' : (c != 0) = true := by simpa using hc0
    clear hc0
    go_enter Tryz.func54, Tryz.ntmps54
    go_wp2_with fail
    refine (walk_any (w.heap.size + 1) (.slice none 0 0) [] f _ (World.ownsRow_nil _ _ _ _) (by simp) (by decide)).mono ?_
    rw [HN.out]
    unfold formV
    rw [HT.out]
    rintro e w1 ⟨rfl, hb1⟩
    have hz1 : w.heap.size + 1 ≤ w1.heap.size := by have := hb1.size; simp at this; omega
    have hb1' : Below (w.alloc (.cells #[.string ⟨#[]⟩] 91)).heap.size (w.alloc (.cells #[.string ⟨#[]⟩] 91)) w1 := by rw [World.size_alloc]; exact hb1
    have hA := fun o' => (old_cell rfl hb1' o').1
    have hF := fun o' => (old_cell rfl hb1' o').2
    go_wp2
    exact bodyPost_ret (v := formV (4, [])) (by simp [results, Tryz.results54, go_sem, formV, strV, hA]) rfl ⟨rfl, ((below_one hb1').alloc (by omega) _).setCell (p := ⟨w.heap.size, 0, none⟩) (Nat.le_refl _) _⟩

end Go.Proofs.YtimgafblpmjajaaGreat
namespace Go.Proofs.YtimgafblpmjajaaGreat

open Go.RowKit

def Pl.near (s : List UInt8) : Bool := ((Pl.split s).headD [] == [46]) || ((Pl.split s).headD [] == [46, 46])
def Pl.rooted (r n : List UInt8) : List UInt8 := if r = [] then n else r ++ [47] ++ n
def Pl.addTry (out : List (List UInt8)) (x : Int × List UInt8) : List (List UInt8) := if x.1 = 0 then (if x.2 ∈ out then out else out ++ [x.2]) else out
def Pl.under (roots : List (List UInt8)) (n : List UInt8) : List (List UInt8) := roots.foldl (fun out r => Pl.addTry out (Pl.nm [] (Pl.rooted r n))) []
def Pl.tries (roots : List (List UInt8)) (from' name : List UInt8) : List (List UInt8) :=
  if 8 < roots.length then [] else if Pl.near name then (if (Pl.wn from' name).1 = 0 then [(Pl.wn from' name).2] else []) else if (Pl.nm [] name).1 = 0 then Pl.under roots (Pl.nm [] name).2 else []

set_option maxHeartbeats 1000000 in
set_option maxRecDepth 100000 in
theorem l1named_all (base : Nat) (v0 : Value) (R : List (List UInt8)) (s : ByteArray) (w : World) (hrow : w.ownsRow base 9 1 v0 R.length (R.map strV)) (hR : Pl.total R ≤ 1048576) :
    Calls Tryz.prog 63 #[v0, .string s] w fun e w' => e = .returned (namedV (Pl.nm R s.data.toList)) ∧ Below w.heap.size w w' := by
  by_cases h60 : 60 < s.size
  · have hn : Pl.nm R s.data.toList = (3, []) := by unfold Pl.nm; rw [if_pos (by rw [← size_data]; exact h60)]
    rw [hn]
    clear hn hrow
    go_enter Tryz.func63, Tryz.ntmps63
    go_wp2
    exact bodyPost_ret (v := namedV (3, [])) (by simp [results, Tryz.results63, go_sem, namedV, strV]) rfl ⟨rfl, (Below.refl _ _).alloc (Nat.le_refl _) _⟩
  · exact l1named_any base v0 R s w hrow hR (by omega)

set_option maxHeartbeats 1000000 in
set_option maxRecDepth 100000 in
theorem specClean_all (s : ByteArray) (w : World) :
    Calls Tryz.prog 48 #[.string s] w fun e w' => e = .returned (namedV (Pl.nm [] s.data.toList)) ∧ Below w.heap.size w w' := by
  obtain ⟨c, x, hn⟩ : ∃ c x, Pl.nm [] s.data.toList = (c, x) := ⟨_, _, rfl⟩
  have HN : Hid (Pl.nm [] s.data.toList = (c, x)) := hn
  rw [hn]
  clear hn
  go_enter Tryz.func48, Tryz.ntmps48
  go_wp2_with fail
  refine (l1named_all 0 (.slice none 0 0) [] s _ (World.ownsRow_nil _ _ _ _) (by decide)).mono ?_
  rw [HN.out]
  rintro e w1 ⟨rfl, hb⟩
  obtain ⟨hc, hf⟩ := bcell hb
  unfold namedV strV
  go_wp2
  exact bodyPost_ret (v := namedV (c, x)) (by simp [results, Tryz.results48, go_sem, namedV, strV, hc]) rfl ⟨rfl, below_set2 hb _ _⟩

set_option maxHeartbeats 1000000 in
set_option maxRecDepth 100000 in
theorem l1near_any (s : ByteArray) (w : World) (hs : s.size ≤ 1048576) :
    Calls Tryz.prog 50 #[.string s] w fun e w' => e = .returned (.bool (Pl.near s.data.toList)) ∧ Below w.heap.size w w' := by
  have hsne : Pl.split s.data.toList ≠ [] := Pl.splitTo_ne _ _
  obtain ⟨p, r, hp⟩ : ∃ p r, Pl.split s.data.toList = p :: r := by
    cases h : Pl.split s.data.toList with
    | nil => exact absurd h hsne
    | cons p r => exact ⟨p, r, rfl⟩
  have hn : Pl.near s.data.toList = ((p == [46]) || (p == [46, 46])) := by unfold Pl.near; rw [hp]; rfl
  rw [hn]
  have HP : Hid (Pl.split s.data.toList = p :: r) := hp
  obtain ⟨q, hq⟩ : ∃ q : ByteArray, q = ⟨p.toArray⟩ := ⟨_, rfl⟩
  have hql : q.toList = p := by rw [Go.ByteArray.toList_eq, hq]
  have HQ : Hid (strV p = .string q) := by unfold Hid; rw [hq]; rfl
  have e1 : (q.toList == [46]) = (p == [46]) := by rw [hql]
  have e2 : (q.toList == [46, 46]) = (p == [46, 46]) := by rw [hql]
  generalize (p == [46]) = t1 at *
  generalize (p == [46, 46]) = t2 at *
  clear hn hp hsne hq hql
  cases t1 <;> cases t2
  all_goals
    go_enter Tryz.func50, Tryz.ntmps50
    go_wp2_with fail
    refine (l1parts_any s _ hs).mono ?_
    rw [HP.out]
    rintro e w1 ⟨v, rfl, hr, hb⟩
    obtain ⟨a, cap, rfl, hcap, hmax, hcell⟩ := row_shape hr
    obtain ⟨g, rfl, _, _, hc0⟩ := hcell 0 (by simp)
    have hc1 : w1.cell? ⟨g, 0, none⟩ = some (.string q) := by rw [hc0]; exact congrArg some HQ.out
    have hlp : (0 : Int) < ((p :: r).length : Int) := by simp
    clear hcell hc0
    go_wp2
    go_ret
    exact ⟨rfl, hb⟩

set_option maxHeartbeats 1000000 in
set_option maxRecDepth 100000 in
theorem isRelative_any (s : ByteArray) (w : World) (hs : s.size ≤ 1048576) :
    Calls Tryz.prog 53 #[.string s] w fun e w' => e = .returned (.bool (Pl.near s.data.toList)) ∧ Below w.heap.size w w' := by
  obtain ⟨q, v2, f, n, hcut, hq⟩ : ∃ (q : ByteArray) (v2 : ByteArray) (f : Bool) (n : Nat), (Calls Tryz.prog 65 #[.string s, .string ⟨#[47]⟩] w fun e w' => e = .returned (.tuple #[.string q, .string v2, .bool f]) ∧ w' = w.drewN n) ∧ q.data.toList = (Pl.split s.data.toList).headD [] := by
    rcases index47 s.data.toList with ⟨hix, hsp⟩ | ⟨i, hix, hil, hsp⟩
    · refine ⟨s, _, _, 0, cut_miss s w hix, ?_⟩
      have := hsp []; unfold Pl.split; rw [this]; simp
    · refine ⟨_, _, _, 1, cut_hit s i w hix (by rw [size_data]; exact hil) hs, ?_⟩
      have := hsp []; unfold Pl.split; rw [this]
      rw [ByteArray.data_extract]
      simp
  have hql : q.toList = (Pl.split s.data.toList).headD [] := by rw [Go.ByteArray.toList_eq, hq]
  have hn : Pl.near s.data.toList = ((q.toList == [46]) || (q.toList == [46, 46])) := by unfold Pl.near; rw [hql]
  rw [hn]
  clear hn hql hq
  obtain ⟨t1, e1⟩ : ∃ t1, (q.toList == [46]) = t1 := ⟨_, rfl⟩
  obtain ⟨t2, e2⟩ : ∃ t2, (q.toList == [46, 46]) = t2 := ⟨_, rfl⟩
  rw [e1, e2]
  cases t1 <;> cases t2
  all_goals
    go_enter Tryz.func53, Tryz.ntmps53
    go_wp2_with (go_at_call 65; refine hcut.mono ?_; rintro e w' ⟨rfl, rfl⟩)
    go_ret
    exact ⟨rfl, rfl, rfl, rfl, Nat.le_refl _, fun _ _ => rfl⟩

end Go.Proofs.YtimgafblpmjajaaGreat
namespace Go.Proofs.YtimgafblpmjajaaGreat

open Go.RowKit

theorem Tryz.info49 : (Tryz.prog.info? 91).map (fun i => (i.zero, i.size, i.bytes)) = some (some (.agg #[.string ⟨#[]⟩]), 1, 16) := by kernel_rfl

theorem row_shape49 {w : World} {base : Nat} {v : Value} {xs : List (List UInt8)} (h : w.ownsRow base 91 1 v xs.length (xs.map strV)) :
    ∃ a cap, v = .slice a xs.length cap ∧ xs.length ≤ cap ∧ cap ≤ maxLen ∧ ∀ k, (hk : k < xs.length) → ∃ g, a = some ⟨g, 0, none⟩ ∧ base ≤ g ∧ g < w.heap.size ∧ w.cell? ⟨g, k, none⟩ = some (strV xs[k]) := by
  have h0 := h
  obtain ⟨_, ⟨rfl, hn⟩ | ⟨g, cap, cur, rfl, hg, hh, hcap, hmax, _⟩⟩ := h
  · exact ⟨none, 0, by rw [hn], by omega, by decide, fun k hk => by omega⟩
  · refine ⟨_, cap, rfl, hcap, hmax, fun k hk => ⟨g, rfl, hg, (Array.getElem?_eq_some_iff.1 hh).1, ?_⟩⟩
    rw [h0.cellAt k (by omega)]
    simp [hk]

/-- Rows of two types lie apart. -/
theorem rows_apart {w : World} {b1 b2 : Nat} {e1 e2 : TypeId} {s1 s2 n1 n2 : Nat} {v1 v2 : Value} {x1 x2 : List Value} (he : e1 ≠ e2) (h1 : w.ownsRow b1 e1 s1 v1 n1 x1) (h2 : w.ownsRow b2 e2 s2 v2 n2 x2) : Apart v1 v2 := by
  rcases h2.2 with ⟨rfl, _⟩ | ⟨g, cap, cur, rfl, _, hg, _⟩
  · exact .inl rfl
  · right
    rcases h1.2 with ⟨rfl, _⟩ | ⟨g', cap', cur', rfl, _, hg', _⟩
    · simp [Value.ownBlock]
    · intro e
      have e' : g = g' := by simpa [Value.ownBlock] using e
      subst e'
      rw [hg] at hg'
      simp at hg'
      exact he hg'.2.symm

set_option maxHeartbeats 1000000 in
set_option maxRecDepth 100000 in
theorem index_any (base : Nat) (v : Value) (M : List (List UInt8)) (t : ByteArray) (w : World) (hrow : w.ownsRow base 91 1 v M.length (M.map strV)) (hM : M.length ≤ 1048576) :
    Calls Tryz.prog 81 #[v, .agg #[.string t]] w fun e w' => ∃ i : Int, e = .returned (.int .i64 i) ∧ (0 ≤ i ↔ t.data.toList ∈ M) ∧ Below w.heap.size w w' := by
  obtain ⟨a, cap, rfl, hcap, hmax, hcell⟩ := row_shape49 hrow
  have HC : Hid (∀ k, (hk : k < M.length) → ∃ g, a = some ⟨g, 0, none⟩ ∧ base ≤ g ∧ g < w.heap.size ∧ w.cell? ⟨g, k, none⟩ = some (strV M[k])) := hcell
  clear hcell hmax hrow
  go_enter Tryz.func81, Tryz.ntmps81
  go_wp2
  go_loopw [8] (fun i wr => ∃ k : Nat, k ≤ M.length ∧ i = .int .i64 k ∧ Hid (∀ j, (hj : j < M.length) → j < k → M[j] ≠ t.data.toList) ∧ ∃ n, wr = (w.alloc (.cells #[.string t] 91)).drewN n) (fun i _ => M.length - (intOf i).toNat)
  case atStart => exact ⟨0, Nat.zero_le _, rfl, fun j _ h => by omega, 0, rfl⟩
  case round =>
    obtain ⟨k, hk, rfl, hno, n, rfl⟩ := hrel
    have hB : Below w.heap.size w ((w.alloc (.cells #[.string t] 91)).drewN n) := below_drewN ((Below.refl _ w).alloc (Nat.le_refl _) _) n
    by_cases hlt : k < M.length
    · obtain ⟨g, rfl, _, hg, hc⟩ := HC.out k hlt
      obtain ⟨q, hq⟩ : ∃ q : ByteArray, q = ⟨M[k].toArray⟩ := ⟨_, rfl⟩
      have hcq : w.cell? ⟨g, k, none⟩ = some (.string q) := by rw [hc, hq]; rfl
      have hqd : q.data.toList = M[k] := by rw [hq]
      by_cases heq : t = q
      · subst heq
        have HE : Hid (t.data.toList ∈ M) := by unfold Hid; rw [hqd]; exact List.getElem_mem hlt
        clear hc hq hqd
        go_wp2
        go_quiet (fail)
        go_wp2
        go_ret
        exact ⟨k, rfl, ⟨fun _ => HE.out, fun _ => by omega⟩, below_drewN hB nq⟩
      · have hne : (t.toList == q.toList) = false := by
          rw [beq_eq_false_iff_ne, Go.ByteArray.toList_eq, Go.ByteArray.toList_eq]
          exact fun h => heq (bytes_eq h)
        have HN : Hid (∀ j, (hj : j < M.length) → j < k + 1 → M[j] ≠ t.data.toList) := fun j hj h => by
          by_cases hjk : j = k
          · subst hjk; rw [← hqd]; intro h2; exact heq (bytes_eq h2.symm)
          · exact hno.out j hj (by omega)
        clear hc hq hqd
        go_wp2
        go_quiet (fail)
        go_wp2
        go_roundw
        case rel => exact ⟨k + 1, by omega, by go_num, HN, n + nq, by simp [World.drewN]⟩
        case measure => simp [intOf]; omega
    · have HN : Hid (t.data.toList ∉ M) := fun h => by
        obtain ⟨j, hj, e⟩ := List.mem_iff_getElem.1 h
        exact hno.out j hj (by omega) e
      go_wp2
      go_ret
      exact ⟨-1, rfl, ⟨fun h => by omega, fun h => absurd h HN.out⟩, hB⟩

end Go.Proofs.YtimgafblpmjajaaGreat
namespace Go.Proofs.YtimgafblpmjajaaGreat

open Go.RowKit

set_option maxHeartbeats 1000000 in
set_option maxRecDepth 100000 in
theorem contains_any (base : Nat) (v : Value) (M : List (List UInt8)) (t : ByteArray) (w : World) (hrow : w.ownsRow base 91 1 v M.length (M.map strV)) (hM : M.length ≤ 1048576) :
    Calls Tryz.prog 71 #[v, .agg #[.string t]] w fun e w' => e = .returned (.bool (decide (t.data.toList ∈ M))) ∧ Below w.heap.size w w' := by
  obtain ⟨d, hd⟩ : ∃ d, d = decide (t.data.toList ∈ M) := ⟨_, rfl⟩
  rw [← hd]
  have HD : Hid (d = decide (t.data.toList ∈ M)) := hd
  clear hd
  go_enter Tryz.func71, Tryz.ntmps71
  go_wp2_with fail
  refine (index_any base v M t _ (hrow.alloc _) hM).mono ?_
  rintro e w1 ⟨i, rfl, hi, hb⟩
  have HI : Hid (decide (0 ≤ i) = d) := by
    unfold Hid; rw [HD.out]; exact decide_eq_decide.2 hi
  clear hi
  go_wp2
  go_ret
  exact ⟨ret_bool HI.out, below_one hb⟩

set_option maxHeartbeats 1000000 in
set_option maxRecDepth 100000 in
theorem rooted_any (r n : ByteArray) (w : World) (hr : r.size ≤ 4194304) (hn : n.size ≤ 4194304) :
    Calls Tryz.prog 70 #[.string r, .string n] w fun e w' => e = .returned (strV (Pl.rooted r.data.toList n.data.toList)) ∧ w' = w := by
  by_cases h : r.data.toList = []
  · have hr0 : Pl.rooted r.data.toList n.data.toList = n.data.toList := by unfold Pl.rooted; rw [if_pos h]
    rw [hr0, strV_data]
    have he : r.toList.isEmpty = true := by rw [Go.ByteArray.toList_eq, h]; rfl
    clear hr0 h
    go_enter Tryz.func70, Tryz.ntmps70
    go_wp2
    go_ret
    exact ⟨rfl, rfl⟩
  · have hr0 : strV (Pl.rooted r.data.toList n.data.toList) = .string (r ++ ⟨#[47]⟩ ++ n) := by
      unfold Pl.rooted; rw [if_neg h, ← strV_data, ByteArray.data_append, ByteArray.data_append, Array.toList_append, Array.toList_append]
    rw [hr0]
    have he : r.toList.isEmpty = false := by rw [Go.ByteArray.toList_eq]; simpa using h
    clear hr0 h
    go_enter Tryz.func70, Tryz.ntmps70
    go_wp2
    go_ret
    exact ⟨rfl, rfl⟩

theorem under_succ (L : List (List UInt8)) (n : List UInt8) (k : Nat) (hk : k < L.length) : Pl.under (L.take (k + 1)) n = Pl.addTry (Pl.under (L.take k) n) (Pl.nm [] (Pl.rooted L[k] n)) := by
  unfold Pl.under; rw [List.take_succ_eq_append_getElem hk, List.foldl_append]; rfl
theorem addTry_len (out : List (List UInt8)) (x : Int × List UInt8) : (Pl.addTry out x).length ≤ out.length + 1 := by
  unfold Pl.addTry; split
  · split
    · omega
    · simp
  · omega
theorem under_len (L : List (List UInt8)) (n : List UInt8) (k : Nat) (hk : k ≤ L.length) : (Pl.under (L.take k) n).length ≤ k := by
  induction k with
  | zero => simp [Pl.under]
  | succ k ih =>
    rw [under_succ L n k (by omega)]
    have := addTry_len (Pl.under (L.take k) n) (Pl.nm [] (Pl.rooted L[k] n))
    have := ih (by omega); omega

set_option maxHeartbeats 2000000 in
set_option maxRecDepth 100000 in
theorem underRoots_any (vr : Value) (L : List (List UInt8)) (n : ByteArray) (w : World) (hv : Strs w vr L) (hl : Pl.total L ≤ 1048576) (hn : n.size ≤ 60) :
    Calls Tryz.prog 56 #[vr, .string n] w fun e w' => ∃ v, e = .returned v ∧ w'.ownsRow w.heap.size 91 1 v (Pl.under L n.data.toList).length ((Pl.under L n.data.toList).map strV) ∧ Below w.heap.size w w' := by
  obtain ⟨i49, hj, hy0, hy1, hy2⟩ := info_parts Tryz.info49
  obtain ⟨a, cap, rfl, hcap, hmax, hcell⟩ := hv
  have HC : Hid (∀ k, (hk : k < L.length) → ∃ b o, a = some ⟨b, o, none⟩ ∧ b < w.heap.size ∧ w.cell? ⟨b, o + k, none⟩ = some (strV L[k])) := hcell
  have hll : L.length ≤ 1048576 := by unfold Pl.total at hl; omega
  have HLE : Hid (∀ k, (hk : k < L.length) → L[k].length ≤ 1048576) := fun k hk => by have := len_le_total L k hk; omega
  have HUL : Hid (∀ k, k ≤ L.length → (Pl.under (L.take k) n.data.toList).length ≤ k) := fun k hk => under_len L _ k hk
  clear hcell hmax hl
  go_enter Tryz.func56, Tryz.ntmps56
  go_wp2
  go_loopw [5, 12] (fun vm i wr => ∃ k : Nat, k ≤ L.length ∧ i = .int .i64 k ∧ wr.ownsRow w.heap.size 91 1 vm (Pl.under (L.take k) n.data.toList).length ((Pl.under (L.take k) n.data.toList).map strV) ∧ Below w.heap.size w wr) (fun _ i _ => L.length - (intOf i).toNat)
  case atStart => exact ⟨0, Nat.zero_le _, rfl, World.ownsRow_nil _ _ _ _, Below.refl _ _⟩
  case round =>
    obtain ⟨k, hk, rfl, hm, hB⟩ := hrel
    have hsz := hB.size
    by_cases hlt : k < L.length
    · obtain ⟨b, o, rfl, hb, hc⟩ := HC.out k hlt
      obtain ⟨q, hq⟩ : ∃ q : ByteArray, q = ⟨L[k].toArray⟩ := ⟨_, rfl⟩
      have hqd : q.data.toList = L[k] := by rw [hq]
      have hqs : q.size ≤ 4194304 := by rw [size_data, hqd]; have := HLE.out k hlt; omega
      have hcq : wr.cell? ⟨b, o + k, none⟩ = some (.string q) := by rw [hB.cell (p := ⟨b, o + k, none⟩) hb, hc, hq]; rfl
      have hroot := rooted_any q n wr hqs (by omega)
      obtain ⟨rt, hrt⟩ : ∃ rt : ByteArray, rt = ⟨(Pl.rooted q.data.toList n.data.toList).toArray⟩ := ⟨_, rfl⟩
      have hrtd : rt.data.toList = Pl.rooted q.data.toList n.data.toList := by rw [hrt]
      rw [show strV (Pl.rooted q.data.toList n.data.toList) = .string rt by rw [hrt]; rfl] at hroot
      obtain ⟨c, x, hn'⟩ : ∃ c x, Pl.nm [] rt.data.toList = (c, x) := ⟨_, _, rfl⟩
      have hU := under_succ L n.data.toList k hlt
      rw [← hqd, ← hrtd, hn'] at hU
      have hul := HUL.out k (by omega)
      obtain ⟨T, hT⟩ : ∃ T, T = Pl.under (L.take k) n.data.toList := ⟨_, rfl⟩
      rw [← hT] at hm hU hul
      obtain ⟨t, htx⟩ : ∃ t : ByteArray, t = ⟨x.toArray⟩ := ⟨_, rfl⟩
      have htd : t.data.toList = x := by rw [htx]
      have hwalk : ∀ W : World, Calls Tryz.prog 55 #[.slice none 0 0, .string rt] W fun e w' => e = .returned (.tuple #[.agg #[.string t], .int .i64 c]) ∧ Below W.heap.size W w' := fun W => by
        have := walk_any W.heap.size (.slice none 0 0) [] rt W (World.ownsRow_nil _ _ _ _) (Nat.le_refl _) (by decide)
        rw [hn', formV, htx] at *; exact this
      have HWALK : Hid (∀ W : World, Calls Tryz.prog 55 #[.slice none 0 0, .string rt] W fun e w' => e = .returned (.tuple #[.agg #[.string t], .int .i64 c]) ∧ Below W.heap.size W w') := hwalk
      have HTD : Hid (t.data.toList = x) := htd
      have HU : Hid (Pl.under (L.take (k + 1)) n.data.toList = Pl.addTry T (c, x)) := hU
      clear hwalk htd htx hU hT hn' hrtd hrt hq hqd hc
      obtain ⟨am, capm, rfl, hcapm, _, _⟩ := row_shape49 hm
      by_cases hc0 : c = 0
      · have hb0 : (c == 0) = true := by simpa using hc0
        have hb0' : (c != 0) = false := by simpa using hc0
        have hcont : ∀ W : World, W.ownsRow w.heap.size 91 1 (.slice am T.length capm) T.length (T.map strV) → Calls Tryz.prog 71 #[.slice am T.length capm, .agg #[.string t]] W fun e w' => e = .returned (.bool (decide (x ∈ T))) ∧ Below W.heap.size W w' := fun W h => by
          have := contains_any _ _ T t W h (by omega); rw [HTD.out] at this; exact this
        have HCONT : Hid (∀ W : World, W.ownsRow w.heap.size 91 1 (.slice am T.length capm) T.length (T.map strV) → Calls Tryz.prog 71 #[.slice am T.length capm, .agg #[.string t]] W fun e w' => e = .returned (.bool (decide (x ∈ T))) ∧ Below W.heap.size W w') := hcont
        clear hcont
        by_cases hx : x ∈ T
        · have hdx : decide (x ∈ T) = true := by simpa using hx
          have HF : Hid (Pl.under (L.take (k + 1)) n.data.toList = T) := by unfold Hid; rw [HU.out]; unfold Pl.addTry; rw [if_pos hc0, if_pos hx]
          rw [hdx] at HCONT
          clear hc0 hx hdx
          go_wp2_with fail
          refine hroot.mono ?_
          rintro e w' ⟨rfl, rfl⟩
          go_wp2_with fail
          refine (HWALK.out _).mono ?_
          rintro e w2 ⟨rfl, hb2⟩
          have hm2 := (own_below hm hb2 (Nat.le_refl _)).alloc (.cells #[.string t] 91)
          have hB2 : Below w.heap.size w (w2.alloc (.cells #[.string t] 91)) := (hB.trans (hb2.mono hsz)).alloc (by have := hb2.size; omega) _
          go_wp2_with fail
          refine (HCONT.out _ hm2).mono ?_
          rintro e w3 ⟨rfl, hb3⟩
          go_wp2
          go_roundw
          case rel => exact ⟨k + 1, by omega, by go_num, by rw [HF.out]; exact own_below hm2 hb3 (Nat.le_refl _), hB2.trans (hb3.mono hB2.size)⟩
          case measure => simp [intOf]; omega
        · have hdx : decide (x ∈ T) = false := by simpa using hx
          have HF : Hid (Pl.under (L.take (k + 1)) n.data.toList = T ++ [x]) := by unfold Hid; rw [HU.out]; unfold Pl.addTry; rw [if_pos hc0, if_neg hx]
          have HTX : Hid (Value.string t = strV x) := by unfold Hid; rw [← strV_data, HTD.out]
          rw [hdx] at HCONT
          clear hc0 hx hdx
          go_wp2_with fail
          refine hroot.mono ?_
          rintro e w' ⟨rfl, rfl⟩
          go_wp2_with fail
          refine (HWALK.out _).mono ?_
          rintro e w2 ⟨rfl, hb2⟩
          have hm2 := (own_below hm hb2 (Nat.le_refl _)).alloc (.cells #[.string t] 91)
          have hB2 : Below w.heap.size w (w2.alloc (.cells #[.string t] 91)) := (hB.trans (hb2.mono hsz)).alloc (by have := hb2.size; omega) _
          go_wp2_with fail
          refine (HCONT.out _ hm2).mono ?_
          rintro e w3 ⟨rfl, hb3⟩
          have hm3 := own_below hm2 hb3 (Nat.le_refl _)
          have hB3 : Below w.heap.size w w3 := hB2.trans (hb3.mono hB2.size)
          have hz3 := hB3.size
          have hf3 : w3.cell? ⟨w2.heap.size, 0, none⟩ = some (.string t) := by
            rw [hb3.cell (p := ⟨w2.heap.size, 0, none⟩) (by simp)]; simp
          have hz23 : w2.heap.size < w3.heap.size := by have := hb3.size; simp at this; omega
          clear hm2 hB2 hb3 hb2 hB hm
          go_wp2_with (at_builtin; refine wpList_app1 _ rfl (.tmp 31) (.tmp 33) 88 rfl w.heap.size 91 i49 (.agg #[.string ⟨#[]⟩]) 16 Tryz.underlying88 hj hy0 hy1 hy2 rfl _ _ _ rfl (hm3.alloc _) ⟨_, 0, none⟩ 1 (.string t) rfl (cell_one_new _ _ _) (by simp [Value.oneCell']) (by unfold maxLen; omega) (by omega) (by simp; omega) ?_; intro vm' w4 hm4 hg4 hs4; have hB4 := below_append hB3 hz3 hm3 hg4; clear hm3 hf3 hg4 hs4 hB3)
          rw [HTX.out] at hm4
          go_roundw
          case rel => exact ⟨k + 1, by omega, by go_num, by rw [HF.out]; simpa using hm4, hB4⟩
          case measure => simp [intOf]; omega
      · have hb0 : (c == 0) = false := by simpa using hc0
        have hb0' : (c != 0) = true := by simpa using hc0
        have HF : Hid (Pl.under (L.take (k + 1)) n.data.toList = T) := by unfold Hid; rw [HU.out]; unfold Pl.addTry; rw [if_neg hc0]
        clear hc0
        go_wp2_with fail
        refine hroot.mono ?_
        rintro e w' ⟨rfl, rfl⟩
        go_wp2_with fail
        refine (HWALK.out _).mono ?_
        rintro e w2 ⟨rfl, hb2⟩
        go_wp2_with (fail)
        go_roundw
        case rel => exact ⟨k + 1, by omega, by go_num, by rw [HF.out]; exact (own_below hm hb2 (Nat.le_refl _)).alloc _, (hB.trans (hb2.mono hsz)).alloc (by have := hb2.size; omega) _⟩
        case measure => simp [intOf]; omega
    · have hkL : L.take k = L := List.take_of_length_le (by omega)
      rw [hkL] at hm
      clear hkL
      go_wp2
      go_ret
      exact ⟨_, rfl, hm, hB⟩

end Go.Proofs.YtimgafblpmjajaaGreat
namespace Go.Proofs.YtimgafblpmjajaaGreat

open Go.RowKit

theorem lit_one (W : World) (B : Nat) (x : List UInt8) (hB : B ≤ W.heap.size) : (W.alloc (.cells #[strV x] 9)).ownsRow B 9 1 (.slice (some ⟨W.heap.size, 0, none⟩) 1 1) [x].length ([x].map strV) :=
  World.ownsRow_lit W #[strV x] 1 hB (by decide) rfl

theorem lit_one49 (W : World) (B : Nat) (x : List UInt8) (hB : B ≤ W.heap.size) : (W.alloc (.cells #[strV x] 91)).ownsRow B 91 1 (.slice (some ⟨W.heap.size, 0, none⟩) 1 1) [x].length ([x].map strV) :=
  World.ownsRow_lit W #[strV x] 1 hB (by decide) rfl

set_option maxHeartbeats 1000000 in
set_option maxRecDepth 100000 in
theorem formsToTry_any (vr : Value) (L : List (List UInt8)) (f s : ByteArray) (w : World) (hv : Strs w vr L) (hl : Pl.total L ≤ 1048576) (hs : s.size ≤ 1048576) :
    Calls Tryz.prog 37 #[vr, .string f, .string s] w fun e w' => ∃ v, e = .returned v ∧ w'.ownsRow w.heap.size 91 1 v (Pl.tries L f.data.toList s.data.toList).length ((Pl.tries L f.data.toList s.data.toList).map strV) ∧ Below w.heap.size w w' := by
  have hv0 := hv
  obtain ⟨a, cap, rfl, hcap, hmax, hcell⟩ := hv
  clear hcell
  by_cases h8 : 8 < L.length
  · have hT : Pl.tries L f.data.toList s.data.toList = [] := by unfold Pl.tries; rw [if_pos h8]
    rw [hT]
    clear hT hv0
    go_enter Tryz.func37, Tryz.ntmps37
    go_wp2
    go_ret
    exact ⟨_, rfl, World.ownsRow_nil _ _ _ _, Below.refl _ _⟩
  · cases hnear : Pl.near s.data.toList with
    | true =>
      obtain ⟨c, x, hn⟩ : ∃ c x, Pl.wn f.data.toList s.data.toList = (c, x) := ⟨_, _, rfl⟩
      have hT : Pl.tries L f.data.toList s.data.toList = if c = 0 then [x] else [] := by unfold Pl.tries; rw [if_neg h8, hnear, if_pos rfl, hn]
      have hrel := isRelative_any s w hs
      rw [hnear] at hrel
      have HN : Hid (Pl.wn f.data.toList s.data.toList = (c, x)) := hn
      obtain ⟨t, htx⟩ : ∃ t : ByteArray, strV x = .string t := ⟨_, rfl⟩
      have HTX : Hid (strV x = .string t) := htx
      rw [hT]
      clear hT hn hnear hv0 htx
      by_cases hc0 : c = 0
      · rw [if_pos hc0]
        have hb0 : (c == 0) = true := by simpa using hc0
        have hb0' : (c != 0) = false := by simpa using hc0
        clear hc0
        go_enter Tryz.func37, Tryz.ntmps37
        go_wp2_with fail
        refine hrel.mono ?_
        rintro e w1 ⟨rfl, hb1⟩
        go_wp2_with fail
        refine (within_any f s _).mono ?_
        rw [HN.out]
        unfold formV
        rw [HTX.out]
        rintro e w2 ⟨rfl, hb2⟩
        have hb12 : Below w.heap.size w w2 := hb1.trans (hb2.mono hb1.size)
        have hz := hb12.size
        have hL : ((w2.alloc (.cells #[.string t] 91)).alloc (.cells #[.string t] 91)).ownsRow w.heap.size 91 1 (.slice (some ⟨(w2.alloc (.cells #[.string t] 91)).heap.size, 0, none⟩) 1 1) [x].length ([x].map strV) := by
          have := lit_one49 (w2.alloc (.cells #[.string t] 91)) w.heap.size x (by simp; omega)
          rw [HTX.out] at this; exact this
        go_wp2
        go_ret
        exact ⟨_, rfl, by simpa using hL, (hb12.alloc hz _).alloc (by simp; omega) _⟩
      · rw [if_neg hc0]
        have hb0 : (c == 0) = false := by simpa using hc0
        have hb0' : (c != 0) = true := by simpa using hc0
        clear hc0
        go_enter Tryz.func37, Tryz.ntmps37
        go_wp2_with fail
        refine hrel.mono ?_
        rintro e w1 ⟨rfl, hb1⟩
        go_wp2_with fail
        refine (within_any f s _).mono ?_
        rw [HN.out]
        unfold formV
        rw [HTX.out]
        rintro e w2 ⟨rfl, hb2⟩
        have hb12 : Below w.heap.size w w2 := hb1.trans (hb2.mono hb1.size)
        have hz := hb12.size
        go_wp2
        go_ret
        exact ⟨_, rfl, World.ownsRow_nil _ _ _ _, hb12.alloc hz _⟩
    | false =>
      obtain ⟨c, x, hn⟩ : ∃ c x, Pl.nm [] s.data.toList = (c, x) := ⟨_, _, rfl⟩
      have hT : Pl.tries L f.data.toList s.data.toList = if c = 0 then Pl.under L x else [] := by unfold Pl.tries; rw [if_neg h8, hnear, if_neg (by decide), hn]
      have hx60 : x.length ≤ 60 := by have := Pl.nm_len [] s.data.toList; rw [hn] at this; exact this
      have hrel := isRelative_any s w hs
      rw [hnear] at hrel
      have HN : Hid (Pl.nm [] s.data.toList = (c, x)) := hn
      obtain ⟨t, htx⟩ : ∃ t : ByteArray, t = ⟨x.toArray⟩ := ⟨_, rfl⟩
      have HTX : Hid (strV x = .string t) := by unfold Hid; rw [htx]; rfl
      have htd : t.data.toList = x := by rw [htx]
      have hts : t.size ≤ 60 := by rw [size_data, htd]; exact hx60
      have HTD : Hid (t.data.toList = x) := htd
      rw [hT]
      clear hT hn hnear htx htd
      have HW : Hid (∀ W : World, Calls Tryz.prog 55 #[.slice none 0 0, .string s] W fun e w' => e = .returned (.tuple #[.agg #[.string t], .int .i64 c]) ∧ Below W.heap.size W w') := fun W => by
        have := walk_any W.heap.size (.slice none 0 0) [] s W (World.ownsRow_nil _ _ _ _) (Nat.le_refl _) (by decide)
        rw [HN.out, formV, HTX.out] at this; exact this
      by_cases hc0 : c = 0
      · rw [if_pos hc0]
        have hb0 : (c == 0) = true := by simpa using hc0
        have hb0' : (c != 0) = false := by simpa using hc0
        clear hc0
        have HV0 : Hid (Strs w (.slice a L.length cap) L) := hv0
        clear hv0
        go_enter Tryz.func37, Tryz.ntmps37
        go_wp2_with fail
        refine hrel.mono ?_
        rintro e w1 ⟨rfl, hb1⟩
        go_wp2_with fail
        refine (HW.out _).mono ?_
        rintro e w2 ⟨rfl, hb2⟩
        have hb12 : Below w.heap.size w w2 := hb1.trans (hb2.mono hb1.size)
        have hz := hb12.size
        have hb3 : Below w.heap.size w (w2.alloc (.cells #[.string t] 91)) := hb12.alloc hz _
        go_wp2_with fail
        refine (underRoots_any _ L t _ (HV0.out.below hb3 (Nat.le_refl _)) hl hts).mono ?_
        rw [HTD.out]
        rintro e w3 ⟨v, rfl, hr, hb4⟩
        go_wp2
        go_ret
        exact ⟨_, rfl, own_mono hr (by simp; omega), hb3.trans (hb4.mono (by simp; omega))⟩
      · rw [if_neg hc0]
        have hb0 : (c == 0) = false := by simpa using hc0
        have hb0' : (c != 0) = true := by simpa using hc0
        clear hc0 hv0
        go_enter Tryz.func37, Tryz.ntmps37
        go_wp2_with fail
        refine hrel.mono ?_
        rintro e w1 ⟨rfl, hb1⟩
        go_wp2_with fail
        refine (HW.out _).mono ?_
        rintro e w2 ⟨rfl, hb2⟩
        have hb12 : Below w.heap.size w w2 := hb1.trans (hb2.mono hb1.size)
        have hz := hb12.size
        go_wp2
        go_ret
        exact ⟨_, rfl, World.ownsRow_nil _ _ _ _, hb12.alloc hz _⟩

theorem Pl.tries_len (L : List (List UInt8)) (f s : List UInt8) : (Pl.tries L f s).length ≤ 8 := by
  unfold Pl.tries
  split
  · simp
  · split
    · split <;> simp
    · split
      · have := under_len L (Pl.nm [] s).2 L.length (Nat.le_refl _)
        rw [List.take_length] at this
        omega
      · simp

end Go.Proofs.YtimgafblpmjajaaGreat
namespace Go.Proofs.YtimgafblpmjajaaGreat

open Go.RowKit

set_option maxHeartbeats 1000000 in
set_option maxRecDepth 100000 in
theorem l1rooted_any (r n : ByteArray) (w : World) (hr : r.size ≤ 4194304) (hn : n.size ≤ 4194304) :
    Calls Tryz.prog 52 #[.string r, .string n] w fun e w' => e = .returned (namedV (Pl.nm [] (Pl.rooted r.data.toList n.data.toList))) ∧ Below w.heap.size w w' := by
  obtain ⟨c, x, hnm⟩ : ∃ c x, Pl.nm [] (Pl.rooted r.data.toList n.data.toList) = (c, x) := ⟨_, _, rfl⟩
  rw [hnm]
  by_cases h : r.data.toList = []
  · have hr0 : Pl.rooted r.data.toList n.data.toList = n.data.toList := by unfold Pl.rooted; rw [if_pos h]
    rw [hr0] at hnm
    have HN : Hid (Pl.nm [] n.data.toList = (c, x)) := hnm
    have he : r.toList.isEmpty = true := by rw [Go.ByteArray.toList_eq, h]; rfl
    clear hr0 h hnm
    go_enter Tryz.func52, Tryz.ntmps52
    go_wp2_with fail
    refine (specClean_all n _).mono ?_
    rw [HN.out]
    unfold namedV strV
    rintro e w1 ⟨rfl, hb⟩
    obtain ⟨hc, hf⟩ := bcell hb
    go_wp2
    exact bodyPost_ret (v := namedV (c, x)) (by simp [results, Tryz.results52, go_sem, namedV, strV, hc]) rfl ⟨rfl, below_set2 hb _ _⟩
  · have hr0 : Pl.rooted r.data.toList n.data.toList = (r ++ ⟨#[47]⟩ ++ n).data.toList := by
      unfold Pl.rooted; rw [if_neg h, ByteArray.data_append, ByteArray.data_append, Array.toList_append, Array.toList_append]
    rw [hr0] at hnm
    have HN : Hid (Pl.nm [] (r ++ ⟨#[47]⟩ ++ n).data.toList = (c, x)) := hnm
    have he : r.toList.isEmpty = false := by rw [Go.ByteArray.toList_eq]; simpa using h
    clear hr0 h hnm
    go_enter Tryz.func52, Tryz.ntmps52
    go_wp2_with fail
    refine (specClean_all _ _).mono ?_
    rw [HN.out]
    unfold namedV strV
    rintro e w1 ⟨rfl, hb⟩
    obtain ⟨hc, hf⟩ := bcell hb
    go_wp2
    exact bodyPost_ret (v := namedV (c, x)) (by simp [results, Tryz.results52, go_sem, namedV, strV, hc]) rfl ⟨rfl, below_set2 hb _ _⟩

set_option maxHeartbeats 1000000 in
set_option maxRecDepth 100000 in
theorem specTries_near (vr : Value) (L : List (List UInt8)) (f s : ByteArray) (w : World) (hv : Strs w vr L) (h8 : ¬ 8 < L.length) (hf : f.size ≤ 1048576) (hs : s.size ≤ 1048576) (hnear : Pl.near s.data.toList = true) :
    Calls Tryz.prog 36 #[vr, .string f, .string s] w fun e w' => ∃ v, e = .returned v ∧ w'.ownsRow w.heap.size 9 1 v (Pl.tries L f.data.toList s.data.toList).length ((Pl.tries L f.data.toList s.data.toList).map strV) ∧ Below w.heap.size w w' := by
  obtain ⟨a, cap, rfl, hcap, hmax, hcell⟩ := hv
  clear hcell
  obtain ⟨c, x, hn⟩ : ∃ c x, Pl.wn f.data.toList s.data.toList = (c, x) := ⟨_, _, rfl⟩
  have hT : Pl.tries L f.data.toList s.data.toList = if c = 0 then [x] else [] := by unfold Pl.tries; rw [if_neg h8, hnear, if_pos rfl, hn]
  have hrel := l1near_any s w hs
  rw [hnear] at hrel
  have HN : Hid (Pl.wn f.data.toList s.data.toList = (c, x)) := hn
  obtain ⟨t, htx⟩ : ∃ t : ByteArray, strV x = .string t := ⟨_, rfl⟩
  have HTX : Hid (strV x = .string t) := htx
  rw [hT]
  clear hT hn hnear htx
  by_cases hc0 : c = 0
  · rw [if_pos hc0]
    have hb0 : (c == 0) = true := by simpa using hc0
    have hb0' : (c != 0) = false := by simpa using hc0
    clear hc0
    go_enter Tryz.func36, Tryz.ntmps36
    go_wp2_with fail
    refine hrel.mono ?_
    rintro e w1 ⟨rfl, hb1⟩
    go_wp2_with fail
    refine (specWithin_any f s _ hf hs).mono ?_
    rw [HN.out]
    unfold namedV
    rw [HTX.out]
    rintro e w2 ⟨rfl, hb2⟩
    have hb12 : Below w.heap.size w w2 := hb1.trans (hb2.mono hb1.size)
    have hz := hb12.size
    go_wp2
    go_ret
    refine ⟨_, rfl, ?_, (hb12.alloc hz _).alloc (by simp; omega) _⟩
    have := lit_one (w2.alloc (.cells #[.int .i64 c, .string t] 118)) w.heap.size x (by simp; omega)
    rw [HTX.out] at this
    simpa [HTX.out] using this
  · rw [if_neg hc0]
    have hb0 : (c == 0) = false := by simpa using hc0
    have hb0' : (c != 0) = true := by simpa using hc0
    clear hc0
    go_enter Tryz.func36, Tryz.ntmps36
    go_wp2_with fail
    refine hrel.mono ?_
    rintro e w1 ⟨rfl, hb1⟩
    go_wp2_with fail
    refine (specWithin_any f s _ hf hs).mono ?_
    rw [HN.out]
    unfold namedV
    rw [HTX.out]
    rintro e w2 ⟨rfl, hb2⟩
    have hb12 : Below w.heap.size w w2 := hb1.trans (hb2.mono hb1.size)
    have hz := hb12.size
    go_wp2
    go_ret
    exact ⟨_, rfl, World.ownsRow_nil _ _ _ _, hb12.alloc hz _⟩

set_option maxHeartbeats 2000000 in
set_option maxRecDepth 100000 in
theorem specTries_far (vr : Value) (L : List (List UInt8)) (f s : ByteArray) (w : World) (hv : Strs w vr L) (hl : Pl.total L ≤ 1048576) (h8 : ¬ 8 < L.length) (hs : s.size ≤ 1048576) (hnear : Pl.near s.data.toList = false) :
    Calls Tryz.prog 36 #[vr, .string f, .string s] w fun e w' => ∃ v, e = .returned v ∧ w'.ownsRow w.heap.size 9 1 v (Pl.tries L f.data.toList s.data.toList).length ((Pl.tries L f.data.toList s.data.toList).map strV) ∧ Below w.heap.size w w' := by
  obtain ⟨i9, hi, hz0, hz1, hz2⟩ := info_parts Tryz.info9
  have HV0 : Hid (Strs w vr L) := hv
  obtain ⟨a, cap, rfl, hcap, hmax, hcell⟩ := hv
  have hll : L.length ≤ 1048576 := by unfold Pl.total at hl; omega
  have HLE : Hid (∀ k, (hk : k < L.length) → L[k].length ≤ 1048576) := fun k hk => by have := len_le_total L k hk; omega
  clear hcell hmax hl
  obtain ⟨c, x, hn⟩ : ∃ c x, Pl.nm [] s.data.toList = (c, x) := ⟨_, _, rfl⟩
  have hT : Pl.tries L f.data.toList s.data.toList = if c = 0 then Pl.under L x else [] := by unfold Pl.tries; rw [if_neg h8, hnear, if_neg (by decide), hn]
  have hx60 : x.length ≤ 60 := by have := Pl.nm_len [] s.data.toList; rw [hn] at this; exact this
  have hrel := l1near_any s w hs
  rw [hnear] at hrel
  have HN : Hid (Pl.nm [] s.data.toList = (c, x)) := hn
  obtain ⟨t, htx⟩ : ∃ t : ByteArray, t = ⟨x.toArray⟩ := ⟨_, rfl⟩
  have HTX : Hid (strV x = .string t) := by unfold Hid; rw [htx]; rfl
  have htd : t.data.toList = x := by rw [htx]
  have hts : t.size ≤ 60 := by rw [size_data, htd]; exact hx60
  have HTD : Hid (t.data.toList = x) := htd
  have HUL : Hid (∀ k, k ≤ L.length → (Pl.under (L.take k) x).length ≤ k) := fun k hk => under_len L _ k hk
  rw [hT]
  clear hT hn hnear htx htd
  by_cases hc0 : c = 0
  · rw [if_pos hc0]
    have hb0 : (c == 0) = true := by simpa using hc0
    have hb0' : (c != 0) = false := by simpa using hc0
    clear hc0
    go_enter Tryz.func36, Tryz.ntmps36
    go_wp2_with fail
    refine hrel.mono ?_
    rintro e w1 ⟨rfl, hb1⟩
    go_wp2_with fail
    refine (specClean_any s _ hs).mono ?_
    rw [HN.out]
    unfold namedV
    rw [HTX.out]
    rintro e w2 ⟨rfl, hb2⟩
    have hb12 : Below w.heap.size w w2 := hb1.trans (hb2.mono hb1.size)
    have hz := hb12.size
    have hb3 : Below w.heap.size w (w2.alloc (.cells #[.int .i64 c, .string t] 118)) := hb12.alloc hz _
    have hstr := HV0.out.below hb3 (Nat.le_refl _)
    obtain ⟨a', cap', hve, hcap', _, hcell⟩ := hstr
    cases hve
    have HC : Hid (∀ k, (hk : k < L.length) → ∃ b o, a = some ⟨b, o, none⟩ ∧ b < (w2.alloc (.cells #[.int .i64 c, .string t] 118)).heap.size ∧ (w2.alloc (.cells #[.int .i64 c, .string t] 118)).cell? ⟨b, o + k, none⟩ = some (strV L[k])) := hcell
    have hnc : (w2.alloc (.cells #[.int .i64 c, .string t] 118)).cell? ⟨w2.heap.size, 1, none⟩ = some (.string t) := by simp
    clear hcell
    go_wp2
    obtain ⟨W0, hW0⟩ : ∃ W0, W0 = w2.alloc (.cells #[.int .i64 c, .string t] 118) := ⟨_, rfl⟩
    have hN0 : w2.heap.size < W0.heap.size := by rw [hW0]; simp
    rw [← hW0] at HC hnc hb3 ⊢
    have HW0 : Hid (W0 = w2.alloc (.cells #[.int .i64 c, .string t] 118)) := hW0
    clear hW0
    go_loopw [9, 37] (fun v i wr => ∃ k : Nat, k ≤ L.length ∧ i = .int .i64 k ∧ wr.ownsRow W0.heap.size 9 1 v (Pl.under (L.take k) x).length ((Pl.under (L.take k) x).map strV) ∧ Below W0.heap.size W0 wr) (fun _ i _ => L.length - (intOf i).toNat)
    case atStart => exact ⟨0, Nat.zero_le _, rfl, World.ownsRow_nil _ _ _ _, Below.refl _ _⟩
    case round =>
      obtain ⟨k, hk, rfl, ht, hB⟩ := hrel
      have hsz := hB.size
      by_cases hlt : k < L.length
      · obtain ⟨b, o, rfl, hb, hc⟩ := HC.out k hlt
        obtain ⟨q, hq⟩ : ∃ q : ByteArray, q = ⟨L[k].toArray⟩ := ⟨_, rfl⟩
        have hqd : q.data.toList = L[k] := by rw [hq]
        have hqs : q.size ≤ 4194304 := by rw [size_data, hqd]; have := HLE.out k hlt; omega
        have hcq : wr.cell? ⟨b, o + k, none⟩ = some (.string q) := by rw [hB.cell (p := ⟨b, o + k, none⟩) hb, hc, hq]; rfl
        have hnc2 : wr.cell? ⟨w2.heap.size, 1, none⟩ = some (.string t) := (hB.cell (p := ⟨w2.heap.size, 1, none⟩) hN0).trans hnc
        have hroot := l1rooted_any q t wr hqs (by omega)
        rw [HTD.out] at hroot
        obtain ⟨c2, x2, hn'⟩ : ∃ c2 x2, Pl.nm [] (Pl.rooted q.data.toList x) = (c2, x2) := ⟨_, _, rfl⟩
        have hU := under_succ L x k hlt
        rw [← hqd, hn'] at hU
        have hul := HUL.out k (by omega)
        obtain ⟨T, hT⟩ : ∃ T, T = Pl.under (L.take k) x := ⟨_, rfl⟩
        rw [← hT] at ht hU hul
        obtain ⟨t2, ht2⟩ : ∃ t2 : ByteArray, t2 = ⟨x2.toArray⟩ := ⟨_, rfl⟩
        have ht2d : t2.data.toList = x2 := by rw [ht2]
        have HT2D : Hid (t2.data.toList = x2) := ht2d
        rw [hn', namedV, show strV x2 = .string t2 by rw [ht2]; rfl] at hroot
        have HU : Hid (Pl.under (L.take (k + 1)) x = Pl.addTry T (c2, x2)) := hU
        obtain ⟨at', capt, rfl, hcapt, _, _⟩ := row_shape ht
        clear hU hT hn' hq hqd hc ht2 ht2d
        by_cases hc2 : c2 = 0
        · have hd0 : (c2 == 0) = true := by simpa using hc2
          have hd0' : (c2 != 0) = false := by simpa using hc2
          have HA : Hid (x2 ∈ T → Pl.under (L.take (k + 1)) x = T) := fun h => by rw [HU.out]; unfold Pl.addTry; rw [if_pos hc2, if_pos h]
          have HA2 : Hid (x2 ∉ T → Pl.under (L.take (k + 1)) x = T ++ [x2]) := fun h => by rw [HU.out]; unfold Pl.addTry; rw [if_pos hc2, if_neg h]
          clear hc2
          go_wp2_with fail
          refine hroot.mono ?_
          rintro e w3 ⟨rfl, hb3'⟩
          have hz3 := hb3'.size
          have ht3 := (own_below ht hb3' (Nat.le_refl _)).alloc (.cells #[.int .i64 c2, .string t2] 118)
          have hB3 : Below W0.heap.size W0 (w3.alloc (.cells #[.int .i64 c2, .string t2] 118)) := (hB.trans (hb3'.mono hsz)).alloc (by omega) _
          have hxc : (w3.alloc (.cells #[.int .i64 c2, .string t2] 118)).cell? ⟨w3.heap.size, 1, none⟩ = some (.string t2) := by simp
          obtain ⟨_, _, hvt, _, _, hcellt⟩ := row_shape ht3
          cases hvt
          have HCT : Hid (∀ j, (hj : j < T.length) → ∃ g, at' = some ⟨g, 0, none⟩ ∧ W0.heap.size ≤ g ∧ g < (w3.alloc (.cells #[.int .i64 c2, .string t2] 118)).heap.size ∧ (w3.alloc (.cells #[.int .i64 c2, .string t2] 118)).cell? ⟨g, j, none⟩ = some (strV T[j])) := hcellt
          clear hcellt ht hB
          go_wp2
          obtain ⟨W3, hW3⟩ : ∃ W3, W3 = w3.alloc (.cells #[.int .i64 c2, .string t2] 118) := ⟨_, rfl⟩
          rw [← hW3] at HCT hxc ht3 hB3 ⊢
          clear hW3
          go_loop [13, 50] (fun m i => ∃ (j : Nat) (d : Bool), j ≤ T.length ∧ i = .int .i64 j ∧ m = .bool d ∧ Hid (d = decide (x2 ∈ T.take j))) (fun _ i => T.length - (intOf i).toNat)
          case atStart => exact ⟨0, false, Nat.zero_le _, rfl, rfl, by unfold Hid; simp⟩
          case round =>
            obtain ⟨j, d, hj, rfl, rfl, hd⟩ := hrel
            by_cases hjt : j < T.length
            · obtain ⟨g, rfl, _, _, hcg⟩ := HCT.out j hjt
              obtain ⟨y, hy⟩ : ∃ y : ByteArray, y = ⟨T[j].toArray⟩ := ⟨_, rfl⟩
              have hyd : y.data.toList = T[j] := by rw [hy]
              have hcy : W3.cell? ⟨g, j, none⟩ = some (.string y) := by rw [hcg, hy]; rfl
              have HS : Hid (decide (x2 ∈ T.take (j + 1)) = (d || (y.toList == t2.toList))) := by
                unfold Hid
                rw [hd.out, List.take_succ_eq_append_getElem hjt, Go.ByteArray.toList_eq, Go.ByteArray.toList_eq, hyd, HT2D.out, Bool.eq_iff_iff]
                simp only [decide_eq_true_eq, Bool.or_eq_true, beq_iff_eq, List.mem_append, List.mem_singleton]
                exact or_congr Iff.rfl eq_comm
              clear hcg hy hyd
              cases d with
              | true =>
                rw [Bool.true_or] at HS
                go_wp2
                go_round
                case rel => exact ⟨j + 1, true, by omega, by go_num, rfl, HS.out.symm⟩
                case measure => simp [intOf]; omega
              | false =>
                rw [Bool.false_or] at HS
                go_wp2
                go_round
                case rel => exact ⟨j + 1, _, by omega, by go_num, rfl, HS.out.symm⟩
                case measure => simp [intOf]; omega
            · have hd2 : d = decide (x2 ∈ T) := by rw [hd.out, List.take_of_length_le (by omega)]
              cases d with
              | true =>
                have HF : Hid (Pl.under (L.take (k + 1)) x = T) := HA.out (by simpa using hd2.symm)
                clear hd2 hd
                go_wp2
                go_roundw
                case rel => exact ⟨k + 1, by omega, by go_num, by rw [HF.out]; exact ht3, hB3⟩
                case measure => simp [intOf]; omega
              | false =>
                have HF : Hid (Pl.under (L.take (k + 1)) x = T ++ [x2]) := HA2.out (by simpa using hd2.symm)
                have HTX2 : Hid (Value.string t2 = strV x2) := by unfold Hid; rw [← strV_data, HT2D.out]
                have hz4 := hB3.size
                clear hd2 hd
                go_wp2_with (at_builtin; refine wpList_append_own _ rfl _ _ 23 rfl W0.heap.size 9 i9 (.string ByteArray.empty) 1 16 Tryz.underlying23 hi hz0 hz1 hz2 rfl (by decide) _ _ _ rfl (ht3.alloc _) ⟨_, 0, none⟩ 1 1 [.string t2] rfl rfl (cell_one_new _ _ _) (by simp [Value.oneCell']) (by unfold maxLen; omega) (by omega) (by simp; omega) ?_; intro v' w4 hown' hgrow _; have hb4 := below_append hB3 hz4 ht3 hgrow; have ho := row_snoc (p := x2) HTX2.out hown'; clear hown' hgrow)
                go_roundw
                case rel => exact ⟨k + 1, by omega, by go_num, by rw [HF.out]; exact ho, hb4⟩
                case measure => simp [intOf]; omega
        · have hd0 : (c2 == 0) = false := by simpa using hc2
          have hd0' : (c2 != 0) = true := by simpa using hc2
          have HF : Hid (Pl.under (L.take (k + 1)) x = T) := by unfold Hid; rw [HU.out]; unfold Pl.addTry; rw [if_neg hc2]
          clear hc2
          go_wp2_with fail
          refine hroot.mono ?_
          rintro e w3 ⟨rfl, hb3'⟩
          have hz3 := hb3'.size
          go_wp2
          go_roundw
          case rel => exact ⟨k + 1, by omega, by go_num, by rw [HF.out]; exact (own_below ht hb3' (Nat.le_refl _)).alloc _, (hB.trans (hb3'.mono hsz)).alloc (by omega) _⟩
          case measure => simp [intOf]; omega
      · have hkL : L.take k = L := List.take_of_length_le (by omega)
        rw [hkL] at ht
        clear hkL
        go_wp2
        go_ret
        exact ⟨_, rfl, own_mono ht hb3.size, hb3.trans (hB.mono hb3.size)⟩
  · rw [if_neg hc0]
    have hb0 : (c == 0) = false := by simpa using hc0
    have hb0' : (c != 0) = true := by simpa using hc0
    clear hc0
    go_enter Tryz.func36, Tryz.ntmps36
    go_wp2_with fail
    refine hrel.mono ?_
    rintro e w1 ⟨rfl, hb1⟩
    go_wp2_with fail
    refine (specClean_any s _ hs).mono ?_
    rw [HN.out]
    unfold namedV
    rw [HTX.out]
    rintro e w2 ⟨rfl, hb2⟩
    have hb12 : Below w.heap.size w w2 := hb1.trans (hb2.mono hb1.size)
    have hz := hb12.size
    go_wp2
    go_ret
    exact ⟨_, rfl, World.ownsRow_nil _ _ _ _, hb12.alloc hz _⟩

set_option maxHeartbeats 1000000 in
set_option maxRecDepth 100000 in
theorem specTries_any (vr : Value) (L : List (List UInt8)) (f s : ByteArray) (w : World) (hv : Strs w vr L) (hl : Pl.total L ≤ 1048576) (hf : f.size ≤ 1048576) (hs : s.size ≤ 1048576) :
    Calls Tryz.prog 36 #[vr, .string f, .string s] w fun e w' => ∃ v, e = .returned v ∧ w'.ownsRow w.heap.size 9 1 v (Pl.tries L f.data.toList s.data.toList).length ((Pl.tries L f.data.toList s.data.toList).map strV) ∧ Below w.heap.size w w' := by
  by_cases h8 : 8 < L.length
  · have hT : Pl.tries L f.data.toList s.data.toList = [] := by unfold Pl.tries; rw [if_pos h8]
    rw [hT]
    obtain ⟨a, cap, rfl, hcap, hmax, hcell⟩ := hv
    clear hT hcell
    go_enter Tryz.func36, Tryz.ntmps36
    go_wp2
    go_ret
    exact ⟨_, rfl, World.ownsRow_nil _ _ _ _, Below.refl _ _⟩
  · cases hnear : Pl.near s.data.toList with
    | true => exact specTries_near vr L f s w hv h8 hf hs hnear
    | false => exact specTries_far vr L f s w hv hl h8 hs hnear

end Go.Proofs.YtimgafblpmjajaaGreat
namespace Go.Proofs.YtimgafblpmjajaaGreat

open Go.RowKit

theorem tries_len (L : List (List UInt8)) (f s : List UInt8) : (Pl.tries L f s).length ≤ 1048576 := by
  unfold Pl.tries
  split
  · simp
  · rename_i h8
    split
    · split <;> simp
    · split
      · have h := under_len L (Pl.nm [] s).2 L.length (Nat.le_refl _)
        rw [List.take_of_length_le (Nat.le_refl _)] at h; omega
      · simp

theorem apart_of_lt {w w' : World} {b1 b2 : Nat} {e1 e2 : TypeId} {s1 s2 n1 n2 : Nat} {v1 v2 : Value} {x1 x2 : List Value} (h1 : w.ownsRow b1 e1 s1 v1 n1 x1) (h2 : w'.ownsRow b2 e2 s2 v2 n2 x2) (hle : w.heap.size ≤ b2) : Apart v2 v1 ∧ Apart v1 v2 := by
  have key : ∀ g, v1.ownBlock = some g → v2.ownBlock = some g → False := fun g e1 e2 => by
    have a1 := (h1.lt g e1).2
    have a2 := (h2.lt g e2).1
    omega
  constructor
  · cases hv : v1.ownBlock with
    | none => exact .inl hv
    | some g => exact .inr (fun e => key g hv (by rw [← e]; exact hv))
  · cases hv : v2.ownBlock with
    | none => exact .inl hv
    | some g => exact .inr (fun e => key g (by rw [← e]; exact hv) hv)

theorem own_drewN {w : World} {base : Nat} {e : TypeId} {size : Nat} {v : Value} {n : Nat} {xs : List Value} (h : w.ownsRow base e size v n xs) (m : Nat) : (w.drewN m).ownsRow base e size v n xs := h

end Go.Proofs.YtimgafblpmjajaaGreat
