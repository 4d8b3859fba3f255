
import Derived.Test.YtimgafblpmjajabGreatStrs

import Derived.Test.YtimgafblpmjajabGreatSpec

namespace Go.Proofs.YtimgafblpmjajabGreat

open Go.RowKit

/-- A line, a module, a world, as plain data. -/
structure Ln where
  op : Int
  name : List UInt8
  num : Int
  skip : Int
structure Md where
  name : List UInt8
  lines : List Ln
structure Wd where
  roots : List (List UInt8)
  mods : List Md
  faults : List Int

def i64V (x : Int) : Value := .int .i64 x

/-- A slice of numbers that can be read. -/
def Nums (w : World) (v : Value) (L : List Int) : Prop :=
  ∃ a cap, v = .slice a L.length cap ∧ L.length ≤ cap ∧ cap ≤ maxLen ∧ ∀ k, (hk : k < L.length) → ∃ b o, a = some ⟨b, o, none⟩ ∧ b < w.heap.size ∧ w.cell? ⟨b, o + k, none⟩ = some (.int .i64 L[k])

/-- A slice of lines that can be read. -/
def Lns (w : World) (v : Value) (L : List Ln) : Prop :=
  ∃ a cap, v = .slice a L.length cap ∧ L.length ≤ cap ∧ cap ≤ maxLen ∧ ∀ k, (hk : k < L.length) → ∃ b o, a = some ⟨b, o, none⟩ ∧ b < w.heap.size ∧
    w.cell? ⟨b, o + k * 4, none⟩ = some (.int .i64 L[k].op) ∧ w.cell? ⟨b, o + k * 4 + 1, none⟩ = some (strV L[k].name) ∧ w.cell? ⟨b, o + k * 4 + 2, none⟩ = some (.int .i64 L[k].num) ∧ w.cell? ⟨b, o + k * 4 + 3, none⟩ = some (.int .i64 L[k].skip)

/-- A slice of modules that can be read. -/
def Mds (w : World) (v : Value) (M : List Md) : Prop :=
  ∃ a cap, v = .slice a M.length cap ∧ M.length ≤ cap ∧ cap ≤ maxLen ∧ ∀ k, (hk : k < M.length) → ∃ b o s, a = some ⟨b, o, none⟩ ∧ b < w.heap.size ∧
    w.cell? ⟨b, o + k * 2, none⟩ = some (strV M[k].name) ∧ w.cell? ⟨b, o + k * 2 + 1, none⟩ = some s ∧ Lns w s M[k].lines

/-- A world that can be read. -/
def Wds (w : World) (v : Value) (D : Wd) : Prop :=
  ∃ r m f, v = .agg #[r, m, f] ∧ Strs w r D.roots ∧ Mds w m D.mods ∧ Nums w f D.faults

theorem Nums.below {w w' : World} {B : Nat} {v : Value} {L : List Int} (h : Nums w v L) (hb : Below B w w') (hB : w.heap.size ≤ B) : Nums w' v L := by
  obtain ⟨a, cap, hv, hcap, hmax, hc⟩ := h
  exact ⟨a, cap, hv, hcap, hmax, fun k hk => by
    obtain ⟨b, o, ha, hlt, hcell⟩ := hc k hk
    exact ⟨b, o, ha, Nat.lt_of_lt_of_le hlt hb.size, (hb.cell (p := ⟨b, o + k, none⟩) (Nat.lt_of_lt_of_le hlt hB)).trans hcell⟩⟩
theorem Lns.below {w w' : World} {B : Nat} {v : Value} {L : List Ln} (h : Lns w v L) (hb : Below B w w') (hB : w.heap.size ≤ B) : Lns w' v L := by
  obtain ⟨a, cap, hv, hcap, hmax, hc⟩ := h
  exact ⟨a, cap, hv, hcap, hmax, fun k hk => by
    obtain ⟨b, o, ha, hlt, h0, h1, h2, h3⟩ := hc k hk
    have hl := Nat.lt_of_lt_of_le hlt hB
    exact ⟨b, o, ha, Nat.lt_of_lt_of_le hlt hb.size, (hb.cell (p := ⟨b, o + k * 4, none⟩) hl).trans h0, (hb.cell (p := ⟨b, o + k * 4 + 1, none⟩) hl).trans h1, (hb.cell (p := ⟨b, o + k * 4 + 2, none⟩) hl).trans h2, (hb.cell (p := ⟨b, o + k * 4 + 3, none⟩) hl).trans h3⟩⟩
theorem Mds.below {w w' : World} {B : Nat} {v : Value} {L : List Md} (h : Mds w v L) (hb : Below B w w') (hB : w.heap.size ≤ B) : Mds w' v L := by
  obtain ⟨a, cap, hv, hcap, hmax, hc⟩ := h
  exact ⟨a, cap, hv, hcap, hmax, fun k hk => by
    obtain ⟨b, o, s, ha, hlt, h0, h1, h2⟩ := hc k hk
    have hl := Nat.lt_of_lt_of_le hlt hB
    exact ⟨b, o, s, ha, Nat.lt_of_lt_of_le hlt hb.size, (hb.cell (p := ⟨b, o + k * 2, none⟩) hl).trans h0, (hb.cell (p := ⟨b, o + k * 2 + 1, none⟩) hl).trans h1, h2.below hb hB⟩⟩
theorem Wds.below {w w' : World} {B : Nat} {v : Value} {D : Wd} (h : Wds w v D) (hb : Below B w w') (hB : w.heap.size ≤ B) : Wds w' v D := by
  obtain ⟨r, m, f, hv, h1, h2, h3⟩ := h
  exact ⟨r, m, f, hv, h1.below hb hB, h2.below hb hB, h3.below hb hB⟩

/-- How much a thing takes. -/
def Ln.t (l : Ln) : Nat := l.name.length
def lnsT (L : List Ln) : Nat := L.length + (L.map Ln.t).sum
def Md.t (m : Md) : Nat := m.name.length + lnsT m.lines
def mdsT (M : List Md) : Nat := M.length + (M.map Md.t).sum
def Wd.t (D : Wd) : Nat := Pl.total D.roots + mdsT D.mods + D.faults.length
def Ln.ok (l : Ln) : Prop := l.name.length ≤ maxLen
def Md.ok (m : Md) : Prop := m.name.length ≤ maxLen ∧ ∀ l ∈ m.lines, l.ok
def Wd.ok (D : Wd) : Prop := (∀ l ∈ D.roots, l.length ≤ maxLen) ∧ ∀ m ∈ D.mods, m.ok
/-- What is left. -/
def leftOf (t left : Nat) : Int := if t ≤ left then (left : Int) - t else -1

/-- A line as a value. -/
def lnV (l : Ln) : Value := .agg #[.int .i64 l.op, strV l.name, .int .i64 l.num, .int .i64 l.skip]

set_option maxHeartbeats 1000000 in
set_option maxRecDepth 100000 in
theorem szLine_any (l : Ln) (left : Nat) (w : World) (hl : l.ok) (hleft : left ≤ 1048576) :
    Calls Tryz.prog 83 #[lnV l, .int .i64 left] w fun e w' => e = .returned (.int .i64 (leftOf l.t left)) ∧ Below w.heap.size w w' := by
  obtain ⟨s, hs⟩ : ∃ s : ByteArray, s = ⟨l.name.toArray⟩ := ⟨_, rfl⟩
  have hsz : s.size = l.name.length := by rw [hs]; simp [ByteArray.size]
  have hlv : lnV l = .agg #[.int .i64 l.op, .string s, .int .i64 l.num, .int .i64 l.skip] := by rw [hs]; rfl
  unfold Ln.ok maxLen at hl
  rw [hlv]
  obtain ⟨r, hr⟩ : ∃ r, r = leftOf l.t left := ⟨_, rfl⟩
  rw [← hr]
  rw [leftOf, Ln.t, ← hsz] at hr
  rw [← hsz] at hl
  clear hlv hs hsz
  by_cases hle : s.size ≤ left
  · rw [if_pos hle] at hr
    have HR : Hid (r = left - s.size) := hr
    clear hr
    go_enter Tryz.func83, Tryz.ntmps83
    go_wp2
    go_ret
    exact ⟨ret_int HR.out.symm, (Below.refl _ _).alloc (Nat.le_refl _) _⟩
  · rw [if_neg hle] at hr
    subst hr
    go_enter Tryz.func83, Tryz.ntmps83
    go_wp2
    go_ret
    exact ⟨rfl, (Below.refl _ _).alloc (Nat.le_refl _) _⟩

theorem sum_take1 (L : List Nat) (k : Nat) (hk : k < L.length) : (L.take (k + 1)).sum = (L.take k).sum + L[k] := by
  rw [List.take_succ_eq_append_getElem hk, List.sum_append]; simp
theorem sum_take_le (L : List Nat) (k : Nat) : (L.take k).sum ≤ L.sum := by
  conv => rhs; rw [← List.take_append_drop k L, List.sum_append]
  omega

/-- A loop that takes away: what it leaves after k rounds. -/
theorem leftOf_step {t left : Nat} (h : t ≤ left) : leftOf t left = ((left - t : Nat) : Int) := by
  unfold leftOf; rw [if_pos h]; omega

set_option maxHeartbeats 1000000 in
set_option maxRecDepth 100000 in
theorem szLineS_any (v : Value) (L : List Ln) (left : Nat) (w : World) (h : Lns w v L) (hL : ∀ l ∈ L, l.ok) (hleft : left ≤ 1048576) :
    Calls Tryz.prog 61 #[v, .int .i64 left] w fun e w' => e = .returned (.int .i64 (leftOf (lnsT L) left)) ∧ Below w.heap.size w w' := by
  obtain ⟨a, cap, rfl, hcap, hmax, hc⟩ := h
  unfold maxLen at hmax
  have hlm : L.length ≤ 9223372036854775807 := by omega
  have HC : Hid (∀ k, (hk : k < L.length) → ∃ b o, a = some ⟨b, o, none⟩ ∧ b < w.heap.size ∧
    w.cell? ⟨b, o + k * 4, none⟩ = some (.int .i64 L[k].op) ∧ w.cell? ⟨b, o + k * 4 + 1, none⟩ = some (strV L[k].name) ∧ w.cell? ⟨b, o + k * 4 + 2, none⟩ = some (.int .i64 L[k].num) ∧ w.cell? ⟨b, o + k * 4 + 3, none⟩ = some (.int .i64 L[k].skip)) := hc
  have HL : Hid (∀ l ∈ L, l.ok) := hL
  clear hc hL hmax hcap
  obtain ⟨r, hr⟩ : ∃ r, r = leftOf (lnsT L) left := ⟨_, rfl⟩
  rw [← hr]
  have HR : Hid (r = leftOf (lnsT L) left) := hr
  clear hr
  by_cases hlen : left < L.length
  · have hr : r = -1 := by rw [HR.out, leftOf, if_neg (by unfold lnsT; omega)]
    rw [hr]
    clear hr HR HC HL
    go_enter Tryz.func61, Tryz.ntmps61
    go_wp2
    go_ret
    exact ⟨rfl, Below.refl _ _⟩
  · go_enter Tryz.func61, Tryz.ntmps61
    go_wp2
    go_loopw [1, 5] (fun l i wr => ∃ k q : Nat, k ≤ L.length ∧ i = .int .i64 k ∧ l = .int .i64 q ∧ q + L.length + ((L.map Ln.t).take k).sum = left ∧ Below w.heap.size w wr) (fun _ i _ => L.length - (intOf i).toNat)
    case atStart => exact ⟨0, left - L.length, Nat.zero_le _, rfl, by congr 1; omega, by simp; omega, Below.refl _ _⟩
    case round =>
      obtain ⟨k, q, hk, rfl, rfl, hq, hB⟩ := hrel
      by_cases hlt : k < L.length
      · obtain ⟨b, o, rfl, hb, h0, h1, h2, h3⟩ := HC.out k hlt
        have c0 : wr.cell? ⟨b, o + k * 4, none⟩ = some (.int .i64 L[k].op) := (hB.cell (p := ⟨b, o + k * 4, none⟩) hb).trans h0
        have c1 : wr.cell? ⟨b, o + k * 4 + 1, none⟩ = some (strV L[k].name) := (hB.cell (p := ⟨b, o + k * 4 + 1, none⟩) hb).trans h1
        have c2 : wr.cell? ⟨b, o + k * 4 + 2, none⟩ = some (.int .i64 L[k].num) := (hB.cell (p := ⟨b, o + k * 4 + 2, none⟩) hb).trans h2
        have c3 : wr.cell? ⟨b, o + k * 4 + 3, none⟩ = some (.int .i64 L[k].skip) := (hB.cell (p := ⟨b, o + k * 4 + 3, none⟩) hb).trans h3
        clear h0 h1 h2 h3
        have hok := HL.out _ (List.getElem_mem hlt)
        have hs1 := sum_take1 (L.map Ln.t) k (by rw [List.length_map]; exact hlt)
        rw [List.getElem_map] at hs1
        have hs2 := sum_take_le (L.map Ln.t) (k + 1)
        go_wp2_with fail
        refine (szLine_any L[k] q wr hok (by omega)).mono ?_
        by_cases hneg : L[k].t ≤ q
        · have hq2 : (q - L[k].t) + L.length + ((L.map Ln.t).take (k + 1)).sum = left := by omega
          have HQ : Hid ((q - L[k].t) + L.length + ((L.map Ln.t).take (k + 1)).sum = left) := hq2
          rw [leftOf_step hneg]
          obtain ⟨q', hq'⟩ : ∃ q' : Nat, q' = q - L[k].t := ⟨_, rfl⟩
          rw [← hq']
          rw [← hq'] at HQ
          have hqb : q' ≤ 1048576 := by omega
          clear hq2 hs1 hs2 hq hq'
          rintro e w1 ⟨rfl, hb1⟩
          go_wp2
          go_roundw
          case rel => exact ⟨k + 1, q', by omega, by go_num, by go_num, HQ.out, hB.trans (hb1.mono hB.size)⟩
          case measure => simp [intOf]; omega
        · have hrn : r = -1 := by rw [HR.out, leftOf, if_neg (by unfold lnsT; omega)]
          have HRN : Hid (r = -1) := hrn
          have hl1 : leftOf L[k].t q = -1 := by rw [leftOf, if_neg hneg]
          rw [hl1]
          clear hrn hl1 hs1 hs2 hq
          rintro e w1 ⟨rfl, hb1⟩
          go_wp2
          go_ret
          exact ⟨ret_int HRN.out.symm, hB.trans (hb1.mono hB.size)⟩
      · have hre : (q : Int) = r := by
          rw [List.take_of_length_le (by rw [List.length_map]; omega)] at hq
          rw [HR.out, leftOf, if_pos (by unfold lnsT; omega)]; unfold lnsT; omega
        have HRE : Hid ((q : Int) = r) := hre
        clear hre hq
        go_wp2
        go_ret
        exact ⟨ret_int HRE.out, hB⟩

/-- A module as a value. -/
def mdV (n : List UInt8) (s : Value) : Value := .agg #[strV n, s]

set_option maxHeartbeats 1000000 in
set_option maxRecDepth 100000 in
theorem szModule_any (m : Md) (s : Value) (left : Nat) (w : World) (h : Lns w s m.lines) (hm : m.ok) (hleft : left ≤ 1048576) :
    Calls Tryz.prog 45 #[mdV m.name s, .int .i64 left] w fun e w' => e = .returned (.int .i64 (leftOf m.t left)) ∧ Below w.heap.size w w' := by
  obtain ⟨n, hn⟩ : ∃ n : ByteArray, n = ⟨m.name.toArray⟩ := ⟨_, rfl⟩
  have hsz : n.size = m.name.length := by rw [hn]; simp [ByteArray.size]
  have hlv : mdV m.name s = .agg #[.string n, s] := by rw [hn]; rfl
  have hnl := hm.1
  unfold maxLen at hnl
  rw [hlv]
  obtain ⟨r, hr⟩ : ∃ r, r = leftOf m.t left := ⟨_, rfl⟩
  rw [← hr]
  rw [Md.t, ← hsz] at hr
  rw [← hsz] at hnl
  clear hlv hn hsz
  have HR : Hid (r = leftOf (n.size + lnsT m.lines) left) := hr
  have h1 : Lns (w.alloc (.cells #[.string n, s] 86)) s m.lines := h.below ((Below.refl _ _).alloc (Nat.le_refl _) _) (Nat.le_refl _)
  have h0 : ∃ a cap, s = .slice a m.lines.length cap := by obtain ⟨a, cap, rfl, _⟩ := h; exact ⟨a, cap, rfl⟩
  obtain ⟨a, cap, rfl⟩ := h0
  clear hr h
  by_cases hle : n.size ≤ left
  · go_enter Tryz.func45, Tryz.ntmps45
    go_wp2_with fail
    have e1 : ((left : Int) - n.size) = ((left - n.size : Nat) : Int) := by omega
    obtain ⟨q, hq⟩ : ∃ q : Nat, q = left - n.size := ⟨_, rfl⟩
    rw [← hq] at e1
    rw [e1]
    refine (szLineS_any _ m.lines q _ h1 hm.2 (by omega)).mono ?_
    by_cases hneg : lnsT m.lines ≤ q
    · rw [leftOf_step hneg]
      have hre : r = ((q - lnsT m.lines : Nat) : Int) := by rw [HR.out, leftOf, if_pos (by omega)]; omega
      obtain ⟨q', hq'⟩ : ∃ q' : Nat, q' = q - lnsT m.lines := ⟨_, rfl⟩
      rw [← hq'] at hre
      rw [← hq']
      have HRE : Hid (r = q') := hre
      have hqb : q' ≤ 1048576 := by omega
      clear hre hq hq' e1
      rintro e w1 ⟨rfl, hb1⟩
      go_wp2
      go_ret
      exact ⟨ret_int HRE.out.symm, below_one hb1⟩
    · have hre : r = -1 := by rw [HR.out, leftOf, if_neg (by omega)]
      have hl1 : leftOf (lnsT m.lines) q = -1 := by rw [leftOf, if_neg hneg]
      rw [hl1]
      have HRE : Hid (r = -1) := hre
      clear hre hq e1 hl1
      rintro e w1 ⟨rfl, hb1⟩
      go_wp2
      go_ret
      exact ⟨ret_int HRE.out.symm, below_one hb1⟩
  · have hre : r = -1 := by rw [HR.out, leftOf, if_neg (by omega)]
    rw [hre]
    clear hre HR h1 hm
    go_enter Tryz.func45, Tryz.ntmps45
    go_wp2
    go_ret
    exact ⟨rfl, (Below.refl _ _).alloc (Nat.le_refl _) _⟩

set_option maxHeartbeats 1000000 in
set_option maxRecDepth 100000 in
theorem szModuleS_any (v : Value) (L : List Md) (left : Nat) (w : World) (h : Mds w v L) (hL : ∀ l ∈ L, l.ok) (hleft : left ≤ 1048576) :
    Calls Tryz.prog 23 #[v, .int .i64 left] w fun e w' => e = .returned (.int .i64 (leftOf (mdsT L) left)) ∧ Below w.heap.size w w' := by
  obtain ⟨a, cap, rfl, hcap, hmax, hc⟩ := h
  unfold maxLen at hmax
  have hlm : L.length ≤ 9223372036854775807 := by omega
  have HC : Hid (∀ k, (hk : k < L.length) → ∃ b o s, a = some ⟨b, o, none⟩ ∧ b < w.heap.size ∧
    w.cell? ⟨b, o + k * 2, none⟩ = some (strV L[k].name) ∧ w.cell? ⟨b, o + k * 2 + 1, none⟩ = some s ∧ Lns w s L[k].lines) := hc
  have HL : Hid (∀ l ∈ L, l.ok) := hL
  clear hc hL hmax hcap
  obtain ⟨r, hr⟩ : ∃ r, r = leftOf (mdsT L) left := ⟨_, rfl⟩
  rw [← hr]
  have HR : Hid (r = leftOf (mdsT L) left) := hr
  clear hr
  by_cases hlen : left < L.length
  · have hr : r = -1 := by rw [HR.out, leftOf, if_neg (by unfold mdsT; omega)]
    rw [hr]
    clear hr HR HC HL
    go_enter Tryz.func23, Tryz.ntmps23
    go_wp2
    go_ret
    exact ⟨rfl, Below.refl _ _⟩
  · go_enter Tryz.func23, Tryz.ntmps23
    go_wp2
    go_loopw [1, 5] (fun l i wr => ∃ k q : Nat, k ≤ L.length ∧ i = .int .i64 k ∧ l = .int .i64 q ∧ q + L.length + ((L.map Md.t).take k).sum = left ∧ Below w.heap.size w wr) (fun _ i _ => L.length - (intOf i).toNat)
    case atStart => exact ⟨0, left - L.length, Nat.zero_le _, rfl, by congr 1; omega, by simp; omega, Below.refl _ _⟩
    case round =>
      obtain ⟨k, q, hk, rfl, rfl, hq, hB⟩ := hrel
      by_cases hlt : k < L.length
      · obtain ⟨b, o, s, rfl, hb, h0, h1, h2⟩ := HC.out k hlt
        have c0 : wr.cell? ⟨b, o + k * 2, none⟩ = some (strV L[k].name) := (hB.cell (p := ⟨b, o + k * 2, none⟩) hb).trans h0
        have c1 : wr.cell? ⟨b, o + k * 2 + 1, none⟩ = some s := (hB.cell (p := ⟨b, o + k * 2 + 1, none⟩) hb).trans h1
        have h3 := h2.below hB (Nat.le_refl _)
        clear h0 h1 h2
        have hok := HL.out _ (List.getElem_mem hlt)
        have hs1 := sum_take1 (L.map Md.t) k (by rw [List.length_map]; exact hlt)
        rw [List.getElem_map] at hs1
        have hs2 := sum_take_le (L.map Md.t) (k + 1)
        go_wp2_with fail
        refine (szModule_any L[k] s q wr h3 hok (by omega)).mono ?_
        by_cases hneg : L[k].t ≤ q
        · have hq2 : (q - L[k].t) + L.length + ((L.map Md.t).take (k + 1)).sum = left := by omega
          have HQ : Hid ((q - L[k].t) + L.length + ((L.map Md.t).take (k + 1)).sum = left) := hq2
          rw [leftOf_step hneg]
          obtain ⟨q', hq'⟩ : ∃ q' : Nat, q' = q - L[k].t := ⟨_, rfl⟩
          rw [← hq']
          rw [← hq'] at HQ
          have hqb : q' ≤ 1048576 := by omega
          clear hq2 hs1 hs2 hq hq'
          rintro e w1 ⟨rfl, hb1⟩
          go_wp2
          go_roundw
          case rel => exact ⟨k + 1, q', by omega, by go_num, by go_num, HQ.out, hB.trans (hb1.mono hB.size)⟩
          case measure => simp [intOf]; omega
        · have hrn : r = -1 := by rw [HR.out, leftOf, if_neg (by unfold mdsT; omega)]
          have HRN : Hid (r = -1) := hrn
          have hl1 : leftOf L[k].t q = -1 := by rw [leftOf, if_neg hneg]
          rw [hl1]
          clear hrn hl1 hs1 hs2 hq
          rintro e w1 ⟨rfl, hb1⟩
          go_wp2
          go_ret
          exact ⟨ret_int HRN.out.symm, hB.trans (hb1.mono hB.size)⟩
      · have hre : (q : Int) = r := by
          rw [List.take_of_length_le (by rw [List.length_map]; omega)] at hq
          rw [HR.out, leftOf, if_pos (by unfold mdsT; omega)]; unfold mdsT; omega
        have HRE : Hid ((q : Int) = r) := hre
        clear hre hq
        go_wp2
        go_ret
        exact ⟨ret_int HRE.out, hB⟩

set_option maxHeartbeats 1000000 in
set_option maxRecDepth 100000 in
theorem szIntS_any (v : Value) (L : List Int) (left : Nat) (w : World) (h : Nums w v L) (hleft : left ≤ 1048576) :
    Calls Tryz.prog 24 #[v, .int .i64 left] w fun e w' => e = .returned (.int .i64 (leftOf L.length left)) ∧ w' = w := by
  obtain ⟨a, cap, rfl, hcap, hmax, hc⟩ := h
  unfold maxLen at hmax
  have hlm : L.length ≤ 9223372036854775807 := by omega
  clear hc hmax hcap
  by_cases hlen : L.length ≤ left
  · have hr : leftOf L.length left = left - L.length := by rw [leftOf, if_pos hlen]
    rw [hr]
    clear hr
    go_enter Tryz.func24, Tryz.ntmps24
    go_wp2
    go_ret
    exact ⟨rfl, rfl⟩
  · have hr : leftOf L.length left = -1 := by rw [leftOf, if_neg hlen]
    rw [hr]
    clear hr
    go_enter Tryz.func24, Tryz.ntmps24
    go_wp2
    go_ret
    exact ⟨rfl, rfl⟩

end Go.Proofs.YtimgafblpmjajabGreat
