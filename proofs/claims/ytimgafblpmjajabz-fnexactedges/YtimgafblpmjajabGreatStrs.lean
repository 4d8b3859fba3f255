
import Derived.Test.YtimgafblpmjajabGreatApp

import Derived.Deep.Draws

import Derived.BigQuiet

import Derived.Deep.QuietTactic

import Derived.Deep.RegionWith

import Derived.Laws.IdiomStrings

namespace Go.Proofs.YtimgafblpmjajabGreat

open Go.RowKit

/-- A slice of texts that can be read. -/
def Strs (w : World) (v : Value) (L : List (List UInt8)) : Prop :=
  ∃ a cap, v = .slice a L.length cap ∧ L.length ≤ cap ∧ cap ≤ maxLen ∧ ∀ k, (hk : k < L.length) → ∃ b o, a = some ⟨b, o, none⟩ ∧ b < w.heap.size ∧ w.cell? ⟨b, o + k, none⟩ = some (strV L[k])

theorem Strs.of_row {w : World} {base : Nat} {v : Value} {xs : List (List UInt8)} (h : w.ownsRow base 9 1 v xs.length (xs.map strV)) : Strs w v xs := by
  obtain ⟨a, cap, hv, hcap, hmax, hc⟩ := row_shape h
  exact ⟨a, cap, hv, hcap, hmax, fun k hk => by obtain ⟨g, ha, _, hg, hcell⟩ := hc k hk; exact ⟨g, 0, ha, hg, by rw [Nat.zero_add]; exact hcell⟩⟩

theorem Strs.below {w w' : World} {B : Nat} {v : Value} {L : List (List UInt8)} (h : Strs w v L) (hb : Below B w w') (hB : w.heap.size ≤ B) : Strs w' v L := by
  obtain ⟨a, cap, hv, hcap, hmax, hc⟩ := h
  exact ⟨a, cap, hv, hcap, hmax, fun k hk => by
    obtain ⟨b, o, ha, hlt, hcell⟩ := hc k hk
    exact ⟨b, o, ha, Nat.lt_of_lt_of_le hlt hb.size, (hb.cell (p := ⟨b, o + k, none⟩) (Nat.lt_of_lt_of_le hlt hB)).trans hcell⟩⟩

def fits (L : List (List UInt8)) (k : Nat) (left : Int) : Int := left - L.length - Lib.lens (L.take k)

theorem lens_take1 (L : List (List UInt8)) (k : Nat) (hk : k < L.length) : Lib.lens (L.take (k + 1)) = Lib.lens (L.take k) + L[k].length := Lib.lens_take_succ L k L[k] (by simp [hk])

set_option maxHeartbeats 1000000 in
set_option maxRecDepth 100000 in
theorem sz_any (v : Value) (L : List (List UInt8)) (w : World) (h : Strs w v L) (hL : ∀ l ∈ L, l.length ≤ maxLen) :
    Calls Tryz.prog 22 #[v, .int .i64 1048576] w fun e w' => e = .returned (.int .i64 (if Pl.total L ≤ 1048576 then 1048576 - (Pl.total L : Int) else -1)) ∧ w' = w := by
  obtain ⟨a, cap, rfl, hcap, hmax, hc⟩ := h
  unfold maxLen at hmax
  have hlm : L.length ≤ 9223372036854775807 := by omega
  have HC : Hid (∀ k, (hk : k < L.length) → ∃ b o, a = some ⟨b, o, none⟩ ∧ b < w.heap.size ∧ w.cell? ⟨b, o + k, none⟩ = some (strV L[k])) := hc
  have HL : Hid (∀ l ∈ L, l.length ≤ maxLen) := hL
  have HT : Hid (Pl.total L = Lib.lens L + L.length) := rfl
  have HTK : Hid (∀ k, Lib.lens (L.take k) ≤ Lib.lens L) := fun k => Lib.lens_take_le L k
  clear hc hL hmax hcap
  by_cases hlen : 1048576 < L.length
  · have hr : (if Pl.total L ≤ 1048576 then 1048576 - (Pl.total L : Int) else -1) = -1 := by rw [if_neg (by rw [HT.out]; omega)]
    rw [hr]
    clear hr
    go_enter Tryz.func22, Tryz.ntmps22
    go_wp2
    go_ret
    exact ⟨rfl, rfl⟩
  · obtain ⟨R, hR⟩ : ∃ R : Int, R = if Pl.total L ≤ 1048576 then 1048576 - (Pl.total L : Int) else -1 := ⟨_, rfl⟩
    rw [← hR]
    have HR : Hid (R = if Pl.total L ≤ 1048576 then 1048576 - (Pl.total L : Int) else -1) := hR
    clear hR
    go_enter Tryz.func22, Tryz.ntmps22
    go_wp2
    go_loop [1, 5] (fun l i => ∃ k q : Nat, k ≤ L.length ∧ i = .int .i64 k ∧ l = .int .i64 q ∧ q + L.length + Lib.lens (L.take k) = 1048576) (fun _ i => L.length - (intOf i).toNat)
    case atStart => exact ⟨0, 1048576 - L.length, Nat.zero_le _, rfl, by congr 1; omega, by simp [Lib.lens]; omega⟩
    case round =>
      obtain ⟨k, q, hk, rfl, rfl, hq⟩ := hrel
      have hqb : q ≤ 1048576 := by omega
      by_cases hlt : k < L.length
      · obtain ⟨b, o, rfl, _, hcell⟩ := HC.out k hlt
        obtain ⟨s, hs⟩ : ∃ s : ByteArray, s = ⟨L[k].toArray⟩ := ⟨_, rfl⟩
        have hsz : s.size = L[k].length := by rw [hs]; simp [ByteArray.size]
        have hcs : w.cell? ⟨b, o + k, none⟩ = some (.string s) := by rw [hcell, hs]; rfl
        have hsm : s.size ≤ 9223372036854775807 := by rw [hsz]; have := HL.out _ (List.getElem_mem hlt); unfold maxLen at this; omega
        have h1 := lens_take1 L k hlt
        rw [← hsz] at h1
        have h2 := HTK.out (k + 1)
        clear hs hcell hsz
        by_cases hneg : q < s.size
        · have hRn : R = -1 := by rw [HR.out, if_neg (by rw [HT.out]; omega)]
          have HRn : Hid (R = -1) := hRn
          clear hRn h1 h2 hq
          go_wp2
          go_ret
          exact ⟨ret_int HRn.out.symm, rfl⟩
        · have hq2 : (q - s.size) + L.length + Lib.lens (L.take (k + 1)) = 1048576 := by omega
          have HQ : Hid ((q - s.size) + L.length + Lib.lens (L.take (k + 1)) = 1048576) := hq2
          clear hq2 h1 h2 hq
          go_wp2
          go_round
          case rel => exact ⟨k + 1, q - s.size, by omega, by go_num, by go_num, HQ.out⟩
          case measure => simp [intOf]; omega
      · have hRe : (q : Int) = R := by
          rw [List.take_of_length_le (by omega)] at hq
          rw [HR.out, if_pos (by rw [HT.out]; omega), HT.out]; omega
        have HRe : Hid ((q : Int) = R) := hRe
        clear hRe hq
        go_wp2
        go_ret
        exact ⟨ret_int HRe.out, rfl⟩

/-- A row on its way: the first k are copied. -/
def part (L : List (List UInt8)) (k : Nat) : List Value := (L.take k).map strV ++ List.replicate (L.length - k) (.string ByteArray.empty)
theorem part_zero (L : List (List UInt8)) : part L 0 = List.replicate L.length (.string ByteArray.empty) := by simp [part]
theorem part_all (L : List (List UInt8)) (k : Nat) (h : L.length ≤ k) : part L k = L.map strV := by
  unfold part; rw [List.take_of_length_le h, show L.length - k = 0 by omega]; simp
theorem part_set (L : List (List UInt8)) (k : Nat) (hk : k < L.length) : (part L k).set k (strV L[k]) = part L (k + 1) := by
  unfold part
  have h1 : ((L.take k).map strV).length = k := by simp; omega
  rw [List.set_append_right _ _ (by omega), h1, Nat.sub_self, show L.length - k = (L.length - (k + 1)) + 1 by omega, List.replicate_succ, List.set_cons_zero,
    List.take_succ_eq_append_getElem hk, List.map_append]
  simp

theorem made_strings (n : Nat) : (madeCells (Value.string ByteArray.empty).cells (n * 1)).toList = List.replicate n (.string ByteArray.empty) := by
  rw [Nat.mul_one]; exact toList_madeCells_one _ n

set_option maxHeartbeats 1000000 in
set_option maxRecDepth 100000 in
theorem toS_any (v : Value) (L : List (List UInt8)) (w : World) (h : Strs w v L) (hL : L.length ≤ 1048576) :
    Calls Tryz.prog 27 #[v] w fun e w' => ∃ v', e = .returned v' ∧ w'.ownsRow w.heap.size 9 1 v' L.length (L.map strV) ∧ Below w.heap.size w w' := by
  obtain ⟨i0, hi, hz0, hz1, hz2⟩ := info_parts Tryz.info9
  obtain ⟨a, cap, rfl, hcap, hmax, hc⟩ := h
  have HC : Hid (∀ k, (hk : k < L.length) → ∃ b o, a = some ⟨b, o, none⟩ ∧ b < w.heap.size ∧ w.cell? ⟨b, o + k, none⟩ = some (strV L[k])) := hc
  clear hc hmax
  have hib : i0.bytes * L.length ≤ 281474976710656 := by rw [hz2]; omega
  have hlm : L.length ≤ maxLen := by unfold maxLen; omega
  go_enter Tryz.func27, Tryz.ntmps27
  go_wp2_with (at_make; refine wpList_make_full _ rfl _ _ 22 rfl w.heap.size 9 i0 (.string ByteArray.empty) 1 Tryz.underlying22 hi hz0 hz1 .i64 .i64 _ _ L.length rfl rfl rfl rfl hib hlm (Nat.le_refl _) ?_; intro w1 hown hgrow; rw [made_strings, ← part_zero] at hown)
  have hB1 : Below w.heap.size w w1 := (Below.refl _ _).grown hgrow (Nat.le_refl _) (fun k e => by cases e)
  clear hgrow
  go_loopw [4] (fun i wr => ∃ k : Nat, k ≤ L.length ∧ i = .int .i64 k ∧ wr.ownsRow w.heap.size 9 1 (.slice (some ⟨w.heap.size, 0, none⟩) L.length L.length) L.length (part L k) ∧ Below w.heap.size w wr) (fun i _ => L.length - (intOf i).toNat)
  case atStart => exact ⟨0, Nat.zero_le _, rfl, hown, hB1⟩
  case round =>
    obtain ⟨k, hk, rfl, hown, hB⟩ := hrel
    by_cases hlt : k < L.length
    · obtain ⟨b, o, rfl, hb, hcell⟩ := HC.out k hlt
      have hcs : wr.cell? ⟨b, o + k, none⟩ = some (.string ⟨L[k].toArray⟩) := (hB.cell (p := ⟨b, o + k, none⟩) hb).trans hcell
      have hct : wr.cell? ⟨w.heap.size, k, none⟩ = (part L k)[k]? := hown.cellAt k (by omega)
      have hcu : ∃ u, wr.cell? ⟨w.heap.size, k, none⟩ = some u := by rw [hct]; exact ⟨_, List.getElem?_eq_getElem (by unfold part; simp; omega)⟩
      obtain ⟨u, hcu⟩ := hcu
      have hft : wr.frozen? ⟨w.heap.size, k, none⟩ = false := hown.frozenAt k
      have hst := hown.stored k (strV L[k])
      rw [part_set L k hlt] at hst
      have hB2 : Below w.heap.size w (wr.setCell ⟨w.heap.size, k, none⟩ (strV L[k])) := hB.setCell (p := ⟨w.heap.size, k, none⟩) (Nat.le_refl _) _
      clear hct hcell
      go_wp2
      go_roundw
      case rel => exact ⟨k + 1, by omega, by go_num, hst.1, hB2⟩
      case measure => simp [intOf]; omega
    · rw [part_all L k (by omega)] at hown
      go_wp2
      go_ret
      exact ⟨_, rfl, hown, hB⟩

theorem drewN_cell (w : World) (n : Nat) (a : Addr) : (w.drewN n).cell? a = w.cell? a := rfl

set_option maxHeartbeats 1000000 in
set_option maxRecDepth 100000 in
theorem eqS_any (v v' : Value) (L : List (List UInt8)) (w : World) (h : Strs w v L) (h' : Strs w v' L) (hL : L.length ≤ 1048576) :
    Calls Tryz.prog 17 #[v, v'] w fun e w' => e = .returned (.bool true) ∧ ∃ n, w' = w.drewN n := by
  obtain ⟨a, cap, rfl, hcap, hmax, hc⟩ := h
  obtain ⟨a', cap', rfl, hcap', hmax', hc'⟩ := h'
  have HC : Hid (∀ k, (hk : k < L.length) → ∃ b o, a = some ⟨b, o, none⟩ ∧ b < w.heap.size ∧ w.cell? ⟨b, o + k, none⟩ = some (strV L[k])) := hc
  have HC' : Hid (∀ k, (hk : k < L.length) → ∃ b o, a' = some ⟨b, o, none⟩ ∧ b < w.heap.size ∧ w.cell? ⟨b, o + k, none⟩ = some (strV L[k])) := hc'
  clear hc hmax hc' hmax'
  go_enter Tryz.func17, Tryz.ntmps17
  go_wp2
  go_loopw [5] (fun i wr => ∃ k : Nat, k ≤ L.length ∧ i = .int .i64 k ∧ ∃ n, wr = w.drewN n) (fun i _ => L.length - (intOf i).toNat)
  case atStart => exact ⟨0, Nat.zero_le _, rfl, 0, rfl⟩
  case round =>
    obtain ⟨k, hk, rfl, n, rfl⟩ := hrel
    by_cases hlt : k < L.length
    · obtain ⟨b, o, rfl, hb, hcell⟩ := HC.out k hlt
      obtain ⟨b', o', rfl, hb', hcell'⟩ := HC'.out k hlt
      have hc1 : w.cell? ⟨b, o + k, none⟩ = some (.string ⟨L[k].toArray⟩) := hcell
      have hc2 : w.cell? ⟨b', o' + k, none⟩ = some (.string ⟨L[k].toArray⟩) := hcell'
      clear hcell hcell'
      go_wp2
      go_quiet (fail)
      go_wp2
      go_roundw
      case rel => exact ⟨k + 1, by omega, by go_num, n + nq, by simp [World.drewN]⟩
      case measure => simp [intOf]; omega
    · go_wp2
      go_ret
      exact ⟨rfl, n, rfl⟩

/-- The decimal text of a number behind what has come. -/
def digs : Nat → Nat → List UInt8 → List UInt8
  | 0, _, acc => acc
  | f + 1, k, acc => if k = 0 then acc else digs f (k / 10) (UInt8.ofNat (48 + k % 10) :: acc)
theorem digs_zero (f : Nat) (acc : List UInt8) : digs f 0 acc = acc := by cases f <;> simp [digs]
theorem digs_stable : ∀ (f f' k : Nat) (acc : List UInt8), k ≤ f → k ≤ f' → digs f k acc = digs f' k acc := by
  intro f
  induction f with
  | zero => intro f' k acc h _; rw [show k = 0 by omega, digs_zero, digs_zero]
  | succ f ih =>
    intro f' k acc h h'
    by_cases hk : k = 0
    · rw [hk, digs_zero, digs_zero]
    · cases f' with
      | zero => omega
      | succ f' =>
        simp only [digs, hk, if_false]
        exact ih _ _ _ (by omega) (by omega)
theorem digs_step (k : Nat) (acc : List UInt8) (hk : 0 < k) : digs k k acc = digs (k / 10) (k / 10) (UInt8.ofNat (48 + k % 10) :: acc) := by
  cases k with
  | zero => omega
  | succ f =>
    simp only [digs, Nat.succ_ne_zero, if_false]
    exact digs_stable _ _ _ _ (by omega) (Nat.le_refl _)
/-- The mark of a place. -/
def mkT (k : Nat) : List UInt8 := 109 :: digs k k []

theorem digit_nat (k : Nat) : (UInt8.ofNat (48 + k % 10)).toNat = 48 + k % 10 := by
  rw [UInt8.toNat_ofNat']; omega

theorem digit_conv (k : Nat) (wr : World) : (convert 111 9 (.slice (some ⟨wr.heap.size, 0, none⟩) 1 1)).run Tryz.prog (wr.alloc (.cells #[.int .u8 (48 + (k : Int) % 10)] 5)) = .ok (.string ⟨#[UInt8.ofNat (48 + k % 10)]⟩) (wr.alloc (.cells #[.int .u8 (48 + (k : Int) % 10)] 5)) := by
  have h := run_convert_bytes_back (P := Tryz.prog) (wr.alloc (.cells #[.int .u8 (48 + (k : Int) % 10)] 5)) 111 9 5 ⟨wr.heap.size, 0, none⟩ 1 [UInt8.ofNat (48 + k % 10)] Tryz.underlying111 Tryz.underlying5 Tryz.underlying9 (fun j hj => by
    have hj0 : j = 0 := by simpa using hj
    subst hj0
    have e : ((UInt8.ofNat (48 + k % 10)).toNat : Int) = 48 + (k : Int) % 10 := by rw [digit_nat]; omega
    rw [List.getElem_singleton, e]
    simp [Addr.add])
  exact h

set_option maxHeartbeats 1000000 in
set_option maxRecDepth 100000 in
theorem markText_any (K : Nat) (w : World) (h0 : 0 < K) (hK : K ≤ 2097153) :
    Calls Tryz.prog 42 #[.int .i64 K] w fun e w' => e = .returned (strV (mkT K)) ∧ Below w.heap.size w w' := by
  obtain ⟨R, hR⟩ : ∃ R, R = mkT K := ⟨_, rfl⟩
  rw [← hR]
  have HR : Hid (R = 109 :: digs K K []) := hR
  clear hR
  go_enter Tryz.func42, Tryz.ntmps42
  go_wp2
  go_loopw [0, 3] (fun kv ov wr => ∃ (k : Nat) (b : ByteArray), k ≤ K ∧ kv = .int .i64 k ∧ ov = .string b ∧ Hid (digs k k b.data.toList = digs K K []) ∧ b.size ≤ K - k ∧ Below w.heap.size w wr) (fun kv _ _ => (intOf kv).toNat)
  case atStart => exact ⟨K, ⟨#[]⟩, Nat.le_refl _, rfl, rfl, rfl, by simp [ByteArray.size], Below.refl _ _⟩
  case round =>
    obtain ⟨k, b, hk, rfl, rfl, hd, hbs, hB⟩ := hrel
    have hsz := hB.size
    by_cases hpos : 0 < k
    · have hcv := digit_conv k wr
      have hb1 : (⟨#[UInt8.ofNat (48 + k % 10)]⟩ : ByteArray).size = 1 := rfl
      obtain ⟨dg, hdg⟩ : ∃ dg : ByteArray, dg = ⟨#[UInt8.ofNat (48 + k % 10)]⟩ := ⟨_, rfl⟩
      rw [← hdg] at hcv hb1
      have HD : Hid (digs (k / 10) (k / 10) (dg ++ b).data.toList = digs K K []) := by
        unfold Hid
        rw [← hd.out, digs_step k _ hpos, ByteArray.data_append, Array.toList_append, hdg]; rfl
      have hds : (dg ++ b).size ≤ K - k / 10 := by rw [ByteArray.size_append, hb1]; omega
      have hB2 : Below w.heap.size w (wr.alloc (.cells #[.int .u8 (48 + (k : Int) % 10)] 5)) := hB.alloc hsz _
      clear hdg
      go_wp2
      go_roundw
      case rel => exact ⟨k / 10, dg ++ b, by omega, by go_num, rfl, HD, hds, hB2⟩
      case measure => simp [intOf]; omega
    · have hk0 : k = 0 := by omega
      subst hk0
      have HE : Hid (strV R = .string (⟨#[109]⟩ ++ b)) := by
        unfold Hid
        rw [← strV_data, HR.out, ← hd.out, digs_zero, ByteArray.data_append, Array.toList_append]; rfl
      go_wp2
      go_ret
      rw [HE.out]
      exact ⟨rfl, hB⟩

end Go.Proofs.YtimgafblpmjajabGreat
