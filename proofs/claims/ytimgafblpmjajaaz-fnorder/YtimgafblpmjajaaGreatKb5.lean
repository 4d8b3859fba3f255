import Derived.Deep.RegionWith
import Derived.Deep.RegionHeld3
import Derived.Maps.OwnSet
import Derived.DeepKeys4
import Derived.Deep.AppendLies
import Derived.Deep.RegionLaw
import Derived.Test.YtimgafblpmjajaaGreatKb4
namespace Go.Proofs.YtimgafblpmjajaaGreat

open Go.RowKit

/-- What asWritten answers. -/
def writtenV (n : List UInt8) : Value := if isN n then .tuple #[.agg #[strV n], .bool true] else .tuple #[.agg #[strV []], .bool false]

set_option maxRecDepth 100000 in
set_option maxHeartbeats 2000000 in
theorem asWritten_any (s : ByteArray) (w : World) :
    Calls Tryz.prog 47 #[.string s] w fun e w' => e = .returned (writtenV s.data.toList) ∧ Below w.heap.size w w' := by
  obtain ⟨c, x, hn⟩ : ∃ c x, Pl.nm [] s.data.toList = (c, x) := ⟨_, _, rfl⟩
  have HN : Hid (Pl.nm [] s.data.toList = (c, x)) := hn
  have his : isN s.data.toList = (decide (c = 0) && decide (x = s.data.toList)) := by rw [isN, hn]
  obtain ⟨t, ht⟩ : ∃ t : ByteArray, t.data.toList = x := ⟨⟨x.toArray⟩, by simp⟩
  have htv : strV x = .string t := by rw [← ht, strV_data]
  obtain ⟨r, hr⟩ : ∃ r, r = writtenV s.data.toList := ⟨_, rfl⟩
  rw [← hr]
  have HR : Hid (r = writtenV s.data.toList) := hr
  have HIS : Hid (isN s.data.toList = (decide (c = 0) && decide (x = s.data.toList))) := his
  have HTX : Hid (t.data.toList = x) := ht
  have HTV : Hid (strV x = .string t) := htv
  clear hn his hr ht htv
  go_enter Tryz.func47, Tryz.ntmps47
  go_wp2_with fail
  refine (walk_any (w.heap.size + 1) (.slice none 0 0) [] s _ (World.ownsRow_nil _ _ _ _) (by simp) (by decide)).mono ?_
  rw [HN.out]
  unfold formV
  rw [HTV.out]
  rintro e w1 ⟨rfl, hb⟩
  have e0 : w1.cell? ⟨w.heap.size, 0, none⟩ = some (.string ⟨#[]⟩) := below_cell0 hb (by omega) (by simp [go_sem])
  have f0 : w1.frozen? ⟨w.heap.size, 0, none⟩ = false := below_frz hb (by omega) (by simp [go_sem])
  have hz : w.heap.size < w1.heap.size := by have := hb.size; simp at this; omega
  have hB : Below w.heap.size w w1 := ((Below.refl _ w).alloc (Nat.le_refl _) _).trans (hb.mono (by omega))
  clear hb
  by_cases hc : c = 0
  · subst hc
    by_cases hx : x = s.data.toList
    · obtain rfl : t = s := str_eq (HTX.out.trans hx) rfl
      have hrv : r = .tuple #[.agg #[.string t], .bool true] := by rw [HR.out, writtenV, HIS.out, if_pos (by simp [hx]), strV_data]
      subst hrv
      clear hx
      go_wp2
      exact bodyPost_ret (v := .tuple #[.agg #[.string t], .bool true]) (by simp [results, Tryz.results47, go_sem, *]) rfl ⟨rfl, (hB.setCell (p := ⟨w.heap.size, 0, none⟩) (Nat.le_refl _) _).alloc (by simp [World.setCell]; omega) _⟩
    · have hrv : r = .tuple #[.agg #[.string ⟨#[]⟩], .bool false] := by rw [HR.out, writtenV, HIS.out, if_neg (by simp [hx])]; rfl
      subst hrv
      have hne : (t.toList == s.toList) = false := by rw [str_beq HTX.out rfl]; simpa using hx
      clear hx
      go_wp2
      exact bodyPost_ret (v := .tuple #[.agg #[.string ⟨#[]⟩], .bool false]) (by simp [results, Tryz.results47, go_sem, *]) rfl ⟨rfl, (hB.setCell (p := ⟨w.heap.size, 0, none⟩) (Nat.le_refl _) _).alloc (by simp [World.setCell]; omega) _⟩
  · have hrv : r = .tuple #[.agg #[.string ⟨#[]⟩], .bool false] := by rw [HR.out, writtenV, HIS.out, if_neg (by simp [hc])]; rfl
    subst hrv
    have hcb : (c == 0) = false := by simpa using hc
    go_wp2
    exact bodyPost_ret (v := .tuple #[.agg #[.string ⟨#[]⟩], .bool false]) (by simp [results, Tryz.results47, go_sem, *]) rfl ⟨rfl, (hB.setCell (p := ⟨w.heap.size, 0, none⟩) (Nat.le_refl _) _).alloc (by simp [World.setCell]; omega) _⟩

theorem writtenV_shape (n : List UInt8) : ∃ t : ByteArray, writtenV n = .tuple #[.agg #[.string t], .bool (isN n)] := by
  unfold writtenV
  cases isN n
  · exact ⟨_, rfl⟩
  · exact ⟨_, rfl⟩

set_option maxRecDepth 100000 in
set_option maxHeartbeats 2000000 in
theorem isOddRoot_any (s : ByteArray) (w : World) :
    Calls Tryz.prog 44 #[.string s] w fun e w' => e = .returned (.bool (oddRoot s.data.toList)) ∧ Below w.heap.size w w' := by
  obtain ⟨t, hwv⟩ := writtenV_shape s.data.toList
  have HW : Hid (writtenV s.data.toList = .tuple #[.agg #[.string t], .bool (isN s.data.toList)]) := hwv
  have HO : Hid (oddRoot s.data.toList = (!s.toList.isEmpty && !isN s.data.toList)) := by
    unfold Hid oddRoot; rw [str_emp rfl]; simp
  rw [HO.out]
  obtain ⟨q, hq⟩ : ∃ q, q = isN s.data.toList := ⟨_, rfl⟩
  rw [← hq] at HW ⊢
  clear hwv hq
  go_enter Tryz.func44, Tryz.ntmps44
  go_wp2_with fail
  refine (asWritten_any s _).mono ?_
  rw [HW.out]
  rintro e w1 ⟨rfl, hb⟩
  go_wp2
  all_goals go_ret
  all_goals refine ⟨ret_bool ?_, hb.alloc hb.size _⟩
  all_goals first | rfl | (simp_all; done)

set_option maxRecDepth 100000 in
set_option maxHeartbeats 2000000 in
theorem indexFunc_any (v : Value) (L : List (List UInt8)) (w : World) (h : Strs w v L) (hL : L.length ≤ 1048576) :
    Calls Tryz.prog 61 #[v, .func (.func 44) #[] #[]] w fun e w' => ∃ i : Int, e = .returned (.int .i64 i) ∧ (decide (0 ≤ i) = L.any oddRoot) ∧ Below w.heap.size w w' := by
  obtain ⟨a, cap, rfl, hcap, hmax, hc⟩ := h
  have HC : Hid (∀ k, (hk : k < L.length) → ∃ b o, a = some ⟨b, o, none⟩ ∧ b < w.heap.size ∧ w.cell? ⟨b, o + k, none⟩ = some (strV L[k])) := hc
  clear hc hmax
  go_enter Tryz.func61, Tryz.ntmps61
  go_wp2
  go_loopw [8] (fun i wr => ∃ k : Nat, k ≤ L.length ∧ i = .int .i64 k ∧ (∀ j (hj : j < L.length), j < k → oddRoot L[j] = false) ∧ Below w.heap.size w wr) (fun i _ => L.length - (intOf i).toNat)
  case atStart => exact ⟨0, Nat.zero_le _, rfl, fun j _ h => absurd h (by omega), Below.refl _ _⟩
  case round =>
    obtain ⟨k, hk, rfl, hodd, hB⟩ := hrel
    have HODD : Hid (∀ j (hj : j < L.length), j < k → oddRoot L[j] = false) := hodd
    clear hodd
    by_cases hlt : k < L.length
    · obtain ⟨b, o, rfl, hb, h0⟩ := HC.out k hlt
      have c0 := (hB.cell (p := ⟨b, o + k, none⟩) hb).trans h0
      obtain ⟨s, hs⟩ : ∃ s : ByteArray, s.data.toList = L[k] := ⟨⟨L[k].toArray⟩, by simp⟩
      have hsv : strV L[k] = .string s := by rw [← hs, strV_data]
      rw [hsv] at c0
      clear h0 hsv
      go_wp2_with fail
      refine (isOddRoot_any s _).mono ?_
      rw [hs]
      obtain ⟨q, hq⟩ : ∃ q, q = oddRoot L[k] := ⟨_, rfl⟩
      rw [← hq]
      have HQ : Hid (q = oddRoot L[k]) := hq
      clear hq hs
      rintro e w1 ⟨rfl, hb1⟩
      have hB1 := hB.trans (hb1.mono hB.size)
      cases q with
      | true =>
        go_wp2
        go_ret
        exact ⟨k, rfl, by rw [show decide ((0 : Int) ≤ k) = true by simp]; exact (List.any_eq_true.2 ⟨_, List.getElem_mem hlt, HQ.out.symm⟩).symm, hB1⟩
      | false =>
        go_wp2
        go_roundw
        case rel => exact ⟨k + 1, by omega, by go_num, fun j hj hjk => by
          by_cases hjk' : j = k
          · subst hjk'; exact HQ.out.symm
          · exact HODD.out j hj (by omega), hB1⟩
        case measure => simp [intOf]; omega
    · have hroot : L.any oddRoot = false := by
        rw [List.any_eq_false]
        intro r hr
        obtain ⟨j, hj, rfl⟩ := List.getElem_of_mem hr
        rw [HODD.out j hj (by omega)]; decide
      have HROOT : Hid (L.any oddRoot = false) := hroot
      clear hroot
      go_wp2
      go_ret
      exact ⟨-1, rfl, by rw [HROOT.out]; decide, hB⟩

set_option maxRecDepth 100000 in
set_option maxHeartbeats 2000000 in
theorem containsFunc_any (v : Value) (L : List (List UInt8)) (w : World) (h : Strs w v L) (hL : L.length ≤ 1048576) :
    Calls Tryz.prog 43 #[v, .func (.func 44) #[] #[]] w fun e w' => e = .returned (.bool (L.any oddRoot)) ∧ Below w.heap.size w w' := by
  obtain ⟨a, cap, hv⟩ := h.slice
  subst hv
  go_enter Tryz.func43, Tryz.ntmps43
  go_wp2_with fail
  refine (indexFunc_any _ L w h hL).mono ?_
  rintro e w1 ⟨i, rfl, hi, hb⟩
  have HI : Hid (decide (0 ≤ i) = L.any oddRoot) := hi
  clear hi
  go_wp2
  all_goals go_ret
  all_goals exact ⟨ret_bool HI.out, hb⟩

set_option maxRecDepth 100000 in
set_option maxHeartbeats 2000000 in
theorem areReadings_any (v : Value) (L : List Int) (w : World) (h : Nums w v L) (hL : L.length ≤ 1048576) :
    Calls Tryz.prog 45 #[v] w fun e w' => e = .returned (.bool (asc (-1) L)) ∧ w' = w := by
  obtain ⟨a, cap, rfl, hcap, hmax, hc⟩ := h
  have HC : Hid (∀ k, (hk : k < L.length) → ∃ b o, a = some ⟨b, o, none⟩ ∧ b < w.heap.size ∧ w.cell? ⟨b, o + k, none⟩ = some (.int .i64 L[k])) := hc
  clear hc hmax
  go_enter Tryz.func45, Tryz.ntmps45
  go_wp2
  go_loop [3, 8] (fun l i => ∃ (k : Nat) (lst : Int), k ≤ L.length ∧ i = .int .i64 k ∧ l = .int .i64 (lst + 1) ∧ lst = (L.take k).getLastD (-1) ∧ asc (-1) (L.take k) = true ∧ -1 ≤ lst ∧ lst < 400) (fun _ i => L.length - (intOf i).toNat)
  case atStart => exact ⟨0, -1, Nat.zero_le _, rfl, rfl, rfl, rfl, by decide, by decide⟩
  case round =>
    obtain ⟨k, lst, hk, rfl, rfl, hlst, hasc, hlo, hhi⟩ := hrel
    by_cases hlt : k < L.length
    · obtain ⟨b, o, rfl, hb, c0⟩ := HC.out k hlt
      have hstep := asc_take L k hlt hasc
      rw [← hlst] at hstep
      have hlast := take_snoc_last L k hlt (-1)
      obtain ⟨f, hf⟩ : ∃ f, f = L[k] := ⟨_, rfl⟩
      rw [← hf] at c0 hstep hlast
      clear hf hlst hasc
      by_cases hx1 : f ≤ lst
      · have hA : asc (-1) L = false := asc_of_take _ (k + 1) (by rw [hstep, if_pos (.inl hx1)])
        have HA : Hid (asc (-1) L = false) := hA
        clear hA hstep hlast
        go_wp2
        go_ret
        exact ⟨ret_bool HA.out.symm, rfl⟩
      · by_cases hx2 : 400 ≤ f
        · have hA : asc (-1) L = false := asc_of_take _ (k + 1) (by rw [hstep, if_pos (.inr hx2)])
          have HA : Hid (asc (-1) L = false) := hA
          clear hA hstep hlast
          go_wp2
          go_ret
          exact ⟨ret_bool HA.out.symm, rfl⟩
        · rw [if_neg (by omega)] at hstep
          have HST : Hid (asc (-1) (L.take (k + 1)) = true ∧ (L.take (k + 1)).getLastD (-1) = f) := ⟨hstep, hlast⟩
          clear hstep hlast
          go_wp2
          go_round
          case rel => exact ⟨k + 1, f, by omega, by go_num, by go_num, HST.out.2.symm, HST.out.1, by omega, by omega⟩
          case measure => simp [intOf]; omega
    · have hA : asc (-1) L = true := by rwa [List.take_of_length_le (by omega)] at hasc
      have HA : Hid (asc (-1) L = true) := hA
      clear hA hasc hlst
      go_wp2
      go_ret
      exact ⟨ret_bool HA.out.symm, rfl⟩

set_option maxRecDepth 100000 in
set_option maxHeartbeats 2000000 in
theorem hasTooMany_any (a1 a2 a3 : Option Addr) (n1 n2 n3 k1 k2 k3 : Nat) (w : World) (h1 : n1 ≤ 1048576) (h2 : n2 ≤ 1048576) (h3 : n3 ≤ 1048576) :
    Calls Tryz.prog 42 #[.agg #[.slice a1 n1 k1, .slice a2 n2 k2, .slice a3 n3 k3]] w fun e w' => e = .returned (.bool (decide (60 < n2 ∨ 8 < n1 ∨ 400 < n3))) ∧ Below w.heap.size w w' := by
  go_enter Tryz.func42, Tryz.ntmps42
  go_wp2
  all_goals go_ret
  all_goals refine ⟨ret_bool ?_, (Below.refl _ _).alloc (Nat.le_refl _) _⟩
  all_goals (rw [Bool.eq_iff_iff]; simp_all <;> omega)

end Go.Proofs.YtimgafblpmjajaaGreat
namespace Go.Proofs.YtimgafblpmjajaaGreat

open Go.RowKit

/-- A line as a step. -/
def stepV (op : Int) (s : ByteArray) (num skip : Int) : Value :=
  if op = 1 then .iface 111 (.agg #[.int .i64 num]) else if op = 2 then .iface 112 (.agg #[.int .i64 num])
  else if op = 3 then .iface 108 (.agg #[.string s]) else if op = 4 then .iface 109 (.agg #[.string s]) else if op = 5 then .iface 113 (.agg #[.string s])
  else if op = 6 then .iface 114 (.agg #[.int .i64 num]) else if op = 7 then .iface 116 (.agg #[.string s, .int .i64 skip]) else .nilIface

set_option maxRecDepth 100000 in
set_option maxHeartbeats 4000000 in
theorem stepOf_any (op num skip : Int) (s : ByteArray) (w : World) :
    Calls Tryz.prog 33 #[.agg #[.int .i64 op, .string s, .int .i64 num, .int .i64 skip]] w fun e w' => e = .returned (stepV op s num skip) ∧ Below w.heap.size w w' := by
  unfold stepV
  by_cases h1 : op = 1
  · subst h1
    rw [if_pos rfl]
    go_enter Tryz.func33, Tryz.ntmps33
    go_wp2
    go_ret
    exact ⟨rfl, (Below.refl _ _).alloc (Nat.le_refl _) _⟩
  rw [if_neg h1]
  by_cases h2 : op = 2
  · subst h2
    rw [if_pos rfl]
    go_enter Tryz.func33, Tryz.ntmps33
    go_wp2
    go_ret
    exact ⟨rfl, (Below.refl _ _).alloc (Nat.le_refl _) _⟩
  rw [if_neg h2]
  by_cases h3 : op = 3
  · subst h3
    rw [if_pos rfl]
    go_enter Tryz.func33, Tryz.ntmps33
    go_wp2
    go_ret
    exact ⟨rfl, (Below.refl _ _).alloc (Nat.le_refl _) _⟩
  rw [if_neg h3]
  by_cases h4 : op = 4
  · subst h4
    rw [if_pos rfl]
    go_enter Tryz.func33, Tryz.ntmps33
    go_wp2
    go_ret
    exact ⟨rfl, (Below.refl _ _).alloc (Nat.le_refl _) _⟩
  rw [if_neg h4]
  by_cases h5 : op = 5
  · subst h5
    rw [if_pos rfl]
    go_enter Tryz.func33, Tryz.ntmps33
    go_wp2
    go_ret
    exact ⟨rfl, (Below.refl _ _).alloc (Nat.le_refl _) _⟩
  rw [if_neg h5]
  by_cases h6 : op = 6
  · subst h6
    rw [if_pos rfl]
    go_enter Tryz.func33, Tryz.ntmps33
    go_wp2
    go_ret
    exact ⟨rfl, (Below.refl _ _).alloc (Nat.le_refl _) _⟩
  rw [if_neg h6]
  by_cases h7 : op = 7
  · subst h7
    rw [if_pos rfl]
    go_enter Tryz.func33, Tryz.ntmps33
    go_wp2
    go_ret
    exact ⟨rfl, (Below.refl _ _).alloc (Nat.le_refl _) _⟩
  rw [if_neg h7]
  have n1 : (op == 1) = false := by simpa using h1
  have n2 : (op == 2) = false := by simpa using h2
  have n3 : (op == 3) = false := by simpa using h3
  have n4 : (op == 4) = false := by simpa using h4
  have n5 : (op == 5) = false := by simpa using h5
  have n6 : (op == 6) = false := by simpa using h6
  have n7 : (op == 7) = false := by simpa using h7
  go_enter Tryz.func33, Tryz.ntmps33
  go_wp2
  go_ret
  exact ⟨rfl, (Below.refl _ _).alloc (Nat.le_refl _) _⟩

set_option maxRecDepth 100000 in
set_option maxHeartbeats 4000000 in
theorem isShort_any (s : ByteArray) (w : World) (hs : s.size ≤ 1048576) :
    Calls Tryz.prog 73 #[.string s] w fun e w' => e = .returned (.bool (decide (s.size ≤ 120))) ∧ w' = w := by
  go_enter Tryz.func73, Tryz.ntmps73
  go_wp2
  go_ret
  exact ⟨ret_bool (by rw [Bool.eq_iff_iff]; simp; omega), rfl⟩

/-- Whether a step keeps within its limits. -/
def fitB (op : Int) (s : ByteArray) (skip b : Int) : Bool :=
  if op = 1 ∨ op = 2 ∨ op = 6 then true
  else if op = 3 ∨ op = 4 ∨ op = 5 then decide (s.size ≤ 120)
  else if op = 7 then decide (s.size ≤ 120) && (decide (0 ≤ skip) && decide (skip ≤ b)) else false

theorem as115_115 (v : Value) (W : World) : (Instr.typeAssert (.iface 111 v) 84 111 true).run Tryz.prog W = .ok (.tuple #[v, .bool true]) W := by kernel_rfl
theorem as115_116 (v : Value) (W : World) : (Instr.typeAssert (.iface 111 v) 84 112 true).run Tryz.prog W = .ok (.tuple #[.agg #[.int .i64 0], .bool false]) W := by kernel_rfl
theorem as115_121 (v : Value) (W : World) : (Instr.typeAssert (.iface 111 v) 84 114 true).run Tryz.prog W = .ok (.tuple #[.agg #[.int .i64 0], .bool false]) W := by kernel_rfl
theorem as116_115 (v : Value) (W : World) : (Instr.typeAssert (.iface 112 v) 84 111 true).run Tryz.prog W = .ok (.tuple #[.agg #[.int .i64 0], .bool false]) W := by kernel_rfl
theorem as116_116 (v : Value) (W : World) : (Instr.typeAssert (.iface 112 v) 84 112 true).run Tryz.prog W = .ok (.tuple #[v, .bool true]) W := by kernel_rfl
theorem as116_121 (v : Value) (W : World) : (Instr.typeAssert (.iface 112 v) 84 114 true).run Tryz.prog W = .ok (.tuple #[.agg #[.int .i64 0], .bool false]) W := by kernel_rfl
theorem as121_115 (v : Value) (W : World) : (Instr.typeAssert (.iface 114 v) 84 111 true).run Tryz.prog W = .ok (.tuple #[.agg #[.int .i64 0], .bool false]) W := by kernel_rfl
theorem as121_116 (v : Value) (W : World) : (Instr.typeAssert (.iface 114 v) 84 112 true).run Tryz.prog W = .ok (.tuple #[.agg #[.int .i64 0], .bool false]) W := by kernel_rfl
theorem as121_121 (v : Value) (W : World) : (Instr.typeAssert (.iface 114 v) 84 114 true).run Tryz.prog W = .ok (.tuple #[v, .bool true]) W := by kernel_rfl
theorem as118_115 (v : Value) (W : World) : (Instr.typeAssert (.iface 108 v) 84 111 true).run Tryz.prog W = .ok (.tuple #[.agg #[.int .i64 0], .bool false]) W := by kernel_rfl
theorem as118_116 (v : Value) (W : World) : (Instr.typeAssert (.iface 108 v) 84 112 true).run Tryz.prog W = .ok (.tuple #[.agg #[.int .i64 0], .bool false]) W := by kernel_rfl
theorem as118_121 (v : Value) (W : World) : (Instr.typeAssert (.iface 108 v) 84 114 true).run Tryz.prog W = .ok (.tuple #[.agg #[.int .i64 0], .bool false]) W := by kernel_rfl
theorem as118_118 (v : Value) (W : World) : (Instr.typeAssert (.iface 108 v) 84 108 true).run Tryz.prog W = .ok (.tuple #[v, .bool true]) W := by kernel_rfl
theorem as119_115 (v : Value) (W : World) : (Instr.typeAssert (.iface 109 v) 84 111 true).run Tryz.prog W = .ok (.tuple #[.agg #[.int .i64 0], .bool false]) W := by kernel_rfl
theorem as119_116 (v : Value) (W : World) : (Instr.typeAssert (.iface 109 v) 84 112 true).run Tryz.prog W = .ok (.tuple #[.agg #[.int .i64 0], .bool false]) W := by kernel_rfl
theorem as119_121 (v : Value) (W : World) : (Instr.typeAssert (.iface 109 v) 84 114 true).run Tryz.prog W = .ok (.tuple #[.agg #[.int .i64 0], .bool false]) W := by kernel_rfl
theorem as119_118 (v : Value) (W : World) : (Instr.typeAssert (.iface 109 v) 84 108 true).run Tryz.prog W = .ok (.tuple #[.agg #[.string ⟨#[]⟩], .bool false]) W := by kernel_rfl
theorem as119_119 (v : Value) (W : World) : (Instr.typeAssert (.iface 109 v) 84 109 true).run Tryz.prog W = .ok (.tuple #[v, .bool true]) W := by kernel_rfl
theorem as120_115 (v : Value) (W : World) : (Instr.typeAssert (.iface 113 v) 84 111 true).run Tryz.prog W = .ok (.tuple #[.agg #[.int .i64 0], .bool false]) W := by kernel_rfl
theorem as120_116 (v : Value) (W : World) : (Instr.typeAssert (.iface 113 v) 84 112 true).run Tryz.prog W = .ok (.tuple #[.agg #[.int .i64 0], .bool false]) W := by kernel_rfl
theorem as120_121 (v : Value) (W : World) : (Instr.typeAssert (.iface 113 v) 84 114 true).run Tryz.prog W = .ok (.tuple #[.agg #[.int .i64 0], .bool false]) W := by kernel_rfl
theorem as120_118 (v : Value) (W : World) : (Instr.typeAssert (.iface 113 v) 84 108 true).run Tryz.prog W = .ok (.tuple #[.agg #[.string ⟨#[]⟩], .bool false]) W := by kernel_rfl
theorem as120_119 (v : Value) (W : World) : (Instr.typeAssert (.iface 113 v) 84 109 true).run Tryz.prog W = .ok (.tuple #[.agg #[.string ⟨#[]⟩], .bool false]) W := by kernel_rfl
theorem as120_120 (v : Value) (W : World) : (Instr.typeAssert (.iface 113 v) 84 113 true).run Tryz.prog W = .ok (.tuple #[v, .bool true]) W := by kernel_rfl
theorem as123_115 (v : Value) (W : World) : (Instr.typeAssert (.iface 116 v) 84 111 true).run Tryz.prog W = .ok (.tuple #[.agg #[.int .i64 0], .bool false]) W := by kernel_rfl
theorem as123_116 (v : Value) (W : World) : (Instr.typeAssert (.iface 116 v) 84 112 true).run Tryz.prog W = .ok (.tuple #[.agg #[.int .i64 0], .bool false]) W := by kernel_rfl
theorem as123_121 (v : Value) (W : World) : (Instr.typeAssert (.iface 116 v) 84 114 true).run Tryz.prog W = .ok (.tuple #[.agg #[.int .i64 0], .bool false]) W := by kernel_rfl
theorem as123_118 (v : Value) (W : World) : (Instr.typeAssert (.iface 116 v) 84 108 true).run Tryz.prog W = .ok (.tuple #[.agg #[.string ⟨#[]⟩], .bool false]) W := by kernel_rfl
theorem as123_119 (v : Value) (W : World) : (Instr.typeAssert (.iface 116 v) 84 109 true).run Tryz.prog W = .ok (.tuple #[.agg #[.string ⟨#[]⟩], .bool false]) W := by kernel_rfl
theorem as123_120 (v : Value) (W : World) : (Instr.typeAssert (.iface 116 v) 84 113 true).run Tryz.prog W = .ok (.tuple #[.agg #[.string ⟨#[]⟩], .bool false]) W := by kernel_rfl
theorem as123_123 (v : Value) (W : World) : (Instr.typeAssert (.iface 116 v) 84 116 true).run Tryz.prog W = .ok (.tuple #[v, .bool true]) W := by kernel_rfl
theorem as0_115 (W : World) : (Instr.typeAssert .nilIface 84 111 true).run Tryz.prog W = .ok (.tuple #[.agg #[.int .i64 0], .bool false]) W := by kernel_rfl
theorem as0_116 (W : World) : (Instr.typeAssert .nilIface 84 112 true).run Tryz.prog W = .ok (.tuple #[.agg #[.int .i64 0], .bool false]) W := by kernel_rfl
theorem as0_121 (W : World) : (Instr.typeAssert .nilIface 84 114 true).run Tryz.prog W = .ok (.tuple #[.agg #[.int .i64 0], .bool false]) W := by kernel_rfl
theorem as0_118 (W : World) : (Instr.typeAssert .nilIface 84 108 true).run Tryz.prog W = .ok (.tuple #[.agg #[.string ⟨#[]⟩], .bool false]) W := by kernel_rfl
theorem as0_119 (W : World) : (Instr.typeAssert .nilIface 84 109 true).run Tryz.prog W = .ok (.tuple #[.agg #[.string ⟨#[]⟩], .bool false]) W := by kernel_rfl
theorem as0_120 (W : World) : (Instr.typeAssert .nilIface 84 113 true).run Tryz.prog W = .ok (.tuple #[.agg #[.string ⟨#[]⟩], .bool false]) W := by kernel_rfl
theorem as0_123 (W : World) : (Instr.typeAssert .nilIface 84 116 true).run Tryz.prog W = .ok (.tuple #[.agg #[.string ⟨#[]⟩, .int .i64 0], .bool false]) W := by kernel_rfl

set_option maxRecDepth 100000 in
set_option maxHeartbeats 4000000 in
theorem fits_any (op num skip b : Int) (s : ByteArray) (w : World) (hs : s.size ≤ 1048576) :
    Calls Tryz.prog 62 #[stepV op s num skip, .int .i64 b] w fun e w' => e = .returned (.bool (fitB op s skip b)) ∧ Below w.heap.size w w' := by
  have HSH : Hid (∀ W, Calls Tryz.prog 73 #[.string s] W fun e w' => e = .returned (.bool (decide (s.size ≤ 120))) ∧ w' = W) := fun W => isShort_any s W hs
  obtain ⟨r, hr⟩ : ∃ r, r = fitB op s skip b := ⟨_, rfl⟩
  rw [← hr]
  clear hs
  by_cases h1 : op = 1
  · subst h1
    have hrt : r = true := hr
    subst hrt
    simp (config := { decide := true }) only [stepV, if_true, if_false]
    clear hr
    have t115 := as115_115
    have t116 := as115_116
    have t121 := as115_121
    go_enter Tryz.func62, Tryz.ntmps62
    go_wp2
    go_ret
    exact ⟨rfl, Below.refl _ _⟩
  by_cases h2 : op = 2
  · subst h2
    have hrt : r = true := hr
    subst hrt
    simp (config := { decide := true }) only [stepV, if_true, if_false]
    clear hr
    have t115 := as116_115
    have t116 := as116_116
    have t121 := as116_121
    go_enter Tryz.func62, Tryz.ntmps62
    go_wp2
    go_ret
    exact ⟨rfl, Below.refl _ _⟩
  by_cases h6 : op = 6
  · subst h6
    have hrt : r = true := hr
    subst hrt
    simp (config := { decide := true }) only [stepV, if_true, if_false]
    clear hr
    have t115 := as121_115
    have t116 := as121_116
    have t121 := as121_121
    go_enter Tryz.func62, Tryz.ntmps62
    go_wp2
    go_ret
    exact ⟨rfl, Below.refl _ _⟩
  by_cases h3 : op = 3
  · subst h3
    have HR : Hid (r = decide (s.size ≤ 120)) := hr
    simp (config := { decide := true }) only [stepV, if_true, if_false]
    clear hr
    have t115 := as118_115
    have t116 := as118_116
    have t121 := as118_121
    have t118 := as118_118
    go_enter Tryz.func62, Tryz.ntmps62
    go_wp2_with (go_at_call 73; refine (HSH.out _).mono ?_; rintro e w1 ⟨rfl, rfl⟩)
    all_goals go_ret
    all_goals exact ⟨ret_bool HR.out.symm, (Below.refl _ _).alloc (Nat.le_refl _) _⟩
  by_cases h4 : op = 4
  · subst h4
    have HR : Hid (r = decide (s.size ≤ 120)) := hr
    simp (config := { decide := true }) only [stepV, if_true, if_false]
    clear hr
    have t115 := as119_115
    have t116 := as119_116
    have t121 := as119_121
    have t118 := as119_118
    have t119 := as119_119
    go_enter Tryz.func62, Tryz.ntmps62
    go_wp2_with (go_at_call 73; refine (HSH.out _).mono ?_; rintro e w1 ⟨rfl, rfl⟩)
    all_goals go_ret
    all_goals exact ⟨ret_bool HR.out.symm, (Below.refl _ _).alloc (Nat.le_refl _) _⟩
  by_cases h5 : op = 5
  · subst h5
    have HR : Hid (r = decide (s.size ≤ 120)) := hr
    simp (config := { decide := true }) only [stepV, if_true, if_false]
    clear hr
    have t115 := as120_115
    have t116 := as120_116
    have t121 := as120_121
    have t118 := as120_118
    have t119 := as120_119
    have t120 := as120_120
    go_enter Tryz.func62, Tryz.ntmps62
    go_wp2_with (go_at_call 73; refine (HSH.out _).mono ?_; rintro e w1 ⟨rfl, rfl⟩)
    all_goals go_ret
    all_goals exact ⟨ret_bool HR.out.symm, (Below.refl _ _).alloc (Nat.le_refl _) _⟩
  by_cases h7 : op = 7
  · subst h7
    have HR : Hid (r = (decide (s.size ≤ 120) && (decide (0 ≤ skip) && decide (skip ≤ b)))) := hr
    simp (config := { decide := true }) only [stepV, if_true, if_false]
    clear hr
    have t115 := as123_115
    have t116 := as123_116
    have t121 := as123_121
    have t118 := as123_118
    have t119 := as123_119
    have t120 := as123_120
    have t123 := as123_123
    go_enter Tryz.func62, Tryz.ntmps62
    go_wp2_with (go_at_call 73; refine (HSH.out _).mono ?_; rintro e w1 ⟨rfl, rfl⟩)
    all_goals go_ret
    all_goals refine ⟨ret_bool ?_, (Below.refl _ _).alloc (Nat.le_refl _) _⟩
    all_goals rw [HR.out]
    all_goals (simp_all)
    all_goals (intros; omega)
  have hrf : r = false := by rw [hr, fitB, if_neg (by omega), if_neg (by omega), if_neg (by omega)]
  subst hrf
  rw [stepV, if_neg h1, if_neg h2, if_neg h3, if_neg h4, if_neg h5, if_neg h6, if_neg h7]
  clear hr
  have t115 := as0_115
  have t116 := as0_116
  have t121 := as0_121
  have t118 := as0_118
  have t119 := as0_119
  have t120 := as0_120
  have t123 := as0_123
  go_enter Tryz.func62, Tryz.ntmps62
  go_wp2
  go_ret
  exact ⟨rfl, Below.refl _ _⟩

set_option maxRecDepth 100000 in
set_option maxHeartbeats 4000000 in
theorem line116_any (num : Int) (w : World) :
    Calls Tryz.prog 116 #[.agg #[.int .i64 num]] w fun e w' => e = .returned (.agg #[.int .i64 1, .string ⟨#[]⟩, .int .i64 num, .int .i64 0]) ∧ Below w.heap.size w w' := by
  go_enter Tryz.func116, Tryz.ntmps116
  go_wp2
  exact bodyPost_ret (v := .agg #[.int .i64 1, .string ⟨#[]⟩, .int .i64 num, .int .i64 0]) (by simp [results, Tryz.results116, go_sem]) rfl ⟨rfl, below_alloc2 _ _⟩

set_option maxRecDepth 100000 in
set_option maxHeartbeats 4000000 in
theorem line117_any (num : Int) (w : World) :
    Calls Tryz.prog 117 #[.agg #[.int .i64 num]] w fun e w' => e = .returned (.agg #[.int .i64 2, .string ⟨#[]⟩, .int .i64 num, .int .i64 0]) ∧ Below w.heap.size w w' := by
  go_enter Tryz.func117, Tryz.ntmps117
  go_wp2
  exact bodyPost_ret (v := .agg #[.int .i64 2, .string ⟨#[]⟩, .int .i64 num, .int .i64 0]) (by simp [results, Tryz.results117, go_sem]) rfl ⟨rfl, below_alloc2 _ _⟩

set_option maxRecDepth 100000 in
set_option maxHeartbeats 4000000 in
theorem line121_any (num : Int) (w : World) :
    Calls Tryz.prog 119 #[.agg #[.int .i64 num]] w fun e w' => e = .returned (.agg #[.int .i64 6, .string ⟨#[]⟩, .int .i64 num, .int .i64 0]) ∧ Below w.heap.size w w' := by
  go_enter Tryz.func119, Tryz.ntmps119
  go_wp2
  exact bodyPost_ret (v := .agg #[.int .i64 6, .string ⟨#[]⟩, .int .i64 num, .int .i64 0]) (by simp [results, Tryz.results119, go_sem]) rfl ⟨rfl, below_alloc2 _ _⟩

set_option maxRecDepth 100000 in
set_option maxHeartbeats 4000000 in
theorem line118_any (s : ByteArray) (w : World) :
    Calls Tryz.prog 114 #[.agg #[.string s]] w fun e w' => e = .returned (.agg #[.int .i64 3, .string s, .int .i64 0, .int .i64 0]) ∧ Below w.heap.size w w' := by
  go_enter Tryz.func114, Tryz.ntmps114
  go_wp2
  exact bodyPost_ret (v := .agg #[.int .i64 3, .string s, .int .i64 0, .int .i64 0]) (by simp [results, Tryz.results114, go_sem]) rfl ⟨rfl, below_alloc2 _ _⟩

set_option maxRecDepth 100000 in
set_option maxHeartbeats 4000000 in
theorem line119_any (s : ByteArray) (w : World) :
    Calls Tryz.prog 115 #[.agg #[.string s]] w fun e w' => e = .returned (.agg #[.int .i64 4, .string s, .int .i64 0, .int .i64 0]) ∧ Below w.heap.size w w' := by
  go_enter Tryz.func115, Tryz.ntmps115
  go_wp2
  exact bodyPost_ret (v := .agg #[.int .i64 4, .string s, .int .i64 0, .int .i64 0]) (by simp [results, Tryz.results115, go_sem]) rfl ⟨rfl, below_alloc2 _ _⟩

set_option maxRecDepth 100000 in
set_option maxHeartbeats 4000000 in
theorem line120_any (s : ByteArray) (w : World) :
    Calls Tryz.prog 118 #[.agg #[.string s]] w fun e w' => e = .returned (.agg #[.int .i64 5, .string s, .int .i64 0, .int .i64 0]) ∧ Below w.heap.size w w' := by
  go_enter Tryz.func118, Tryz.ntmps118
  go_wp2
  exact bodyPost_ret (v := .agg #[.int .i64 5, .string s, .int .i64 0, .int .i64 0]) (by simp [results, Tryz.results118, go_sem]) rfl ⟨rfl, below_alloc2 _ _⟩

set_option maxRecDepth 100000 in
set_option maxHeartbeats 4000000 in
theorem line122_any (s : ByteArray) (skip : Int) (w : World) :
    Calls Tryz.prog 120 #[.agg #[.string s, .int .i64 skip]] w fun e w' => e = .returned (.agg #[.int .i64 7, .string s, .int .i64 0, .int .i64 skip]) ∧ Below w.heap.size w w' := by
  go_enter Tryz.func120, Tryz.ntmps120
  go_wp2
  exact bodyPost_ret (v := .agg #[.int .i64 7, .string s, .int .i64 0, .int .i64 skip]) (by simp [results, Tryz.results120, go_sem]) rfl ⟨rfl, below_alloc2 _ _⟩

end Go.Proofs.YtimgafblpmjajaaGreat
namespace Go.Proofs.YtimgafblpmjajaaGreat

open Go.RowKit

theorem keep4 {B n : Nat} {W W' : World} {u0 u1 u2 u3 : Value} (hb : Below B W W') (hz : n < B) (m0 : W.cell? ⟨n, 0, none⟩ = some u0) (m1 : W.cell? ⟨n, 1, none⟩ = some u1) (m2 : W.cell? ⟨n, 2, none⟩ = some u2) (m3 : W.cell? ⟨n, 3, none⟩ = some u3) :
    W'.cell? ⟨n, 0, none⟩ = some u0 ∧ W'.cell? ⟨n, 1, none⟩ = some u1 ∧ W'.cell? ⟨n, 2, none⟩ = some u2 ∧ W'.cell? ⟨n, 3, none⟩ = some u3 ∧ W.heap.size ≤ W'.heap.size :=
  ⟨below_cell0 hb hz m0, below_cell0 hb hz m1, below_cell0 hb hz m2, below_cell0 hb hz m3, hb.size⟩

set_option maxRecDepth 100000 in
theorem step_ex (op num skip : Int) (s : ByteArray) (name : List UInt8) (hs : s.data.toList = name) (hop : 1 ≤ op ∧ op ≤ 7) :
    ∃ (T : TypeId) (P : Value) (fid : FuncId) (sA : ByteArray) (nA kA : Int), stepV op s num skip = .iface T P ∧ (∀ W : World, (method 289 T P "loop.example/bobbin/impl.line").run Tryz.prog W = .ok (fid, P) W) ∧ (∀ W : World, (callFunc fid #[P]).run Tryz.prog W = .ok (.enter fid #[P]) W) ∧
      (∀ W : World, Calls Tryz.prog fid #[P] W fun e w' => e = .returned (.agg #[.int .i64 op, .string sA, .int .i64 nA, .int .i64 kA]) ∧ Below W.heap.size W w') ∧
      ∀ (N k : Nat), okLn N k ⟨op, name, num, skip⟩ = (fitB op s skip ((N : Int) - k - 1) && ((sA.toList == s.toList) && ((nA == num) && (kA == skip)))) := by
  by_cases h1 : op = 1
  · subst h1
    refine ⟨111, .agg #[.int .i64 num], 116, ⟨#[]⟩, num, 0, rfl, fun _ => by kernel_rfl, fun _ => by kernel_rfl, line116_any num, fun N k => ?_⟩
    simp (config := { decide := true }) only [okLn, fitB, if_true, if_false]
    rw [str_beq (s := ⟨#[]⟩) (a := []) rfl hs]
    rw [Bool.eq_iff_iff]; simp; try omega
  by_cases h2 : op = 2
  · subst h2
    refine ⟨112, .agg #[.int .i64 num], 117, ⟨#[]⟩, num, 0, rfl, fun _ => by kernel_rfl, fun _ => by kernel_rfl, line117_any num, fun N k => ?_⟩
    simp (config := { decide := true }) only [okLn, fitB, if_true, if_false]
    rw [str_beq (s := ⟨#[]⟩) (a := []) rfl hs]
    rw [Bool.eq_iff_iff]; simp; try omega
  by_cases h3 : op = 3
  · subst h3
    refine ⟨108, .agg #[.string s], 114, s, 0, 0, rfl, fun _ => by kernel_rfl, fun _ => by kernel_rfl, line118_any s, fun N k => ?_⟩
    simp (config := { decide := true }) only [okLn, fitB, if_true, if_false]
    rw [size_data, hs]
    rw [Bool.eq_iff_iff]; simp; try omega
  by_cases h4 : op = 4
  · subst h4
    refine ⟨109, .agg #[.string s], 115, s, 0, 0, rfl, fun _ => by kernel_rfl, fun _ => by kernel_rfl, line119_any s, fun N k => ?_⟩
    simp (config := { decide := true }) only [okLn, fitB, if_true, if_false]
    rw [size_data, hs]
    rw [Bool.eq_iff_iff]; simp; try omega
  by_cases h5 : op = 5
  · subst h5
    refine ⟨113, .agg #[.string s], 118, s, 0, 0, rfl, fun _ => by kernel_rfl, fun _ => by kernel_rfl, line120_any s, fun N k => ?_⟩
    simp (config := { decide := true }) only [okLn, fitB, if_true, if_false]
    rw [size_data, hs]
    rw [Bool.eq_iff_iff]; simp; try omega
  by_cases h6 : op = 6
  · subst h6
    refine ⟨114, .agg #[.int .i64 num], 119, ⟨#[]⟩, num, 0, rfl, fun _ => by kernel_rfl, fun _ => by kernel_rfl, line121_any num, fun N k => ?_⟩
    simp (config := { decide := true }) only [okLn, fitB, if_true, if_false]
    rw [str_beq (s := ⟨#[]⟩) (a := []) rfl hs]
    rw [Bool.eq_iff_iff]; simp; try omega
  by_cases h7 : op = 7
  · subst h7
    refine ⟨116, .agg #[.string s, .int .i64 skip], 120, s, 0, skip, rfl, fun _ => by kernel_rfl, fun _ => by kernel_rfl, line122_any s skip, fun N k => ?_⟩
    simp (config := { decide := true }) only [okLn, fitB, if_true, if_false]
    rw [size_data, hs]
    rw [Bool.eq_iff_iff]; simp; try omega
  omega
theorem step_no (op num skip : Int) (s : ByteArray) (name : List UInt8) (N k : Nat) (b : Int) (hop : ¬ (1 ≤ op ∧ op ≤ 7)) : okLn N k ⟨op, name, num, skip⟩ = false ∧ fitB op s skip b = false := by
  constructor
  · rw [okLn, if_neg (by simp only []; omega), if_neg (by simp only []; omega), if_neg (by simp only []; omega)]
  · rw [fitB, if_neg (by omega), if_neg (by omega), if_neg (by omega)]

set_option maxRecDepth 100000 in
set_option maxHeartbeats 8000000 in
theorem firstOddLine_any (v : Value) (L : List Ln) (w : World) (h : Lns w v L) (hL : L.length ≤ 1048576) (hLL : ∀ l ∈ L, l.name.length ≤ 1048576) :
    Calls Tryz.prog 46 #[v] w fun e w' => e = .returned (.int .i64 (firstN (badLn L) L.length 0 : Nat)) ∧ Below w.heap.size w w' := by
  obtain ⟨a, cap, rfl, hcap, hmax, hc⟩ := h
  have HC : Hid (∀ k, (hk : k < L.length) → ∃ b o, a = some ⟨b, o, none⟩ ∧ b < w.heap.size ∧
    w.cell? ⟨b, o + k * 4, none⟩ = some (.int .i64 L[k].op) ∧ w.cell? ⟨b, o + k * 4 + 1, none⟩ = some (strV L[k].name) ∧ w.cell? ⟨b, o + k * 4 + 2, none⟩ = some (.int .i64 L[k].num) ∧ w.cell? ⟨b, o + k * 4 + 3, none⟩ = some (.int .i64 L[k].skip)) := hc
  have HLL : Hid (∀ l ∈ L, l.name.length ≤ 1048576) := hLL
  clear hc hmax hLL
  go_enter Tryz.func46, Tryz.ntmps46
  go_wp2
  go_loopw [9] (fun i wr => ∃ k : Nat, k ≤ L.length ∧ i = .int .i64 k ∧ (∀ j, j < k → badLn L j = false) ∧ Below w.heap.size w wr) (fun i _ => L.length - (intOf i).toNat)
  case atStart => exact ⟨0, Nat.zero_le _, rfl, fun j h => absurd h (by omega), Below.refl _ _⟩
  case round =>
    obtain ⟨k, hk, rfl, hbad, hB⟩ := hrel
    have HBAD : Hid (∀ j, j < k → badLn L j = false) := hbad
    clear hbad
    by_cases hlt : k < L.length
    · obtain ⟨b, o, rfl, hb, h0, h1, h2, h3⟩ := HC.out k hlt
      have c0 := (hB.cell (p := ⟨b, o + k * 4, none⟩) hb).trans h0
      have c1 := (hB.cell (p := ⟨b, o + k * 4 + 1, none⟩) hb).trans h1
      have c2 := (hB.cell (p := ⟨b, o + k * 4 + 2, none⟩) hb).trans h2
      have c3 := (hB.cell (p := ⟨b, o + k * 4 + 3, none⟩) hb).trans h3
      have hsz := HLL.out _ (List.getElem_mem hlt)
      have hbl := badLn_at hlt
      obtain ⟨l, hl⟩ : ∃ l, l = L[k] := ⟨_, rfl⟩
      rw [← hl] at c0 c1 c2 c3 hsz hbl
      obtain ⟨op, name, num, skip⟩ := l
      simp only [] at c0 c1 c2 c3 hsz
      obtain ⟨s, hs⟩ : ∃ s : ByteArray, s.data.toList = name := ⟨⟨name.toArray⟩, by simp⟩
      have hsv : strV name = .string s := by rw [← hs, strV_data]
      rw [hsv] at c1
      rw [← hs, ← size_data] at hsz
      have HBL : Hid (badLn L k = !okLn L.length k ⟨op, name, num, skip⟩) := hbl
      have HS : Hid (s.data.toList = name) := hs
      have HF : Hid (∀ (bb : Int) W, Calls Tryz.prog 62 #[stepV op s num skip, .int .i64 bb] W fun e w' => e = .returned (.bool (fitB op s skip bb)) ∧ Below W.heap.size W w') := fun bb W => fits_any op num skip bb s W hsz
      clear h0 h1 h2 h3 hbl hl hs hsv
      go_wp2_with fail
      refine (stepOf_any op num skip s _).mono ?_
      rintro e w1 ⟨rfl, hb1⟩
      have m0 : w1.cell? ⟨wr.heap.size, 0, none⟩ = some (.int .i64 op) := below_cell0 hb1 (by simp) (by simp [go_sem])
      have m1 : w1.cell? ⟨wr.heap.size, 1, none⟩ = some (.string s) := below_cell0 hb1 (by simp) (by simp [go_sem])
      have m2 : w1.cell? ⟨wr.heap.size, 2, none⟩ = some (.int .i64 num) := below_cell0 hb1 (by simp) (by simp [go_sem])
      have m3 : w1.cell? ⟨wr.heap.size, 3, none⟩ = some (.int .i64 skip) := below_cell0 hb1 (by simp) (by simp [go_sem])
      have hB1 : Below w.heap.size w w1 := (hB.alloc hB.size _).trans (hb1.mono (by have := hB.size; simp; omega))
      have hz1 : wr.heap.size < w1.heap.size := by have := hb1.size; simp at this; omega
      clear c0 c1 c2 c3 hb1
      obtain ⟨f, hf⟩ : ∃ f, f = fitB op s skip ((L.length : Int) - k - 1) := ⟨_, rfl⟩
      have HF1 : Hid (∀ W, Calls Tryz.prog 62 #[stepV op s num skip, .int .i64 ((L.length : Int) - k - 1)] W fun e w' => e = .returned (.bool f) ∧ Below W.heap.size W w') := fun W => by rw [hf]; exact HF.out _ W
      have HFF : Hid (f = fitB op s skip ((L.length : Int) - k - 1)) := hf
      clear hf
      cases f with
      | false =>
        have HODD : Hid (badLn L k = true) := by
          unfold Hid
          rw [HBL.out]
          by_cases hop : 1 ≤ op ∧ op ≤ 7
          · obtain ⟨T, P, fid, sA, nA, kA, _, _, _, _, hok⟩ := step_ex op num skip s name HS.out hop
            rw [hok, ← HFF.out]; rfl
          · rw [(step_no op num skip s name L.length k 0 hop).1]; rfl
        obtain ⟨V, hV⟩ : ∃ V, V = stepV op s num skip := ⟨_, rfl⟩
        rw [← hV] at HF1 ⊢
        clear hV
        go_wp2
        first | (go_region_with (first | (go_at_call 62; refine (HF1.out _).mono ?_; rintro e w2 ⟨rfl, hb2⟩; obtain ⟨x0, x1, x2, x3, xz⟩ := keep4 (W := w1.drew) hb2 hz1 m0 m1 m2 m3))) | fail
        all_goals
          go_wp2
          go_ret
          exact ⟨ret_int (by rw [firstN_hit hlt HBAD.out HODD.out]), hB1.drew.trans (hb2.mono hB1.size)⟩
      | true =>
        have hop : 1 ≤ op ∧ op ≤ 7 := by
          by_cases hop : 1 ≤ op ∧ op ≤ 7
          · exact hop
          · have := (step_no op num skip s name L.length k ((L.length : Int) - k - 1) hop).2
            rw [← HFF.out] at this; cases this
        obtain ⟨T, P, fid, sA, nA, kA, hst, hm, hcf, hln, hok⟩ := step_ex op num skip s name HS.out hop
        rw [hst] at HF1 ⊢
        have HLN : Hid (∀ W : World, Calls Tryz.prog fid #[P] W fun e w' => e = .returned (.agg #[.int .i64 op, .string sA, .int .i64 nA, .int .i64 kA]) ∧ Below W.heap.size W w') := hln
        have HOK : Hid (badLn L k = !((sA.toList == s.toList) && ((nA == num) && (kA == skip)))) := by unfold Hid; rw [HBL.out, hok, ← HFF.out, Bool.true_and]
        clear hst hln hok hop
        by_cases q1 : (sA.toList == s.toList) = true
        · by_cases q2 : nA = num
          · by_cases q3 : kA = skip
            · have HGOOD : Hid (badLn L k = false) := by unfold Hid; rw [HOK.out, q1, q2, q3]; simp
              subst q2 q3
              go_wp2
              go_region_with (first | (go_at_call 62; refine (HF1.out _).mono ?_; rintro e w2 ⟨rfl, hb2⟩; obtain ⟨x0, x1, x2, x3, xz⟩ := keep4 (W := w1.drew) hb2 hz1 m0 m1 m2 m3) | (refine (HLN.out _).mono ?_; rintro e w3 ⟨rfl, hb3⟩; obtain ⟨y0, y1, y2, y3, yz⟩ := keep4 hb3 (Nat.lt_of_lt_of_le hz1 xz) x0 x1 x2 x3))
              all_goals
                go_wp2
                go_roundw
                case rel => exact ⟨k + 1, by omega, by go_num, fun j hjk => by
                  by_cases hjk' : j = k
                  · subst hjk'; exact HGOOD.out
                  · exact HBAD.out j (by omega), hB1.drew.trans ((hb2.trans (hb3.mono hb2.size)).mono hB1.size)⟩
                case measure => simp [intOf]; omega
            · have q3' : (kA == skip) = false := by simpa using q3
              have HODD : Hid (badLn L k = true) := by unfold Hid; rw [HOK.out]; rw [q3']; simp
              go_wp2
              go_region_with (first | (go_at_call 62; refine (HF1.out _).mono ?_; rintro e w2 ⟨rfl, hb2⟩; obtain ⟨x0, x1, x2, x3, xz⟩ := keep4 (W := w1.drew) hb2 hz1 m0 m1 m2 m3) | (refine (HLN.out _).mono ?_; rintro e w3 ⟨rfl, hb3⟩; obtain ⟨y0, y1, y2, y3, yz⟩ := keep4 hb3 (Nat.lt_of_lt_of_le hz1 xz) x0 x1 x2 x3))
              all_goals
                go_wp2
                go_ret
                exact ⟨ret_int (by rw [firstN_hit hlt HBAD.out HODD.out]), hB1.drew.trans ((hb2.trans (hb3.mono hb2.size)).mono hB1.size)⟩
          · have q2' : (nA == num) = false := by simpa using q2
            have HODD : Hid (badLn L k = true) := by unfold Hid; rw [HOK.out]; rw [q2']; simp
            go_wp2
            go_region_with (first | (go_at_call 62; refine (HF1.out _).mono ?_; rintro e w2 ⟨rfl, hb2⟩; obtain ⟨x0, x1, x2, x3, xz⟩ := keep4 (W := w1.drew) hb2 hz1 m0 m1 m2 m3) | (refine (HLN.out _).mono ?_; rintro e w3 ⟨rfl, hb3⟩; obtain ⟨y0, y1, y2, y3, yz⟩ := keep4 hb3 (Nat.lt_of_lt_of_le hz1 xz) x0 x1 x2 x3))
            all_goals
              go_wp2
              go_ret
              exact ⟨ret_int (by rw [firstN_hit hlt HBAD.out HODD.out]), hB1.drew.trans ((hb2.trans (hb3.mono hb2.size)).mono hB1.size)⟩
        · have q1' : (sA.toList == s.toList) = false := by simpa using q1
          clear q1
          have HODD : Hid (badLn L k = true) := by unfold Hid; rw [HOK.out]; rw [q1']; simp
          go_wp2
          go_region_with (first | (go_at_call 62; refine (HF1.out _).mono ?_; rintro e w2 ⟨rfl, hb2⟩; obtain ⟨x0, x1, x2, x3, xz⟩ := keep4 (W := w1.drew) hb2 hz1 m0 m1 m2 m3) | (refine (HLN.out _).mono ?_; rintro e w3 ⟨rfl, hb3⟩; obtain ⟨y0, y1, y2, y3, yz⟩ := keep4 hb3 (Nat.lt_of_lt_of_le hz1 xz) x0 x1 x2 x3))
          all_goals
            go_wp2
            go_ret
            exact ⟨ret_int (by rw [firstN_hit hlt HBAD.out HODD.out]), hB1.drew.trans ((hb2.trans (hb3.mono hb2.size)).mono hB1.size)⟩
    · have HNONE : Hid (firstN (badLn L) L.length 0 = L.length) := firstN_none (fun j hj => HBAD.out j (by omega))
      go_wp2
      go_ret
      exact ⟨ret_int (by rw [HNONE.out]), hB⟩
end Go.Proofs.YtimgafblpmjajaaGreat
namespace Go.Proofs.YtimgafblpmjajaaGreat

open Go.RowKit Go.Maps

theorem Tryz.laidOut0 : laidOutB Tryz.prog = true := by kernel_rfl
theorem Tryz.row93 : 91 < Tryz.prog.types.size := of_decide_eq_true (by kernel_rfl)
theorem Tryz.wide93 : (match Tryz.prog.underlying 91 with | some (.array _ _) | some (.struct _) => true | _ => false) = true := by kernel_rfl
theorem Tryz.key93 : Tryz.prog.keyTypeAt 3 91 = true := by kernel_rfl
set_option maxRecDepth 100000 in
theorem lawK : Keyed Tryz.prog 91 := Keyed.of_law (deep_law_laid Tryz.laidOut0 (m := 3) (by omega) Tryz.row93 Tryz.key93 Tryz.wide93)

/-- What a name in its one form reads as, as a key. -/
def keyL (l : List UInt8) : Lit := .string (keyBytes [.string l])
theorem key_form (s : ByteArray) : keyOf Tryz.prog 91 (.agg #[.string s]) = (if s.size ≤ maxLen then some (keyL s.data.toList) else none) := by
  have h : keyOf Tryz.prog 91 (.agg #[.string s]) = ((((if s.size ≤ maxLen then some [Lit.string s.data.toList] else none : Option (List Lit)).bind fun a => some [a]).map List.flatten).map fun ls => Lit.string (keyBytes ls)) := by kernel_rfl
  rw [h]
  split <;> rfl
theorem key_mk {s : ByteArray} {l : List UInt8} (hs : s.data.toList = l) (h : s.size ≤ maxLen) : keyOf Tryz.prog 91 (.agg #[.string s]) = some (keyL l) := by rw [key_form, if_pos h, hs]
theorem keyL_ne {s t : ByteArray} (hs : s.size ≤ maxLen) (ht : t.size ≤ maxLen) (h : s.data.toList ≠ t.data.toList) : keyL s.data.toList ≠ keyL t.data.toList := fun e => by
  have h1 := key_mk (s := s) rfl hs
  have h2 := key_mk (s := t) rfl ht
  rw [e] at h1
  have := lawK.inj h1 h2
  injection this with h3
  have h4 : (Value.string s) = .string t := by simpa using h3
  injection h4 with h5
  exact h (by rw [h5])
theorem zero3 (w : World) : (zeroValue 3).run Tryz.prog w = .ok (.int .i64 0) w := by kernel_rfl

theorem map_below {w w' : World} {B b n : Nat} {D : DataW Unit} (h : w.ownsMap Tryz.prog 91 (plainElem Tryz.prog 3) b n D) (hb : Below B w w') (hB : b < B) : w'.ownsMap Tryz.prog 91 (plainElem Tryz.prog 3) b n D := by
  obtain ⟨es, clock, hh, r⟩ := h
  exact ⟨es, clock, (hb.block b hB).trans hh, r⟩

/-- The shelf holds just the names of the first k. -/
def Shelved (M : List Md) (k : Nat) (D : DataW Unit) : Prop := IsMap D ∧ ∀ l : List UInt8, l.length ≤ 1048576 → Maps.has D (keyL l) = (M.take k).any (fun m => decide (m.name = l))
theorem shelved_zero (M : List Md) : Shelved M 0 (.map []) := ⟨isMap_empty, fun _ _ => rfl⟩
theorem arr_of (l : List UInt8) (h : l.length ≤ 1048576) : ∃ s : ByteArray, s.data.toList = l ∧ s.size ≤ maxLen := ⟨⟨l.toArray⟩, by simp, by rw [size_data]; simp; unfold maxLen; omega⟩
theorem shelved_put {M : List Md} {k : Nat} {D : DataW Unit} (h : Shelved M k D) (hk : k < M.length) (hn : M[k].name.length ≤ 1048576) (d : DataW Unit) : Shelved M (k + 1) (D.put (keyL M[k].name) d) := by
  refine ⟨h.1.put _ _, fun l hl => ?_⟩
  obtain ⟨s, hs, hsz⟩ := arr_of l hl
  obtain ⟨t, ht, htz⟩ := arr_of M[k].name hn
  rw [List.take_succ_eq_append_getElem hk, List.any_append]
  by_cases he : M[k].name = l
  · rw [he, has_put_same h.1 (lawK.key (key_mk hs hsz))]
    simp [he]
  · have hne : keyL l ≠ keyL M[k].name := by
      have := keyL_ne hsz htz (by rw [hs, ht]; exact fun e => he e.symm)
      rwa [hs, ht] at this
    rw [has_put_other hne, h.2 l hl]
    simp [he]

set_option maxRecDepth 100000 in
set_option maxHeartbeats 8000000 in
theorem shelve_any (v : Value) (M : List Md) (w : World) (h : Mds w v M) (hM : M.length ≤ 1048576) (hMM : ∀ m ∈ M, m.t ≤ 1048576) :
    Calls Tryz.prog 31 #[v] w fun e w' => ∃ mv, e = .returned (.tuple #[mv, .int .i64 (firstN (badMd M) M.length 0 : Nat)]) ∧ Below w.heap.size w w' := by
  have hmm := @run_makeMap Tryz.prog
  obtain ⟨a, cap, rfl, hcap, hmax, hc⟩ := h
  have HC : Hid (∀ k, (hk : k < M.length) → ∃ b o s, a = some ⟨b, o, none⟩ ∧ b < w.heap.size ∧
    w.cell? ⟨b, o + k * 2, none⟩ = some (strV M[k].name) ∧ w.cell? ⟨b, o + k * 2 + 1, none⟩ = some s ∧ Lns w s M[k].lines) := hc
  have HMM : Hid (∀ m ∈ M, m.t ≤ 1048576) := hMM
  clear hc hmax hMM
  go_enter Tryz.func31, Tryz.ntmps31
  go_wp2
  go_loopw [14] (fun i wr => ∃ (k : Nat) (D : DataW Unit), k ≤ M.length ∧ i = .int .i64 k ∧ (∀ j, j < k → badMd M j = false) ∧ wr.ownsMap Tryz.prog 91 (plainElem Tryz.prog 3) w.heap.size k D ∧ Shelved M k D ∧ Below w.heap.size w wr) (fun i _ => M.length - (intOf i).toNat)
  case atStart => exact ⟨0, _, Nat.zero_le _, rfl, fun j h => absurd h (by omega), World.ownsMap_made _ _ _ _, shelved_zero M, (Below.refl _ _).alloc (Nat.le_refl _) _⟩
  case round =>
    obtain ⟨k, D, hk, rfl, hbad, hown, hsh, hB⟩ := hrel
    have HBAD : Hid (∀ j, j < k → badMd M j = false) := hbad
    have HSH : Hid (Shelved M k D) := hsh
    have hwB := hown.lt
    clear hbad hsh hmm
    by_cases hlt : k < M.length
    · obtain ⟨b, o, s, rfl, hb, h0, h1, h2⟩ := HC.out k hlt
      obtain ⟨hs1, hs2, hs3⟩ := Md.small (HMM.out _ (List.getElem_mem hlt))
      obtain ⟨asl, cs, rfl⟩ := h2.slice
      obtain ⟨N, hN⟩ : ∃ N, N = M[k].lines.length := ⟨_, rfl⟩
      obtain ⟨ns, hns⟩ : ∃ ns : ByteArray, ns.data.toList = M[k].name := ⟨⟨M[k].name.toArray⟩, by simp⟩
      have hnv : strV M[k].name = .string ns := by rw [← hns, strV_data]
      rw [hnv] at h0
      rw [← hN] at h1 hs2
      have c0 := (hB.cell (p := ⟨b, o + k * 2, none⟩) hb).trans h0
      have c1 := (hB.cell (p := ⟨b, o + k * 2 + 1, none⟩) hb).trans h1
      have hbm := badMd_at hlt
      rw [← hN] at hbm
      have HBM : Hid (badMd M k = (!isN M[k].name || decide (60 < N) || (M.take k).any (fun m => decide (m.name = M[k].name)))) := hbm
      have HNS : Hid (ns.data.toList = M[k].name) := hns
      have HSZ : Hid (M[k].name.length ≤ 1048576) := hs1
      have HNV : Hid (strV M[k].name = .string ns) := hnv
      clear h0 h1 h2 hs3 hs1 hbm hns hnv hN
      go_wp2_with fail
      refine (asWritten_any ns _).mono ?_
      rw [HNS.out]
      clear c0 c1
      by_cases hi : isN M[k].name = true
      · have hwv : writtenV M[k].name = .tuple #[.agg #[.string ns], .bool true] := by rw [writtenV, if_pos hi, HNV.out]
        rw [hwv]
        have HI : Hid (isN M[k].name = true) := hi
        clear hwv hi
        rintro e w1 ⟨rfl, hb1⟩
        have m0 : w1.cell? ⟨wr.heap.size, 0, none⟩ = some (.string ns) := below_cell0 hb1 (by simp) (by simp [go_sem])
        have m1 : w1.cell? ⟨wr.heap.size, 1, none⟩ = some (.slice asl N cs) := below_cell0 hb1 (by simp) (by simp [go_sem])
        have hB1 : Below w.heap.size w w1 := (hB.alloc hB.size _).trans (hb1.mono (by have := hB.size; simp; omega))
        have hz1 : wr.heap.size < w1.heap.size := by have := hb1.size; simp at this; omega
        have hz2 : w.heap.size < w1.heap.size := by omega
        have hown1 := map_below (hown.alloc _) hb1 (by simp; omega)
        have hkey := key_mk HNS.out (by rw [size_data, HNS.out]; have := HSZ.out; unfold maxLen; omega)
        have HHAS : Hid (Maps.has D (keyL M[k].name) = (M.take k).any (fun m => decide (m.name = M[k].name))) := HSH.out.2 _ HSZ.out
        clear hb1 hown
        obtain ⟨kl, hkl⟩ : ∃ kl, kl = keyL M[k].name := ⟨_, rfl⟩
        rw [← hkl] at hkey HHAS
        have HKL : Hid (kl = keyL M[k].name) := hkl
        clear hkl
        obtain ⟨tk, htk⟩ : ∃ tk, Maps.has D kl = tk := ⟨_, rfl⟩
        have HTK : Hid (Maps.has D kl = tk) := htk
        clear htk
        cases tk with
        | true =>
          have HODD : Hid (badMd M k = true) := by unfold Hid; rw [HBM.out, ← HHAS.out, HTK.out]; simp
          go_wp2_with (first
            | (at_lookup; refine wpList_lookup_own_ok_int _ rfl _ _ 48 rfl 91 3 .i64 lawK Tryz.underlying48 Tryz.underlying3 (zero3 _) w.heap.size k D rfl (hown1.alloc _) _ kl rfl hkey ?_; intro c hat hwc; rw [HTK.out]; clear hat hwc))
          exact bodyPost_ret (v := .tuple #[.map (some w.heap.size), .int .i64 k]) (by simp [results, Tryz.results31, go_sem]) rfl ⟨_, by rw [firstN_hit hlt HBAD.out HODD.out], hB1.alloc (by omega) _⟩
        | false =>
          by_cases h60 : 60 < N
          · have HODD : Hid (badMd M k = true) := by unfold Hid; rw [HBM.out]; simp [h60]
            go_wp2_with (first | (at_lookup; refine wpList_lookup_own_ok_int _ rfl _ _ 48 rfl 91 3 .i64 lawK Tryz.underlying48 Tryz.underlying3 (zero3 _) w.heap.size k D rfl (hown1.alloc _) _ kl rfl hkey ?_; intro c hat hwc; rw [HTK.out]; clear hat hwc))
            exact bodyPost_ret (v := .tuple #[.map (some w.heap.size), .int .i64 k]) (by simp [results, Tryz.results31, go_sem]) rfl ⟨_, by rw [firstN_hit hlt HBAD.out HODD.out], hB1.alloc (by omega) _⟩
          · have HGOOD : Hid (badMd M k = false) := by unfold Hid; rw [HBM.out, HI.out, ← HHAS.out, HTK.out]; simp; omega
            have hzz : w.heap.size < (w1.alloc (Obj.cells #[Value.string ns] 91)).heap.size := by simp; omega
            go_wp2_with (first | (at_lookup; refine wpList_lookup_own_ok_int _ rfl _ _ 48 rfl 91 3 .i64 lawK Tryz.underlying48 Tryz.underlying3 (zero3 _) w.heap.size k D rfl (hown1.alloc _) _ kl rfl hkey ?_; intro c hat hwc; rw [HTK.out]; clear hat hwc) | (at_mapUpdate; refine wpList_mapUpdate_own _ rfl _ _ _ 48 rfl 91 3 lawK Tryz.underlying48 (plainElem (H := Unit) Tryz.prog 3) w.heap.size k D rfl (hown1.alloc _) (by unfold maxLen; omega) _ _ kl rfl rfl hkey _ [] (plainElem_int Tryz.underlying3 (WalkArith.wf_i64 (by omega))) ?_; intro w2 hown2 hgrow2))
            have hB2 : Below w.heap.size w w2 := (hB1.alloc (by omega) _).grown hgrow2 (by simp; omega) (fun j hj => by cases hj; exact Nat.le_refl _)
            go_roundw
            case rel => exact ⟨k + 1, _, by omega, by go_num, fun j hjk => by
              by_cases hjk' : j = k
              · subst hjk'; exact HGOOD.out
              · exact HBAD.out j (by omega), hown2, by rw [HKL.out]; exact shelved_put HSH.out hlt HSZ.out _, hB2⟩
            case measure => simp [intOf]; omega
      · have hi' : isN M[k].name = false := by simpa using hi
        have hwv : writtenV M[k].name = .tuple #[.agg #[.string ⟨#[]⟩], .bool false] := by rw [writtenV, if_neg hi]; rfl
        rw [hwv]
        have HODD : Hid (badMd M k = true) := by unfold Hid; rw [HBM.out, hi']; simp
        clear hwv hi hi'
        rintro e w1 ⟨rfl, hb1⟩
        have m0 : w1.cell? ⟨wr.heap.size, 0, none⟩ = some (.string ns) := below_cell0 hb1 (by simp) (by simp [go_sem])
        have m1 : w1.cell? ⟨wr.heap.size, 1, none⟩ = some (.slice asl N cs) := below_cell0 hb1 (by simp) (by simp [go_sem])
        have hB1 : Below w.heap.size w w1 := (hB.alloc hB.size _).trans (hb1.mono (by have := hB.size; simp; omega))
        have hz1 : wr.heap.size < w1.heap.size := by have := hb1.size; simp at this; omega
        have hz2 : w.heap.size < w1.heap.size := by omega
        have hown1 := map_below (hown.alloc _) hb1 (by simp; omega)
        have hkey : keyOf Tryz.prog 91 (.agg #[.string ⟨#[]⟩]) = some (keyL []) := key_mk (s := ⟨#[]⟩) rfl (by decide)
        obtain ⟨kl, hkl⟩ : ∃ kl, kl = keyL [] := ⟨_, rfl⟩
        rw [← hkl] at hkey
        clear hkl hb1 hown
        obtain ⟨tk, htk⟩ : ∃ tk, Maps.has D kl = tk := ⟨_, rfl⟩
        have HTK : Hid (Maps.has D kl = tk) := htk
        clear htk
        go_wp2_with (first | (at_lookup; refine wpList_lookup_own_ok_int _ rfl _ _ 48 rfl 91 3 .i64 lawK Tryz.underlying48 Tryz.underlying3 (zero3 _) w.heap.size k D rfl (hown1.alloc _) _ kl rfl hkey ?_; intro c hat hwc; rw [HTK.out]; clear hat hwc))
        exact bodyPost_ret (v := .tuple #[.map (some w.heap.size), .int .i64 k]) (by simp [results, Tryz.results31, go_sem]) rfl ⟨_, by rw [firstN_hit hlt HBAD.out HODD.out], hB1.alloc (by omega) _⟩
    · have HNONE : Hid (firstN (badMd M) M.length 0 = M.length) := firstN_none (fun j hj => HBAD.out j (by omega))
      go_wp2
      exact bodyPost_ret (v := .tuple #[.map (some w.heap.size), .int .i64 M.length]) (by simp [results, Tryz.results31, go_sem]) rfl ⟨_, by rw [HNONE.out], hB⟩
end Go.Proofs.YtimgafblpmjajaaGreat
namespace Go.Proofs.YtimgafblpmjajaaGreat

open Go.RowKit

theorem firstN_le (p : Nat → Bool) : ∀ f i, firstN p f i ≤ i + f
  | 0, i => by rw [firstN]; omega
  | f + 1, i => by
    rw [firstN]
    split
    · omega
    · have := firstN_le p f (i + 1); omega

set_option maxHeartbeats 8000000 in
set_option maxRecDepth 100000 in
theorem implWorldOk_any (v : Value) (D : Wd) (w : World) (h : Wds w v D) (hD : D.t ≤ 1048576) :
    Calls Tryz.prog 30 #[v] w fun e w' => e = .returned (wrongV (wok D)) ∧ Below w.heap.size w w' := by
  obtain ⟨vr, vm, vf, rfl, h1, h2, h3⟩ := h
  have hr1 : D.roots.length ≤ 1048576 := by have : D.roots.length ≤ Pl.total D.roots := by unfold Pl.total; omega
                                            unfold Wd.t at hD; omega
  have hm1 : D.mods.length ≤ 1048576 := by unfold Wd.t mdsT at hD; omega
  have hm2 : ∀ m ∈ D.mods, m.t ≤ 1048576 := fun m hm => by
    have h1 : m.t ≤ (D.mods.map Md.t).sum := mem_le_sum _ _ (List.mem_map.2 ⟨m, hm, rfl⟩)
    unfold Wd.t mdsT at hD; omega
  have hf1 : D.faults.length ≤ 1048576 := by unfold Wd.t at hD; omega
  obtain ⟨R, hR⟩ : ∃ R, R = wok D := ⟨_, rfl⟩
  rw [← hR]
  have HR : Hid (R = wok D) := hR
  clear hR
  obtain ⟨a1, k1, rfl⟩ := h1.slice
  obtain ⟨a2, k2, rfl⟩ := h2.slice
  obtain ⟨a3, k3, rfl⟩ := h3.slice
  obtain ⟨W, hW⟩ : ∃ W, W = (w.alloc (.cells #[.slice a1 D.roots.length k1, .slice a2 D.mods.length k2, .slice a3 D.faults.length k3] 27)).alloc (.cells #[.int .i64 0, .int .i64 0, .int .i64 0] 77) := ⟨_, rfl⟩
  have hWB : Below w.heap.size w W := by rw [hW]; exact below_alloc2 _ _
  have hWs : W.heap.size = w.heap.size + 2 := by rw [hW]; simp
  have hBx : Bx w.heap.size W (.slice a1 D.roots.length k1) (.slice a2 D.mods.length k2) (.slice a3 D.faults.length k3) := by
    rw [hW]; constructor <;> simp [go_sem]
  have HW : Hid (W = (w.alloc (.cells #[.slice a1 D.roots.length k1, .slice a2 D.mods.length k2, .slice a3 D.faults.length k3] 27)).alloc (.cells #[.int .i64 0, .int .i64 0, .int .i64 0] 77)) := hW
  have HM2 : Hid (∀ m ∈ D.mods, m.t ≤ 1048576) := hm2
  have H1 : Hid (Strs w (.slice a1 D.roots.length k1) D.roots) := h1
  have H2 : Hid (Mds w (.slice a2 D.mods.length k2) D.mods) := h2
  have H3 : Hid (Nums w (.slice a3 D.faults.length k3) D.faults) := h3
  clear hW hm2 h1 h2 h3 hD
  go_enter Tryz.func30, Tryz.ntmps30
  go_wp2_with fail
  rw [← HW.out]
  refine (hasTooMany_any _ _ _ _ _ _ _ _ _ _ hr1 hm1 hf1).mono ?_
  by_cases hbig : 60 < D.mods.length ∨ 8 < D.roots.length ∨ 400 < D.faults.length
  · have hR1 : R = (1, 0, 0) := by rw [HR.out, wok_1 hbig]
    subst hR1
    rw [decide_eq_true hbig]
    rintro e w1 ⟨rfl, hb1⟩
    have hB1 : Below (w.heap.size + 2) W w1 := hb1.mono (by omega)
    obtain ⟨p0, p1, p2, q0, q1, q2, f0, f1, f2⟩ := hBx.below hB1 (Nat.le_refl _)
    clear hbig hb1
    go_wp2
    exact bodyPost_ret (v := wrongV (1, 0, 0)) (by simp [results, Tryz.results30, go_sem, wrongV, *]) rfl ⟨rfl, below_ret hWB hB1 _ _ _⟩
  rw [decide_eq_false hbig]
  have HBIG : Hid (¬ (60 < D.mods.length ∨ 8 < D.roots.length ∨ 400 < D.faults.length)) := hbig
  clear hbig
  rintro e w1 ⟨rfl, hb1⟩
  have hB1 : Below (w.heap.size + 2) W w1 := hb1.mono (by omega)
  clear hb1
  obtain ⟨p0, p1, p2, q0, q1, q2, f0, f1, f2⟩ := hBx.below hB1 (Nat.le_refl _)
  go_wp2_with fail
  refine (containsFunc_any _ D.roots w1 (H1.out.below (hWB.trans (hB1.mono (by omega))) (Nat.le_refl _)) hr1).mono ?_
  obtain ⟨rt, hrt⟩ : ∃ rt, D.roots.any oddRoot = rt := ⟨_, rfl⟩
  rw [hrt]
  have HRT : Hid (D.roots.any oddRoot = rt) := hrt
  clear hrt p0 p1 p2 q0 q1 q2 f0 f1 f2
  rintro e w2 ⟨rfl, hb2⟩
  have hB2 : Below (w.heap.size + 2) W w2 := hB1.trans (hb2.mono (by have := hB1.size; omega))
  clear hb2 hB1
  obtain ⟨p0, p1, p2, q0, q1, q2, f0, f1, f2⟩ := hBx.below hB2 (Nat.le_refl _)
  cases rt with
  | true =>
    have hR2 : R = (2, 0, 0) := by rw [HR.out, wok_2 HBIG.out HRT.out]
    subst hR2
    go_wp2
    exact bodyPost_ret (v := wrongV (2, 0, 0)) (by simp [results, Tryz.results30, go_sem, wrongV, *]) rfl ⟨rfl, below_ret hWB hB2 _ _ _⟩
  | false =>
    go_wp2_with fail
    refine (areReadings_any _ D.faults w2 (H3.out.below (hWB.trans (hB2.mono (by omega))) (Nat.le_refl _)) hf1).mono ?_
    obtain ⟨fa, hfa⟩ : ∃ fa, asc (-1) D.faults = fa := ⟨_, rfl⟩
    rw [hfa]
    have HFA : Hid (asc (-1) D.faults = fa) := hfa
    clear hfa
    rintro e w3 ⟨rfl, rfl⟩
    cases fa with
    | false =>
      have hR3 : R = (3, 0, 0) := by rw [HR.out, wok_3 HBIG.out HRT.out HFA.out]
      subst hR3
      go_wp2
      exact bodyPost_ret (v := wrongV (3, 0, 0)) (by simp [results, Tryz.results30, go_sem, wrongV, *]) rfl ⟨rfl, below_ret hWB hB2 _ _ _⟩
    | true =>
      go_wp2_with fail
      refine (shelve_any _ D.mods _ (H2.out.below (hWB.trans (hB2.mono (by omega))) (Nat.le_refl _)) hm1 HM2.out).mono ?_
      obtain ⟨sv, hsv⟩ : ∃ sv, firstN (badMd D.mods) D.mods.length 0 = sv := ⟨_, rfl⟩
      rw [hsv]
      have HSV : Hid (firstN (badMd D.mods) D.mods.length 0 = sv) := hsv
      clear hsv p0 p1 p2 q0 q1 q2 f0 f1 f2
      rintro e w4 ⟨mv, rfl, hb4⟩
      have hB4 : Below (w.heap.size + 2) W w4 := hB2.trans (hb4.mono (by have := hB2.size; omega))
      clear hb4 hB2
      obtain ⟨p0, p1, p2, q0, q1, q2, f0, f1, f2⟩ := hBx.below hB4 (Nat.le_refl _)
      by_cases hsl : sv < D.mods.length
      · have hR4 : R = (4, (sv : Int), 0) := by rw [HR.out, wok_4 HBIG.out HRT.out HFA.out hsl HSV.out]
        subst hR4
        go_wp2
        exact bodyPost_ret (v := wrongV (4, (sv : Int), 0)) (by simp [results, Tryz.results30, go_sem, wrongV, *]) rfl ⟨rfl, below_ret hWB hB4 _ _ _⟩
      · have hsl' : sv = D.mods.length := by have := firstN_le (badMd D.mods) D.mods.length 0; rw [HSV.out] at this; omega
        have HR5 : Hid (∀ k, (hk : k < D.mods.length) → firstN (badLns D.mods) D.mods.length 0 = k → R = (5, (k : Int), ((firstN (badLn D.mods[k].lines) D.mods[k].lines.length 0 : Nat) : Int))) := fun k hk h => by rw [HR.out, wok_5 HBIG.out HRT.out HFA.out (HSV.out.trans hsl') hk h]
        have HR6 : Hid (firstN (badLns D.mods) D.mods.length 0 = D.mods.length → R = (0, 0, 0)) := fun h => by rw [HR.out, wok_0 HBIG.out HRT.out HFA.out (HSV.out.trans hsl') h]
        clear hsl'
        obtain ⟨_, _, _, _, _, hc2⟩ := H2.out
        rename_i a2' cap2' hv2' _ _
        have HC2 : Hid (∀ k, (hk : k < D.mods.length) → ∃ b o s, a2 = some ⟨b, o, none⟩ ∧ b < w.heap.size ∧
          w.cell? ⟨b, o + k * 2, none⟩ = some (strV D.mods[k].name) ∧ w.cell? ⟨b, o + k * 2 + 1, none⟩ = some s ∧ Lns w s D.mods[k].lines) := fun k hk => by
            obtain ⟨b, o, s, ha, r⟩ := hc2 k hk
            injection hv2' with e1 e2 e3
            exact ⟨b, o, s, e1.trans ha, r⟩
        clear hc2 hv2'
        go_wp2
        go_loopw [39] (fun i wr => ∃ k : Nat, k ≤ D.mods.length ∧ i = .int .i64 k ∧ (∀ j, j < k → badLns D.mods j = false) ∧ Below (w.heap.size + 2) W wr) (fun i _ => D.mods.length - (intOf i).toNat)
        case atStart => exact ⟨0, Nat.zero_le _, rfl, fun j h => absurd h (by omega), hB4⟩
        case round =>
          obtain ⟨k, hk, rfl, hbad, hB8⟩ := hrel
          have HBAD : Hid (∀ j, j < k → badLns D.mods j = false) := hbad
          clear hbad hB4 p0 p1 p2 q0 q1 q2 f0 f1 f2
          rename World => w8
          have hBr8 : w.heap.size + 2 ≤ w8.heap.size := by have := hB8.size; omega
          obtain ⟨p0, p1, p2, q0, q1, q2, f0, f1, f2⟩ := hBx.below hB8 (Nat.le_refl _)
          by_cases hlt : k < D.mods.length
          · obtain ⟨b, o, s, rfl, hb, h0, h1, h2⟩ := HC2.out k hlt
            obtain ⟨hs1, hs2, hs3⟩ := Md.small (HM2.out _ (List.getElem_mem hlt))
            obtain ⟨asl, cs, rfl⟩ := h2.slice
            obtain ⟨ns, hns⟩ : ∃ ns : ByteArray, ns.data.toList = D.mods[k].name := ⟨⟨D.mods[k].name.toArray⟩, by simp⟩
            have hnv : strV D.mods[k].name = .string ns := by rw [← hns, strV_data]
            rw [hnv] at h0
            have c0 := (hB8.cell (p := ⟨b, o + k * 2, none⟩) (by simp only []; omega)).trans ((hWB.cell (p := ⟨b, o + k * 2, none⟩) hb).trans h0)
            have c1 := (hB8.cell (p := ⟨b, o + k * 2 + 1, none⟩) (by simp only []; omega)).trans ((hWB.cell (p := ⟨b, o + k * 2 + 1, none⟩) hb).trans h1)
            have hln : Lns (w8.alloc (Obj.cells #[Value.string ns, Value.slice asl D.mods[k].lines.length cs] 39)) (.slice asl D.mods[k].lines.length cs) D.mods[k].lines :=
              h2.below ((hWB.trans (hB8.mono (by omega))).alloc (by omega) _) (Nat.le_refl _)
            have hfo := firstOddLine_any _ D.mods[k].lines _ hln hs2 hs3
            have HBK : Hid (badLns D.mods k = decide (firstN (badLn D.mods[k].lines) D.mods[k].lines.length 0 < D.mods[k].lines.length)) := badLns_at hlt
            obtain ⟨N, hN⟩ : ∃ N, N = D.mods[k].lines.length := ⟨_, rfl⟩
            obtain ⟨q, hq⟩ : ∃ q, q = firstN (badLn D.mods[k].lines) D.mods[k].lines.length 0 := ⟨_, rfl⟩
            have hqn : q ≤ N := by rw [hq, hN]; have := firstN_le (badLn D.mods[k].lines) D.mods[k].lines.length 0; omega
            rw [← hq] at hfo HBK
            rw [← hN] at hfo HBK c1 hs2
            have HQ : Hid (q = firstN (badLn D.mods[k].lines) D.mods[k].lines.length 0) := hq
            have HFO : Hid (Calls Tryz.prog 46 #[.slice asl N cs] (w8.alloc (Obj.cells #[Value.string ns, Value.slice asl N cs] 39)) fun e w' => e = .returned (.int .i64 (q : Nat)) ∧ Below (w8.alloc (Obj.cells #[Value.string ns, Value.slice asl N cs] 39)).heap.size (w8.alloc (Obj.cells #[Value.string ns, Value.slice asl N cs] 39)) w') := hfo
            clear h0 h1 h2 hs3 hs1 hns hnv hN hq hln hfo
            go_wp2_with fail
            refine HFO.out.mono ?_
            rintro e w9 ⟨rfl, hb9⟩
            have m1 : w9.cell? ⟨w8.heap.size, 1, none⟩ = some (.slice asl N cs) := below_cell0 hb9 (by simp) (by simp [go_sem])
            have hB9 : Below (w.heap.size + 2) W w9 := (hB8.alloc hBr8 _).trans (hb9.mono (by simp; omega))
            clear hb9 p0 p1 p2 q0 q1 q2 f0 f1 f2 c0 c1
            obtain ⟨p0, p1, p2, q0, q1, q2, f0, f1, f2⟩ := hBx.below hB9 (Nat.le_refl _)
            by_cases hqN : q < N
            · have hR5 : R = (5, (k : Int), (q : Int)) := by
                rw [HR5.out k hlt (firstN_hit hlt HBAD.out (by rw [HBK.out]; simpa using hqN)), ← HQ.out]
              subst hR5
              go_wp2
              exact bodyPost_ret (v := wrongV (5, (k : Int), (q : Int))) (by simp [results, Tryz.results30, go_sem, wrongV, *]) rfl ⟨rfl, below_ret hWB hB9 _ _ _⟩
            · have HGOOD : Hid (badLns D.mods k = false) := by unfold Hid; rw [HBK.out]; simpa using hqN
              go_wp2
              go_roundw
              case rel => exact ⟨k + 1, by omega, by go_num, fun j hjk => by
                by_cases hjk' : j = k
                · subst hjk'; exact HGOOD.out
                · exact HBAD.out j (by omega), hB9⟩
              case measure => simp [intOf]; omega
          · have hR0 : R = (0, 0, 0) := HR6.out (firstN_none (fun j hj => HBAD.out j (by omega)))
            subst hR0
            go_wp2
            exact bodyPost_ret (v := wrongV (0, 0, 0)) (by simp [results, Tryz.results30, go_sem, wrongV, *]) rfl ⟨rfl, below_ret hWB hB8 _ _ _⟩
end Go.Proofs.YtimgafblpmjajaaGreat
namespace Go.Proofs.YtimgafblpmjajaaGreat
open Go.RowKit Go.Maps

/-- The shelf has each module's place. -/
def Placed (M : List Md) (k : Nat) (D : DataW Unit) : Prop := ∀ j (hj : j < M.length), j < k → D.atKey (keyL M[j].name) (.lit (.int .i64 0)) = .lit (.int .i64 (j : Int))
theorem placed_zero (M : List Md) : Placed M 0 (.map []) := fun j _ h => absurd h (by omega)
theorem placed_put {M : List Md} {k : Nat} {D : DataW Unit} (h : Placed M k D) (hD : IsMap D) (hk : k < M.length) (hn : ∀ j (hj : j < M.length), M[j].name.length ≤ 1048576) (hf : (M.take k).any (fun m => decide (m.name = M[k].name)) = false) :
    Placed M (k + 1) (D.put (keyL M[k].name) (.lit (.int .i64 (k : Int)))) := by
  intro j hj hjk
  obtain ⟨t, ht, htz⟩ := arr_of M[k].name (hn k hk)
  by_cases he : j = k
  · subst he
    exact atKey_put_same hD (lawK.key (key_mk ht htz)) _ _
  · obtain ⟨s, hs, hsz⟩ := arr_of M[j].name (hn j hj)
    have hne : M[j].name ≠ M[k].name := fun e => by
      have : (M.take k).any (fun m => decide (m.name = M[k].name)) = true := by
        rw [List.any_eq_true]
        exact ⟨M[j], List.mem_take_iff_getElem.2 ⟨j, by omega, rfl⟩, by simpa using e⟩
      rw [hf] at this; cases this
    have hkn : keyL M[j].name ≠ keyL M[k].name := by
      have := keyL_ne hsz htz (by rw [hs, ht]; exact hne)
      rwa [hs, ht] at this
    rw [atKey_put_other hkn]
    exact h j hj (by omega)
theorem has_idx {D : Wd} {DM : DataW Unit} (h : Shelved D.mods D.mods.length DM) {l : List UInt8} (hl : l.length ≤ 1048576) : Maps.has DM (keyL l) = decide (D.idx l < D.mods.length) := by
  rw [h.2 l hl, List.take_length, Bool.eq_iff_iff, List.any_eq_true]
  constructor
  · rintro ⟨m, hm, he⟩
    rcases Nat.lt_or_ge (D.idx l) D.mods.length with h1 | h1
    · simpa using h1
    · obtain ⟨j, hj, rfl⟩ := List.getElem_of_mem hm
      have := place_miss (p := fun s : Md => decide (s.name = l)) hj (by unfold Wd.idx at h1; omega)
      rw [this] at he; cases he
  · intro h1
    have h1' : D.idx l < D.mods.length := by simpa using h1
    exact ⟨_, List.getElem_mem h1', place_lt h1'⟩
theorem at_idx {D : Wd} {DM : DataW Unit} (h : Placed D.mods D.mods.length DM) {l : List UInt8} (hl : D.idx l < D.mods.length) : DM.atKey (keyL l) (.lit (.int .i64 0)) = .lit (.int .i64 (D.idx l : Int)) := by
  have h1 := h (D.idx l) hl hl
  have h2 : D.mods[D.idx l].name = l := of_decide_eq_true (place_lt (p := fun s : Md => decide (s.name = l)) hl)
  rwa [h2] at h1

set_option maxRecDepth 100000 in
set_option maxHeartbeats 8000000 in
theorem shelve_full (v : Value) (M : List Md) (w : World) (h : Mds w v M) (hM : M.length ≤ 1048576) (hMM : ∀ m ∈ M, m.t ≤ 1048576) (hgood : ∀ j, j < M.length → badMd M j = false) :
    Calls Tryz.prog 31 #[v] w fun e w' => e = .returned (.tuple #[.map (some w.heap.size), .int .i64 (M.length : Nat)]) ∧ (∃ DM, w'.ownsMap Tryz.prog 91 (plainElem Tryz.prog 3) w.heap.size M.length DM ∧ Shelved M M.length DM ∧ Placed M M.length DM) ∧ Below w.heap.size w w' := by
  have hmm := @run_makeMap Tryz.prog
  obtain ⟨a, cap, rfl, hcap, hmax, hc⟩ := h
  have HC : Hid (∀ k, (hk : k < M.length) → ∃ b o s, a = some ⟨b, o, none⟩ ∧ b < w.heap.size ∧
    w.cell? ⟨b, o + k * 2, none⟩ = some (strV M[k].name) ∧ w.cell? ⟨b, o + k * 2 + 1, none⟩ = some s ∧ Lns w s M[k].lines) := hc
  have HMM : Hid (∀ m ∈ M, m.t ≤ 1048576) := hMM
  have HGD : Hid (∀ j, j < M.length → badMd M j = false) := hgood
  have HNL : Hid (∀ j (hj : j < M.length), M[j].name.length ≤ 1048576) := fun j hj => (Md.small (hMM _ (List.getElem_mem hj))).1
  clear hc hmax hMM hgood
  go_enter Tryz.func31, Tryz.ntmps31
  go_wp2
  go_loopw [14] (fun i wr => ∃ (k : Nat) (D : DataW Unit), k ≤ M.length ∧ i = .int .i64 k ∧ wr.ownsMap Tryz.prog 91 (plainElem Tryz.prog 3) w.heap.size k D ∧ Shelved M k D ∧ Placed M k D ∧ Below w.heap.size w wr) (fun i _ => M.length - (intOf i).toNat)
  case atStart => exact ⟨0, _, Nat.zero_le _, rfl, World.ownsMap_made _ _ _ _, shelved_zero M, placed_zero M, (Below.refl _ _).alloc (Nat.le_refl _) _⟩
  case round =>
    obtain ⟨k, D, hk, rfl, hown, hsh, hpl, hB⟩ := hrel
    have HSH : Hid (Shelved M k D) := hsh
    have HPL : Hid (Placed M k D) := hpl
    have hwB := hown.lt
    clear hsh hpl hmm
    by_cases hlt : k < M.length
    · obtain ⟨b, o, s, rfl, hb, h0, h1, h2⟩ := HC.out k hlt
      obtain ⟨hs1, hs2, hs3⟩ := Md.small (HMM.out _ (List.getElem_mem hlt))
      obtain ⟨asl, cs, rfl⟩ := h2.slice
      obtain ⟨N, hN⟩ : ∃ N, N = M[k].lines.length := ⟨_, rfl⟩
      obtain ⟨ns, hns⟩ : ∃ ns : ByteArray, ns.data.toList = M[k].name := ⟨⟨M[k].name.toArray⟩, by simp⟩
      have hnv : strV M[k].name = .string ns := by rw [← hns, strV_data]
      rw [hnv] at h0
      rw [← hN] at h1 hs2
      have c0 := (hB.cell (p := ⟨b, o + k * 2, none⟩) hb).trans h0
      have c1 := (hB.cell (p := ⟨b, o + k * 2 + 1, none⟩) hb).trans h1
      have hbm := badMd_at hlt
      rw [← hN, HGD.out k hlt] at hbm
      have HNS : Hid (ns.data.toList = M[k].name) := hns
      have HSZ : Hid (M[k].name.length ≤ 1048576) := hs1
      have hbm' := hbm.symm
      rw [Bool.or_eq_false_iff, Bool.or_eq_false_iff] at hbm'
      obtain ⟨⟨hb1, hb2⟩, hb3⟩ := hbm'
      have hi : isN M[k].name = true := by simpa using hb1
      have h60 : ¬ 60 < N := by simpa using hb2
      have HFR : Hid ((M.take k).any (fun m => decide (m.name = M[k].name)) = false) := hb3
      have HNV : Hid (strV M[k].name = .string ns) := hnv
      clear h0 h1 h2 hs3 hs1 hbm hns hnv hN hb1 hb2 hb3
      go_wp2_with fail
      refine (asWritten_any ns _).mono ?_
      rw [HNS.out]
      clear c0 c1
      have hwv : writtenV M[k].name = .tuple #[.agg #[.string ns], .bool true] := by rw [writtenV, if_pos hi, HNV.out]
      rw [hwv]
      have HI : Hid (isN M[k].name = true) := hi
      clear hwv hi
      rintro e w1 ⟨rfl, hb1⟩
      have m0 : w1.cell? ⟨wr.heap.size, 0, none⟩ = some (.string ns) := below_cell0 hb1 (by simp) (by simp [go_sem])
      have m1 : w1.cell? ⟨wr.heap.size, 1, none⟩ = some (.slice asl N cs) := below_cell0 hb1 (by simp) (by simp [go_sem])
      have hB1 : Below w.heap.size w w1 := (hB.alloc hB.size _).trans (hb1.mono (by have := hB.size; simp; omega))
      have hz1 : wr.heap.size < w1.heap.size := by have := hb1.size; simp at this; omega
      have hz2 : w.heap.size < w1.heap.size := by omega
      have hown1 := map_below (hown.alloc _) hb1 (by simp; omega)
      have hkey := key_mk HNS.out (by rw [size_data, HNS.out]; have := HSZ.out; unfold maxLen; omega)
      have HHAS : Hid (Maps.has D (keyL M[k].name) = (M.take k).any (fun m => decide (m.name = M[k].name))) := HSH.out.2 _ HSZ.out
      clear hb1 hown
      obtain ⟨kl, hkl⟩ : ∃ kl, kl = keyL M[k].name := ⟨_, rfl⟩
      rw [← hkl] at hkey HHAS
      have HKL : Hid (kl = keyL M[k].name) := hkl
      clear hkl
      have HTK : Hid (Maps.has D kl = false) := by unfold Hid; rw [HHAS.out, HFR.out]
      have hzz : w.heap.size < (w1.alloc (Obj.cells #[Value.string ns] 91)).heap.size := by simp; omega
      go_wp2_with (first | (at_lookup; refine wpList_lookup_own_ok_int _ rfl _ _ 48 rfl 91 3 .i64 lawK Tryz.underlying48 Tryz.underlying3 (zero3 _) w.heap.size k D rfl (hown1.alloc _) _ kl rfl hkey ?_; intro c hat hwc; rw [HTK.out]; clear hat hwc) | (at_mapUpdate; refine wpList_mapUpdate_own _ rfl _ _ _ 48 rfl 91 3 lawK Tryz.underlying48 (plainElem (H := Unit) Tryz.prog 3) w.heap.size k D rfl (hown1.alloc _) (by unfold maxLen; omega) _ _ kl rfl rfl hkey _ [] (plainElem_int Tryz.underlying3 (WalkArith.wf_i64 (by omega))) ?_; intro w2 hown2 hgrow2))
      have hB2 : Below w.heap.size w w2 := (hB1.alloc (by omega) _).grown hgrow2 (by simp; omega) (fun j hj => by cases hj; exact Nat.le_refl _)
      go_roundw
      case rel => exact ⟨k + 1, _, by omega, by go_num, hown2, by rw [HKL.out]; exact shelved_put HSH.out hlt HSZ.out _, by rw [HKL.out]; exact placed_put HPL.out HSH.out.1 hlt HNL.out HFR.out, hB2⟩
      case measure => simp [intOf]; omega
    · obtain rfl : k = M.length := by omega
      go_wp2
      exact bodyPost_ret (v := .tuple #[.map (some w.heap.size), .int .i64 M.length]) (by simp [results, Tryz.results31, go_sem]) rfl ⟨rfl, ⟨D, hown, HSH.out, HPL.out⟩, hB⟩
end Go.Proofs.YtimgafblpmjajaaGreat
namespace Go.Proofs.YtimgafblpmjajaaGreat
open Go.RowKit

theorem is_say_imp (v : Value) (W : World) : (Instr.typeAssert (.iface 111 v) 84 108 true).run Tryz.prog W = .ok (.tuple #[.agg #[.string ⟨#[]⟩], .bool false]) W := by kernel_rfl
theorem is_say_tr (v : Value) (W : World) : (Instr.typeAssert (.iface 111 v) 84 109 true).run Tryz.prog W = .ok (.tuple #[.agg #[.string ⟨#[]⟩], .bool false]) W := by kernel_rfl
theorem is_give_imp (v : Value) (W : World) : (Instr.typeAssert (.iface 112 v) 84 108 true).run Tryz.prog W = .ok (.tuple #[.agg #[.string ⟨#[]⟩], .bool false]) W := by kernel_rfl
theorem is_give_tr (v : Value) (W : World) : (Instr.typeAssert (.iface 112 v) 84 109 true).run Tryz.prog W = .ok (.tuple #[.agg #[.string ⟨#[]⟩], .bool false]) W := by kernel_rfl
theorem is_imp_imp (v : Value) (W : World) : (Instr.typeAssert (.iface 108 v) 84 108 true).run Tryz.prog W = .ok (.tuple #[v, .bool true]) W := by kernel_rfl
theorem is_tr_imp (v : Value) (W : World) : (Instr.typeAssert (.iface 109 v) 84 108 true).run Tryz.prog W = .ok (.tuple #[.agg #[.string ⟨#[]⟩], .bool false]) W := by kernel_rfl
theorem is_tr_tr (v : Value) (W : World) : (Instr.typeAssert (.iface 109 v) 84 109 true).run Tryz.prog W = .ok (.tuple #[v, .bool true]) W := by kernel_rfl
theorem is_show_imp (v : Value) (W : World) : (Instr.typeAssert (.iface 113 v) 84 108 true).run Tryz.prog W = .ok (.tuple #[.agg #[.string ⟨#[]⟩], .bool false]) W := by kernel_rfl
theorem is_show_tr (v : Value) (W : World) : (Instr.typeAssert (.iface 113 v) 84 109 true).run Tryz.prog W = .ok (.tuple #[.agg #[.string ⟨#[]⟩], .bool false]) W := by kernel_rfl
theorem is_thr_imp (v : Value) (W : World) : (Instr.typeAssert (.iface 114 v) 84 108 true).run Tryz.prog W = .ok (.tuple #[.agg #[.string ⟨#[]⟩], .bool false]) W := by kernel_rfl
theorem is_thr_tr (v : Value) (W : World) : (Instr.typeAssert (.iface 114 v) 84 109 true).run Tryz.prog W = .ok (.tuple #[.agg #[.string ⟨#[]⟩], .bool false]) W := by kernel_rfl
theorem is_iff_imp (v : Value) (W : World) : (Instr.typeAssert (.iface 116 v) 84 108 true).run Tryz.prog W = .ok (.tuple #[.agg #[.string ⟨#[]⟩], .bool false]) W := by kernel_rfl
theorem is_iff_tr (v : Value) (W : World) : (Instr.typeAssert (.iface 116 v) 84 109 true).run Tryz.prog W = .ok (.tuple #[.agg #[.string ⟨#[]⟩], .bool false]) W := by kernel_rfl
theorem is_nil_imp (W : World) : (Instr.typeAssert .nilIface 84 108 true).run Tryz.prog W = .ok (.tuple #[.agg #[.string ⟨#[]⟩], .bool false]) W := by kernel_rfl
theorem is_nil_tr (W : World) : (Instr.typeAssert .nilIface 84 109 true).run Tryz.prog W = .ok (.tuple #[.agg #[.string ⟨#[]⟩], .bool false]) W := by kernel_rfl

/-- What a step imports. -/
def impV (op : Int) (s : ByteArray) : Value := if op = 3 ∨ op = 4 then .tuple #[.string s, .bool true] else .tuple #[.string ⟨#[]⟩, .bool false]

set_option maxRecDepth 100000 in
set_option maxHeartbeats 4000000 in
theorem importedBy_any (op num skip : Int) (s : ByteArray) (w : World) :
    Calls Tryz.prog 32 #[stepV op s num skip] w fun e w' => e = .returned (impV op s) ∧ Below w.heap.size w w' := by
  obtain ⟨r, hr⟩ : ∃ r, r = impV op s := ⟨_, rfl⟩
  rw [← hr]
  by_cases h1 : op = 1
  · subst h1
    have hrt : r = .tuple #[.string ⟨#[]⟩, .bool false] := by rw [hr]; rfl
    subst hrt
    simp (config := { decide := true }) only [stepV, if_true, if_false]
    clear hr
    have t1 := is_say_imp
    have t2 := is_say_tr
    go_enter Tryz.func32, Tryz.ntmps32
    go_wp2
    exact bodyPost_ret (v := .tuple #[.string ⟨#[]⟩, .bool false]) (by simp [results, Tryz.results32, go_sem]) rfl ⟨rfl, by first | exact Below.refl _ _ | exact (Below.refl _ _).alloc (Nat.le_refl _) _ | exact below_alloc2 _ _⟩
  by_cases h2 : op = 2
  · subst h2
    have hrt : r = .tuple #[.string ⟨#[]⟩, .bool false] := by rw [hr]; rfl
    subst hrt
    simp (config := { decide := true }) only [stepV, if_true, if_false]
    clear hr
    have t1 := is_give_imp
    have t2 := is_give_tr
    go_enter Tryz.func32, Tryz.ntmps32
    go_wp2
    exact bodyPost_ret (v := .tuple #[.string ⟨#[]⟩, .bool false]) (by simp [results, Tryz.results32, go_sem]) rfl ⟨rfl, by first | exact Below.refl _ _ | exact (Below.refl _ _).alloc (Nat.le_refl _) _ | exact below_alloc2 _ _⟩
  by_cases h3 : op = 3
  · subst h3
    have hrt : r = .tuple #[.string s, .bool true] := by rw [hr]; rfl
    subst hrt
    simp (config := { decide := true }) only [stepV, if_true, if_false]
    clear hr
    have t1 := is_imp_imp
    go_enter Tryz.func32, Tryz.ntmps32
    go_wp2
    exact bodyPost_ret (v := .tuple #[.string s, .bool true]) (by simp [results, Tryz.results32, go_sem]) rfl ⟨rfl, by first | exact Below.refl _ _ | exact (Below.refl _ _).alloc (Nat.le_refl _) _ | exact below_alloc2 _ _⟩
  by_cases h4 : op = 4
  · subst h4
    have hrt : r = .tuple #[.string s, .bool true] := by rw [hr]; rfl
    subst hrt
    simp (config := { decide := true }) only [stepV, if_true, if_false]
    clear hr
    have t1 := is_tr_imp
    have t2 := is_tr_tr
    go_enter Tryz.func32, Tryz.ntmps32
    go_wp2
    exact bodyPost_ret (v := .tuple #[.string s, .bool true]) (by simp [results, Tryz.results32, go_sem]) rfl ⟨rfl, by first | exact Below.refl _ _ | exact (Below.refl _ _).alloc (Nat.le_refl _) _ | exact below_alloc2 _ _⟩
  by_cases h5 : op = 5
  · subst h5
    have hrt : r = .tuple #[.string ⟨#[]⟩, .bool false] := by rw [hr]; rfl
    subst hrt
    simp (config := { decide := true }) only [stepV, if_true, if_false]
    clear hr
    have t1 := is_show_imp
    have t2 := is_show_tr
    go_enter Tryz.func32, Tryz.ntmps32
    go_wp2
    exact bodyPost_ret (v := .tuple #[.string ⟨#[]⟩, .bool false]) (by simp [results, Tryz.results32, go_sem]) rfl ⟨rfl, by first | exact Below.refl _ _ | exact (Below.refl _ _).alloc (Nat.le_refl _) _ | exact below_alloc2 _ _⟩
  by_cases h6 : op = 6
  · subst h6
    have hrt : r = .tuple #[.string ⟨#[]⟩, .bool false] := by rw [hr]; rfl
    subst hrt
    simp (config := { decide := true }) only [stepV, if_true, if_false]
    clear hr
    have t1 := is_thr_imp
    have t2 := is_thr_tr
    go_enter Tryz.func32, Tryz.ntmps32
    go_wp2
    exact bodyPost_ret (v := .tuple #[.string ⟨#[]⟩, .bool false]) (by simp [results, Tryz.results32, go_sem]) rfl ⟨rfl, by first | exact Below.refl _ _ | exact (Below.refl _ _).alloc (Nat.le_refl _) _ | exact below_alloc2 _ _⟩
  by_cases h7 : op = 7
  · subst h7
    have hrt : r = .tuple #[.string ⟨#[]⟩, .bool false] := by rw [hr]; rfl
    subst hrt
    simp (config := { decide := true }) only [stepV, if_true, if_false]
    clear hr
    have t1 := is_iff_imp
    have t2 := is_iff_tr
    go_enter Tryz.func32, Tryz.ntmps32
    go_wp2
    exact bodyPost_ret (v := .tuple #[.string ⟨#[]⟩, .bool false]) (by simp [results, Tryz.results32, go_sem]) rfl ⟨rfl, by first | exact Below.refl _ _ | exact (Below.refl _ _).alloc (Nat.le_refl _) _ | exact below_alloc2 _ _⟩
  have hrf : r = .tuple #[.string ⟨#[]⟩, .bool false] := by rw [hr, impV, if_neg (by omega)]
  subst hrf
  rw [stepV, if_neg h1, if_neg h2, if_neg h3, if_neg h4, if_neg h5, if_neg h6, if_neg h7]
  clear hr
  have t1 := is_nil_imp
  have t2 := is_nil_tr
  go_enter Tryz.func32, Tryz.ntmps32
  go_wp2
  exact bodyPost_ret (v := .tuple #[.string ⟨#[]⟩, .bool false]) (by simp [results, Tryz.results32, go_sem]) rfl ⟨rfl, by first | exact Below.refl _ _ | exact (Below.refl _ _).alloc (Nat.le_refl _) _ | exact below_alloc2 _ _⟩
end Go.Proofs.YtimgafblpmjajaaGreat
namespace Go.Proofs.YtimgafblpmjajaaGreat
open Go.RowKit

/-- A place, as a number. -/
def numV (n : Nat) : Value := .int .i64 (n : Int)
/-- Where the imports of a module lead. -/
def leadsOf (E : List Eg) (k : Nat) : List Nat := E.flatMap fun e => if e.src = (k : Int) ∧ 0 ≤ e.to then [e.to.toNat] else []
theorem leadsOf_snoc (E : List Eg) (e : Eg) (k : Nat) : leadsOf (E ++ [e]) k = leadsOf E k ++ (if e.src = (k : Int) ∧ 0 ≤ e.to then [e.to.toNat] else []) := by
  unfold leadsOf; rw [List.flatMap_append]; simp
theorem leadsOf_cons (E : List Eg) (e : Eg) (k : Nat) : leadsOf (e :: E) k = (if e.src = (k : Int) ∧ 0 ≤ e.to then [e.to.toNat] else []) ++ leadsOf E k := by
  unfold leadsOf; rw [List.flatMap_cons]
theorem leadsOf_lt {E : List Eg} {N : Nat} (hE : ∀ e ∈ E, e.to < (N : Int)) (k : Nat) : ∀ t ∈ leadsOf E k, t < N := by
  intro t ht
  unfold leadsOf at ht
  obtain ⟨e, he, h⟩ := List.mem_flatMap.1 ht
  split at h
  · have := hE e he; simp at h; omega
  · simp at h
theorem leadsOf_len (E : List Eg) (k : Nat) : (leadsOf E k).length ≤ E.length := by
  induction E with
  | nil => simp [leadsOf]
  | cons e r ih => rw [leadsOf_cons]; split <;> simp <;> omega
end Go.Proofs.YtimgafblpmjajaaGreat
namespace Go.Proofs.YtimgafblpmjajaaGreat
open Go.RowKit

/-- The rows of where imports lead, each in a block of its own. -/
structure Lds (lo : Nat) (w : World) (g : Nat) (S : List Value) (E : List Eg) : Prop where
  blk : w.heap[g]? = some (.cells S.toArray 25 (0, 0))
  low : lo ≤ g
  row : ∀ j s, S[j]? = some s → w.ownsRow lo 3 1 s (leadsOf E j).length ((leadsOf E j).map numV)
  dis : ∀ (i j : Nat) (a b : Value) (q : Nat), S[i]? = some a → S[j]? = some b → i ≠ j → a.ownBlock = some q → b.ownBlock ≠ some q
/-- A graph while it is made. -/
structure Gst (lo B mb g : Nat) (w : World) (r m f ve : Value) (S : List Value) (F E : List Eg) (N : Nat) (DM : DataW Unit) : Prop where
  blk : w.heap[B]? = some (.cells #[r, m, f, .map (some mb), ve, .slice (some ⟨g, 0, none⟩) N N] 51 (0, 0))
  low : lo ≤ B
  edg : w.ownsRow lo 33 3 ve F.length (F.flatMap egR)
  lds : Lds lo w g S E
  len : S.length = N
  sto : w.ownsMap Tryz.prog 91 (plainElem Tryz.prog 3) mb N DM
/-- All that is no row of edges, no row of numbers, no row of rows and no graph stands. -/
def Kg (w w' : World) : Prop := ∀ (b : Nat), b < w.heap.size → (∀ cs t fr, w.heap[b]? = some (.cells cs t fr) → t ≠ 33 ∧ t ≠ 3 ∧ t ≠ 25 ∧ t ≠ 51) → w'.heap[b]? = w.heap[b]?
theorem Kg.map {w w' : World} (h : Kg w w') {b n : Nat} {k : TypeId} {R : Value → Option (DataW Unit × List MemPlace)} {D : DataW Unit} (hm : w.ownsMap Tryz.prog k R b n D) : w'.ownsMap Tryz.prog k R b n D := by
  obtain ⟨es, clock, hh, r⟩ := hm
  exact ⟨es, clock, (h b (Array.getElem?_eq_some_iff.1 hh).1 (fun cs t fr e => by rw [hh] at e; cases e)).trans hh, r⟩
theorem Kg.of_keep {w w' : World} (h : ∀ b, b < w.heap.size → w'.heap[b]? = w.heap[b]?) : Kg w w' := fun b hb _ => h b hb
theorem Kg.refl (w : World) : Kg w w := fun _ _ _ => rfl
theorem Kg.trans {w w1 w2 : World} (h : Kg w w1) (k : Kg w1 w2) (hs : w.heap.size ≤ w1.heap.size) : Kg w w2 := fun b hb ht =>
  (k b (Nat.lt_of_lt_of_le hb hs) (fun cs t fr e => ht cs t fr ((h b hb ht).symm.trans e))).trans (h b hb ht)
theorem Kg.grown {w w' : World} {lo : Nat} {t : TypeId} {sz n : Nat} {v : Value} {xs : List Value} (hg : w.grownBy w' v.ownBlock) (hr : w.ownsRow lo t sz v n xs) (ht : t = 33 ∨ t = 3) : Kg w w' := fun b hb hh =>
  hg.block b hb (fun ev => by
    obtain ⟨_, j2 | ⟨q, c, cur, rfl, _, hq, _⟩⟩ := hr
    · rw [j2.1] at ev; cases ev
    · simp [Value.ownBlock] at ev
      subst ev
      have := hh _ _ _ hq
      rcases ht with ht | ht
      · exact this.1 ht
      · exact this.2.1 ht)
theorem Kg.set {w : World} {B i : Nat} {cs : Array Value} {t : TypeId} {fr : Nat × Nat} (hB : w.heap[B]? = some (.cells cs t fr)) (ht : t = 51 ∨ t = 25) (u : Value) : Kg w (w.setCell ⟨B, i, none⟩ u) := fun b _ hh =>
  Below.heap_setCell _ _ _ _ (fun e => by
    have e' : b = B := e
    subst e'
    have := hh _ _ _ hB
    rcases ht with ht | ht
    · exact this.2.2.2 ht
    · exact this.2.2.1 ht)
theorem Kg.of_below {w w' : World} (h : Below w.heap.size w w') : Kg w w' := fun b hb _ => h.block b hb
theorem Lds.keep {lo g : Nat} {w w' : World} {S : List Value} {E : List Eg} (h : Lds lo w g S E) (hg : w'.heap[g]? = w.heap[g]?) (hr : ∀ s ∈ S, ∀ b, s.ownBlock = some b → w'.heap[b]? = w.heap[b]?) : Lds lo w' g S E :=
  ⟨hg.trans h.blk, h.low, fun j s hs => own_block (h.row j s hs) (hr s (List.mem_of_getElem? hs)), h.dis⟩
theorem Gst.keep {lo B mb g : Nat} {w w' : World} {r m f ve : Value} {S : List Value} {F E : List Eg} {N : Nat} {DM : DataW Unit} (h : Gst lo B mb g w r m f ve S F E N DM) (hb : ∀ b, b < w.heap.size → w'.heap[b]? = w.heap[b]?) : Gst lo B mb g w' r m f ve S F E N DM :=
  ⟨(hb B (Array.getElem?_eq_some_iff.1 h.blk).1).trans h.blk, h.low, own_block h.edg (fun b e => hb b (h.edg.lt b e).2),
   h.lds.keep (hb g (Array.getElem?_eq_some_iff.1 h.lds.blk).1) (fun s hs b e => by
     obtain ⟨j, hj, rfl⟩ := List.getElem_of_mem hs
     exact hb b ((h.lds.row j _ (List.getElem?_eq_getElem hj)).lt b e).2), h.len, (Kg.of_keep hb).map h.sto⟩
theorem Gst.alloc {lo B mb g : Nat} {w : World} {r m f ve : Value} {S : List Value} {F E : List Eg} {N : Nat} {DM : DataW Unit} (h : Gst lo B mb g w r m f ve S F E N DM) (o : Obj) : Gst lo B mb g (w.alloc o) r m f ve S F E N DM :=
  h.keep (fun _ hb => old_blk w o hb)
theorem Gst.below {lo B mb g : Nat} {w w' : World} {r m f ve : Value} {S : List Value} {F E : List Eg} {N : Nat} {DM : DataW Unit} (h : Gst lo B mb g w r m f ve S F E N DM) (hb : Below w.heap.size w w') : Gst lo B mb g w' r m f ve S F E N DM :=
  h.keep (fun b h => hb.block b h)
theorem Gst.lt {lo B mb g : Nat} {w : World} {r m f ve : Value} {S : List Value} {F E : List Eg} {N : Nat} {DM : DataW Unit} (h : Gst lo B mb g w r m f ve S F E N DM) : B < w.heap.size ∧ g < w.heap.size ∧ lo ≤ g :=
  ⟨(Array.getElem?_eq_some_iff.1 h.blk).1, (Array.getElem?_eq_some_iff.1 h.lds.blk).1, h.lds.low⟩
theorem Gst.cells {lo B mb g : Nat} {w : World} {r m f ve : Value} {S : List Value} {F E : List Eg} {N : Nat} {DM : DataW Unit} (h : Gst lo B mb g w r m f ve S F E N DM) :
    w.cell? ⟨B, 0, none⟩ = some r ∧ w.cell? ⟨B, 1, none⟩ = some m ∧ w.cell? ⟨B, 2, none⟩ = some f ∧ w.cell? ⟨B, 3, none⟩ = some (.map (some mb)) ∧ w.cell? ⟨B, 4, none⟩ = some ve ∧ w.cell? ⟨B, 5, none⟩ = some (.slice (some ⟨g, 0, none⟩) N N) ∧ w.frozen? ⟨B, 4, none⟩ = false := by
  have hb := h.blk
  simp [World.cell?, World.frozen?, hb]
theorem grown_heap {w w' : World} (hg : w.grownBy w' (none : Option Nat)) : ∀ b, b < w.heap.size → w'.heap[b]? = w.heap[b]? := fun b hb => hg.block b hb (fun e => by cases e)
/-- The row of edges has one more; nothing else that was there has turned but the graph's box. -/
theorem Gst.edge {lo B mb g ge cap : Nat} {w w2 w3 : World} {r m f ve : Value} {S : List Value} {F E : List Eg} {N : Nat} {DM : DataW Unit} (h : Gst lo B mb g w r m f ve S F E N DM) {e : Eg}
    (ho : w2.ownsRow lo 33 3 (.slice (some ⟨ge, 0, none⟩) (F.length + 1) cap) (F.length + 1) (F.flatMap egR ++ egR e)) (hg : w.grownBy w2 ve.ownBlock)
    (h3 : w3 = w2.setCell ⟨B, 4, none⟩ (.slice (some ⟨ge, 0, none⟩) (F.length + 1) cap)) : Gst lo B mb g w3 r m f (.slice (some ⟨ge, 0, none⟩) (F.length + 1) cap) S (F ++ [e]) E N DM := by
  have kB : w2.heap[B]? = w.heap[B]? := hg.block B h.lt.1 (fun ev => blk_ne h.blk h.edg (by decide) ev.symm)
  have kc : ∀ b, b < w.heap.size → b ≠ B → (∀ cs t fr, w.heap[b]? = some (.cells cs t fr) → t ≠ 33) → w3.heap[b]? = w.heap[b]? := fun b hb hne ht => by
    rw [h3, Below.heap_setCell _ _ _ _ hne]
    refine hg.block b hb (fun ev => ?_)
    obtain ⟨_, j2 | ⟨q, c, cur, rfl, _, hq, _⟩⟩ := h.edg
    · rw [j2.1] at ev; cases ev
    · simp [Value.ownBlock] at ev
      subst ev
      exact ht _ _ _ hq rfl
  have blkof : ∀ {t : TypeId} {sz n : Nat} {v : Value} {xs : List Value}, w.ownsRow lo t sz v n xs → t ≠ 33 → t ≠ 51 → ∀ b, v.ownBlock = some b → w3.heap[b]? = w.heap[b]? := fun {t sz n v xs} hr h1 h2 b hb => by
    obtain ⟨_, j2 | ⟨q, c, cur, rfl, _, hq, _⟩⟩ := hr
    · rw [j2.1] at hb; cases hb
    · simp [Value.ownBlock] at hb
      subst hb
      refine kc _ (Array.getElem?_eq_some_iff.1 hq).1 (fun e => ?_) (fun cs t' fr hh => ?_)
      · rw [e, h.blk] at hq; simp at hq; exact h2 hq.2.symm
      · rw [hq] at hh; simp at hh; rw [← hh.2.1]; exact h1
  refine ⟨?_, h.low, ?_, ?_, h.len, ?_⟩
  · rw [h3, heap_setCell_same w2 B 4 _ _ _ (kB.trans h.blk)]; rfl
  · rw [h3]
    refine own_block (w := w2) ?_ (fun b hb => Below.heap_setCell _ _ _ _ (fun e' => blk_ne (kB.trans h.blk) ho (by decide) (by rw [hb]; exact congrArg some e')))
    rw [List.length_append, List.length_singleton, List.flatMap_append]
    simpa using ho
  · exact h.lds.keep (w' := w3) (kc g h.lt.2.1 (fun e => by have h1 := h.lds.blk; rw [e, h.blk] at h1; simp at h1) (fun cs t fr hh => by rw [h.lds.blk] at hh; simp at hh; rw [← hh.2.1]; decide)) (fun s hs b hb => by
      obtain ⟨j, hj, rfl⟩ := List.getElem_of_mem hs
      exact blkof (h.lds.row j _ (List.getElem?_eq_getElem hj)) (by decide) (by decide) b hb)
  · have k : Kg w w3 := fun b hb ht => kc b hb (fun e => by subst e; exact (ht _ _ _ h.blk).2.2.2 rfl) (fun cs t fr hh => (ht cs t fr hh).1)
    exact k.map h.sto
/-- An edge that leads nowhere is in no row. -/
theorem Gst.skip {lo B mb g : Nat} {w : World} {r m f ve : Value} {S : List Value} {F E : List Eg} {N : Nat} {DM : DataW Unit} (h : Gst lo B mb g w r m f ve S F E N DM) {e : Eg} (hto : ¬ 0 ≤ e.to) : Gst lo B mb g w r m f ve S F (E ++ [e]) N DM := by
  have hl : ∀ j, leadsOf (E ++ [e]) j = leadsOf E j := fun j => by rw [leadsOf_snoc, if_neg (fun h => hto h.2), List.append_nil]
  exact ⟨h.blk, h.low, h.edg, ⟨h.lds.blk, h.lds.low, fun j s hs => by rw [hl j]; exact h.lds.row j s hs, h.lds.dis⟩, h.len, h.sto⟩
/-- .. and the row of the module that it leads from, too. -/
theorem Gst.lead {lo B mb g gs cap : Nat} {w w2 w3 : World} {r m f ve s : Value} {S : List Value} {F E : List Eg} {N : Nat} {DM : DataW Unit} {e : Eg} {i t : Nat} (hi : e.src = (i : Int)) (ht : e.to = (t : Int))
    (h : Gst lo B mb g w r m f ve S F E N DM) (hs : S[i]? = some s)
    (ho : w2.ownsRow lo 3 1 (.slice (some ⟨gs, 0, none⟩) ((leadsOf E i).length + 1) cap) ((leadsOf E i).length + 1) ((leadsOf E i).map numV ++ [numV t])) (hg : w.grownBy w2 s.ownBlock) (hat : s.ownBlock = some gs ∨ w.heap.size ≤ gs)
    (h3 : w3 = w2.setCell ⟨g, i, none⟩ (.slice (some ⟨gs, 0, none⟩) ((leadsOf E i).length + 1) cap)) : Gst lo B mb g w3 r m f ve (S.set i (.slice (some ⟨gs, 0, none⟩) ((leadsOf E i).length + 1) cap)) F (E ++ [e]) N DM := by
  have he := h.edg
  have hl : ∀ j, leadsOf (E ++ [e]) j = leadsOf E j ++ (if i = j then [t] else []) := fun j => by
    rw [leadsOf_snoc]
    by_cases hij : i = j
    · rw [if_pos ⟨by rw [hi, hij], by omega⟩, if_pos hij, ht]; rfl
    · rw [if_neg (fun h => hij (by have := h.1; omega)), if_neg hij]
  have hil : i < S.length := by
    rcases Nat.lt_or_ge i S.length with h1 | h1
    · exact h1
    · rw [List.getElem?_eq_none h1] at hs; cases hs
  have hrow := h.lds.row i s hs
  have kg : w2.heap[g]? = w.heap[g]? := hg.block g h.lt.2.1 (fun ev => blk_ne h.lds.blk hrow (by decide) ev.symm)
  have kc : ∀ b, b < w.heap.size → b ≠ g → s.ownBlock ≠ some b → w3.heap[b]? = w.heap[b]? := fun b hb hne ht => by
    rw [h3, Below.heap_setCell _ _ _ _ hne]
    exact hg.block b hb (fun ev => ht ev.symm)
  have kt : ∀ (b : Nat) (cs : Array Value) (t : TypeId) (fr : Nat × Nat), w.heap[b]? = some (.cells cs t fr) → t ≠ 25 → t ≠ 3 → w3.heap[b]? = w.heap[b]? := fun b cs t fr hh h1 h2 => by
    refine kc b (Array.getElem?_eq_some_iff.1 hh).1 (fun e => ?_) (fun ev => blk_ne hh hrow h2 ev)
    rw [e, h.lds.blk] at hh; simp at hh; exact h1 hh.2.1.symm
  refine ⟨?_, h.low, ?_, ⟨?_, h.lds.low, ?_, ?_⟩, by rw [List.length_set]; exact h.len, ?_⟩
  · rw [kt B _ _ _ h.blk (by decide) (by decide)]; exact h.blk
  · refine own_block he (fun b hb => ?_)
    obtain ⟨_, j2 | ⟨q, c, cur, rfl, _, hq, _⟩⟩ := he
    · rw [j2.1] at hb; cases hb
    · simp [Value.ownBlock] at hb
      subst hb
      exact kt _ _ _ _ hq (by decide) (by decide)
  · rw [h3, heap_setCell_same w2 g i _ _ _ (kg.trans h.lds.blk)]
    simp
  · intro j s' hs'
    rw [hl j]
    by_cases hij : i = j
    · subst hij
      rw [List.getElem?_set_self hil] at hs'
      cases hs'
      rw [if_pos rfl, List.length_append, List.length_singleton, List.map_append, List.map_singleton, h3]
      exact own_block ho (fun b hb => Below.heap_setCell _ _ _ _ (fun e' => blk_ne (kg.trans h.lds.blk) ho (by decide) (by rw [hb]; exact congrArg some e')))
    · rw [List.getElem?_set_ne hij] at hs'
      rw [if_neg hij, List.append_nil]
      have h1 := h.lds.row j s' hs'
      exact own_block h1 (fun b hb => kc b (h1.lt b hb).2 (fun e' => blk_ne h.lds.blk h1 (by decide) (by rw [hb, e'])) (fun e' => h.lds.dis i j s s' b hs hs' hij e' hb))
  · intro a b x y q hx hy hab hq
    by_cases ha : i = a
    · subst ha
      rw [List.getElem?_set_self hil] at hx
      cases hx
      rw [List.getElem?_set_ne hab] at hy
      simp [Value.ownBlock] at hq
      subst hq
      rcases hat with hat | hat
      · exact h.lds.dis _ _ _ _ _ hs hy hab hat
      · intro hyb
        have := ((h.lds.row b y hy).lt _ hyb).2
        omega
    · rw [List.getElem?_set_ne ha] at hx
      by_cases hb : i = b
      · subst hb
        rw [List.getElem?_set_self hil] at hy
        cases hy
        intro hyb
        simp [Value.ownBlock] at hyb
        subst hyb
        rcases hat with hat | hat
        · exact h.lds.dis _ _ _ _ _ hx hs hab hq hat
        · have := ((h.lds.row a x hx).lt _ hq).2
          omega
      · rw [List.getElem?_set_ne hb] at hy
        exact h.lds.dis _ _ _ _ _ hx hy hab hq
  · have k : Kg w w3 := fun b hb ht => kc b hb (fun e => by subst e; exact (ht _ _ _ h.lds.blk).2.2.1 rfl) (fun ev => by
      obtain ⟨_, j2 | ⟨q, c, cur, rfl, _, hq, _⟩⟩ := hrow
      · rw [j2.1] at ev; cases ev
      · simp [Value.ownBlock] at ev
        subst ev
        exact (ht _ _ _ hq).2.1 rfl)
    exact k.map h.sto
end Go.Proofs.YtimgafblpmjajaaGreat
namespace Go.Proofs.YtimgafblpmjajaaGreat
open Go.RowKit Go.Maps

/-- A slice of places that lies below. -/
def Ntl (lo : Nat) (w : World) (v : Value) (L : List Nat) : Prop := ∃ a c, v = .slice a L.length c ∧ L.length ≤ c ∧ ∀ i (hi : i < L.length), ∃ b o, a = some ⟨b, o, none⟩ ∧ b < lo ∧ w.cell? ⟨b, o + i, none⟩ = some (numV L[i])
theorem Ntl.below {lo : Nat} {w w' : World} {v : Value} {L : List Nat} (h : Ntl lo w v L) (hb : Below lo w w') : Ntl lo w' v L := by
  obtain ⟨a, c, hv, hk, hc⟩ := h
  exact ⟨a, c, hv, hk, fun i hi => by obtain ⟨b, o, ha, hl, h0⟩ := hc i hi; exact ⟨b, o, ha, hl, below_cell0 hb hl h0⟩⟩
theorem ntl_own {base lo : Nat} {w : World} {v : Value} {L : List Nat} (h : w.ownsRow base 3 1 v L.length (L.map numV)) (hlo : w.heap.size ≤ lo) : Ntl lo w v L := by
  rcases h.2 with ⟨hv, hn⟩ | ⟨g, cap, cur, hv, hg, hh, hc, hm, _⟩
  · exact ⟨none, 0, by rw [hv, hn], by omega, fun k hk => by omega⟩
  · subst hv
    have hca := h.cellAt
    exact ⟨_, cap, rfl, hc, fun i hi => ⟨g, 0, rfl, Nat.lt_of_lt_of_le (Array.getElem?_eq_some_iff.1 hh).1 hlo, by rw [Nat.zero_add, hca i (by omega)]; simp [hi]⟩⟩
/-- A made graph, all of it below. -/
structure Grb (lo B g : Nat) (w : World) (r m f st ve : Value) (S : List Value) (E : List Eg) (N : Nat) : Prop where
  blk : w.heap[B]? = some (.cells #[r, m, f, st, ve, .slice (some ⟨g, 0, none⟩) N N] 51 (0, 0))
  lowB : B < lo
  gblk : w.heap[g]? = some (.cells S.toArray 25 (0, 0))
  lowg : g < lo
  len : S.length = N
  row : ∀ j s, S[j]? = some s → Ntl lo w s (leadsOf E j)
theorem Grb.below {lo B g : Nat} {w w' : World} {r m f st ve : Value} {S : List Value} {E : List Eg} {N : Nat} (h : Grb lo B g w r m f st ve S E N) (hb : Below lo w w') : Grb lo B g w' r m f st ve S E N :=
  ⟨(hb.block B h.lowB).trans h.blk, h.lowB, (hb.block g h.lowg).trans h.gblk, h.lowg, h.len, fun j s hs => (h.row j s hs).below hb⟩
theorem Gst.grb {lo B mb g : Nat} {w : World} {r m f ve : Value} {S : List Value} {F E : List Eg} {N : Nat} {DM : DataW Unit} (h : Gst lo B mb g w r m f ve S F E N DM) : Grb w.heap.size B g w r m f (.map (some mb)) ve S E N :=
  ⟨h.blk, h.lt.1, h.lds.blk, h.lt.2.1, h.len, fun j s hs => ntl_own (h.lds.row j s hs) (Nat.le_refl _)⟩

set_option maxHeartbeats 1000000 in
set_option maxRecDepth 100000 in
theorem leadsTo_any {lo B g : Nat} {w : World} {r m f st ve : Value} {S : List Value} {E : List Eg} {N : Nat} (h : Grb lo B g w r m f st ve S E N) (k : Nat) (hk : k < N) :
    Calls Tryz.prog 19 #[.pointer (some ⟨B, 0, none⟩), .int .i64 k] w fun e w' => ∃ s, e = .returned s ∧ Ntl lo w' s (leadsOf E k) ∧ Below w.heap.size w w' := by
  obtain ⟨s, hs⟩ : ∃ s, S[k]? = some s := ⟨_, List.getElem?_eq_getElem (by rw [h.len]; exact hk)⟩
  have hrow := h.row k s hs
  have c5 : w.cell? ⟨B, 5, none⟩ = some (.slice (some ⟨g, 0, none⟩) N N) := by have := h.blk; simp [World.cell?, this]
  have cg : w.cell? ⟨g, k, none⟩ = some s := by have := h.gblk; simp [World.cell?, this, hs]
  obtain ⟨a, c, rfl, _, _⟩ := id hrow
  have HR : Hid (Ntl lo w (.slice a (leadsOf E k).length c) (leadsOf E k)) := hrow
  clear hrow h hs
  go_enter Tryz.func19, Tryz.ntmps19
  go_wp2
  go_ret
  exact ⟨_, rfl, HR.out, Below.refl _ _⟩
end Go.Proofs.YtimgafblpmjajaaGreat
namespace Go.Proofs.YtimgafblpmjajaaGreat
open Go.RowKit Go.Maps

theorem addTry_name {out : List (List UInt8)} {x : Int × List UInt8} (h : ∀ t ∈ out, t.length ≤ 60) (hx : x.2.length ≤ 60) : ∀ t ∈ Pl.addTry out x, t.length ≤ 60 := by
  unfold Pl.addTry
  split
  · split
    · exact h
    · intro t ht
      rcases List.mem_append.1 ht with ht | ht
      · exact h t ht
      · simp at ht; subst ht; exact hx
  · exact h
theorem foldTry_name (n : List UInt8) : ∀ (L : List (List UInt8)) (out : List (List UInt8)), (∀ t ∈ out, t.length ≤ 60) → ∀ t ∈ L.foldl (fun out r => Pl.addTry out (Pl.nm [] (Pl.rooted r n))) out, t.length ≤ 60
  | [], _, h => h
  | _ :: L, _, h => foldTry_name n L _ (addTry_name h (Pl.nm_len _ _))
theorem Pl.tries_name (L : List (List UInt8)) (f s : List UInt8) : ∀ t ∈ Pl.tries L f s, t.length ≤ 60 := by
  unfold Pl.tries
  split
  · simp
  · split
    · split
      · intro t ht
        simp at ht
        subst ht
        unfold Pl.wn
        split
        · exact Pl.nm_len _ _
        · simp
      · simp
    · split
      · exact foldTry_name _ L [] (by simp)
      · simp

theorem look_at {w : World} {mb n : Nat} {DM : DataW Unit} (h : w.ownsMap Tryz.prog 91 (plainElem Tryz.prog 3) mb n DM) {key : Value} {kl : Lit} (hkey : keyOf Tryz.prog 91 key = some kl) :
    ∃ c : Int, (Instr.lookup 48 (.map (some mb)) key true).run Tryz.prog w = .ok (.tuple #[.int .i64 c, .bool (Maps.has DM kl)]) w ∧ DM.atKey kl (.lit (.int .i64 0)) = .lit (.int .i64 c) := by
  obtain ⟨v, ps, hrun, hv⟩ := h.look_ok (t := 48) (e := 3) lawK Tryz.underlying48 (zero3 _) (zd := .lit (.int .i64 0)) (zp := []) (plainElem_int Tryz.underlying3 (by decide)) hkey
  obtain ⟨c, rfl, hc, _⟩ := plainElem_int_inv Tryz.underlying3 hv
  exact ⟨c, hrun, congrArg Prod.fst hc⟩

set_option maxHeartbeats 4000000 in
set_option maxRecDepth 100000 in
theorem find_any {lo B mb g : Nat} {w : World} {r m f ve : Value} {S : List Value} {F E : List Eg} {D : Wd} {DM : DataW Unit} (h : Gst lo B mb g w r m f ve S F E D.mods.length DM) (hr : Strs w r D.roots) (hsh : Shelved D.mods D.mods.length DM) (hpl : Placed D.mods D.mods.length DM)
    (fb nb : ByteArray) (hrt : Pl.total D.roots ≤ 1048576) (hn : nb.size ≤ 1048576) :
    Calls Tryz.prog 17 #[.pointer (some ⟨B, 0, none⟩), .string fb, .string nb] w fun e w' => e = .returned (.int .i64 (toOf D fb.data.toList nb.data.toList)) ∧ Below w.heap.size w w' := by
  obtain ⟨c0, c1, c2, c3, c4, c5, cf⟩ := h.cells
  have hlt := h.lt
  have htr := formsToTry_any r D.roots fb nb w hr hrt hn
  obtain ⟨R, hR⟩ : ∃ R, R = toOf D fb.data.toList nb.data.toList := ⟨_, rfl⟩
  have hT8 := Pl.tries_len D.roots fb.data.toList nb.data.toList
  have hTn := Pl.tries_name D.roots fb.data.toList nb.data.toList
  rw [← hR]
  unfold toOf at hR
  obtain ⟨T, hT⟩ : ∃ T, T = Pl.tries D.roots fb.data.toList nb.data.toList := ⟨_, rfl⟩
  rw [← hT] at htr hT8 hR hTn
  obtain ⟨ar, cr, rfl⟩ := hr.slice
  have HR : Hid (R = thereT D T) := hR
  have HTN : Hid (∀ t ∈ T, t.length ≤ 60) := hTn
  have HSH : Hid (Shelved D.mods D.mods.length DM) := hsh
  have HPL : Hid (Placed D.mods D.mods.length DM) := hpl
  have HM : Hid (w.ownsMap Tryz.prog 91 (plainElem Tryz.prog 3) mb D.mods.length DM) := h.sto
  have hmb : mb < w.heap.size := h.sto.lt
  clear hr hsh hpl hR hT hTn hrt hn c1 c2 c4 c5 cf h
  go_enter Tryz.func17, Tryz.ntmps17
  go_wp2_with fail
  refine htr.mono ?_
  rintro e w1 ⟨vt, rfl, hr, hb1⟩
  obtain ⟨at', capt, rfl, hcapt, hmx, hcell⟩ := row_shape49 hr
  have HC : Hid (∀ k, (hk : k < T.length) → ∃ g, at' = some ⟨g, 0, none⟩ ∧ w.heap.size ≤ g ∧ g < w1.heap.size ∧ w1.cell? ⟨g, k, none⟩ = some (strV T[k])) := hcell
  clear hcell hr hmx htr
  go_wp2
  go_loopw [20] (fun i wr => ∃ k : Nat, k ≤ T.length ∧ i = .int .i64 k ∧ Hid (∀ j (hj : j < T.length), j < k → ¬ D.idx T[j] < D.mods.length) ∧ Below w1.heap.size w1 wr) (fun i _ => T.length - (intOf i).toNat)
  case atStart => exact ⟨0, Nat.zero_le _, rfl, fun j _ h => absurd h (by omega), Below.refl _ _⟩
  case round =>
    obtain ⟨k, hk, rfl, hno, hB⟩ := hrel
    have hBW : Below w.heap.size w wr := hb1.trans (hB.mono hb1.size)
    by_cases hlk : k < T.length
    · obtain ⟨gt, rfl, hg0, hg, hc⟩ := HC.out k hlk
      obtain ⟨q, hq⟩ : ∃ q : ByteArray, q.data.toList = T[k] := ⟨⟨T[k].toArray⟩, by simp⟩
      have hcq : wr.cell? ⟨gt, k, none⟩ = some (.string q) := by rw [hB.cell (p := ⟨gt, k, none⟩) hg, hc, ← hq, strV_data]
      have x3 := below_cell0 hBW hlt.1 c3
      have hlen : T[k].length ≤ 60 := HTN.out _ (List.getElem_mem hlk)
      have hkey := key_mk hq (by rw [size_data, hq]; unfold maxLen; omega)
      have hown := map_below HM.out hBW hmb
      have HHAS : Hid (Maps.has DM (keyL T[k]) = decide (D.idx T[k] < D.mods.length)) := has_idx HSH.out (by omega)
      have HQ : Hid (q.data.toList = T[k]) := hq
      obtain ⟨kl, hkl⟩ : ∃ kl, kl = keyL T[k] := ⟨_, rfl⟩
      rw [← hkl] at hkey HHAS
      have HKL : Hid (kl = keyL T[k]) := hkl
      obtain ⟨V, hV⟩ : ∃ V, V = wr.alloc (.cells #[.string q] 91) := ⟨_, rfl⟩
      have z3 : V.cell? ⟨B, 3, none⟩ = some (.map (some mb)) := by rw [hV]; exact below_cell0 ((Below.refl wr.heap.size wr).alloc (Nat.le_refl _) _) (by have := hBW.size; omega) x3
      have z0 : V.cell? ⟨wr.heap.size, 0, none⟩ = some (.string q) := by rw [hV]; simp [go_sem]
      have hownV : V.ownsMap Tryz.prog 91 (plainElem Tryz.prog 3) mb D.mods.length DM := by rw [hV]; exact hown.alloc _
      have HV : Hid (V = wr.alloc (.cells #[.string q] 91)) := hV
      have hVB : Below w1.heap.size w1 V := by rw [hV]; exact hB.alloc hB.size _
      have hVW : Below w.heap.size w V := by rw [hV]; exact hBW.alloc hBW.size _
      clear hkl hq hc hV hown
      by_cases hin : D.idx T[k] < D.mods.length
      · have HTK : Hid (Maps.has DM kl = true) := by unfold Hid; rw [HHAS.out]; simpa using hin
        have HAT : Hid (DM.atKey kl (.lit (.int .i64 0)) = .lit (.int .i64 (D.idx T[k] : Int))) := by unfold Hid; rw [HKL.out]; exact at_idx HPL.out hin
        have HE : Hid (R = (D.idx T[k] : Int)) := by
          unfold Hid
          rw [HR.out, thereT_miss D T k hno.out, List.drop_eq_getElem_cons hlk, thereT, if_pos hin]
        obtain ⟨c, hlk, hat⟩ := look_at (w := V.drew) hownV hkey
        have HC2 : Hid (c = (D.idx T[k] : Int)) := by unfold Hid; rw [HAT.out] at hat; simpa using hat.symm
        rw [HTK.out] at hlk
        clear hin hat hownV hkey
        go_wp2
        rw [← HV.out]
        go_region
        go_wp2
        go_ret
        exact ⟨ret_int (by rw [HE.out, HC2.out]), hVW.drew⟩
      · have HTK : Hid (Maps.has DM kl = false) := by unfold Hid; rw [HHAS.out]; simpa using hin
        have HIN : Hid (¬ D.idx T[k] < D.mods.length) := hin
        obtain ⟨c, hlk, hat⟩ := look_at (w := V.drew) hownV hkey
        rw [HTK.out] at hlk
        clear hin hat hownV hkey
        go_wp2
        rw [← HV.out]
        go_region
        go_wp2
        go_roundw
        case rel => exact ⟨k + 1, by omega, by go_num, fun j hj hjk => by
          by_cases hjk' : j = k
          · subst hjk'; exact HIN.out
          · exact hno.out j hj (by omega), hVB.drew⟩
        case measure => simp [intOf]; omega
    · have HE : Hid (R = -1) := by
        unfold Hid
        rw [HR.out, thereT_miss D T k hno.out, List.drop_eq_nil_of_le (by omega), thereT]
      go_wp2
      go_ret
      exact ⟨ret_int HE.out.symm, hBW⟩
end Go.Proofs.YtimgafblpmjajaaGreat
