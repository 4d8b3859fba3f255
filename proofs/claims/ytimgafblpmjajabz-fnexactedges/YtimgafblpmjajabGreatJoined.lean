
import Derived.Test.YtimgafblpmjajabGreatParts

namespace Go.Proofs.YtimgafblpmjajabGreat

open Go.RowKit

/-- What a row of texts of the call's own looks like. -/
theorem row_shape {w : World} {base : Nat} {v : Value} {xs : List (List UInt8)} (h : w.ownsRow base 9 1 v xs.length (xs.map strV)) :
    ∃ a cap, v = .slice a xs.length cap ∧ xs.length ≤ cap ∧ cap ≤ maxLen ∧ ∀ k, (hk : k < xs.length) → ∃ g, a = some ⟨g, 0, none⟩ ∧ base ≤ g ∧ g < w.heap.size ∧ w.cell? ⟨g, k, none⟩ = some (strV xs[k]) := by
  have h0 := h
  obtain ⟨_, ⟨rfl, hn⟩ | ⟨g, cap, cur, rfl, hg, hh, hcap, hmax, _⟩⟩ := h
  · exact ⟨none, 0, by rw [hn], by omega, by decide, fun k hk => by omega⟩
  · refine ⟨_, cap, rfl, hcap, hmax, fun k hk => ⟨g, rfl, hg, (Array.getElem?_eq_some_iff.1 hh).1, ?_⟩⟩
    rw [h0.cellAt k (by omega)]
    simp [hk]

theorem joinS_take (xs : List (List UInt8)) (k : Nat) (hk : k < xs.length) : Pl.joinS (xs.take (k + 1)) = if k = 0 then xs[k] else Pl.joinS (xs.take k) ++ [47] ++ xs[k] := by
  rw [List.take_succ_eq_append_getElem hk]
  split
  · rename_i h; subst h; simp [Pl.joinS_one]
  · rw [Pl.joinS_snoc]
    intro h
    have h1 := congrArg List.length h
    rw [List.length_take, List.length_nil] at h1; omega

theorem joinS_len (xs : List (List UInt8)) : (Pl.joinS xs).length ≤ Pl.total xs := by
  cases xs with
  | nil => simp [Pl.joinS_nil]
  | cons x r =>
    unfold Pl.joinS
    rw [Lib.join_cons, List.length_append, Lib.joinTail_length]
    simp [Pl.total, Lib.lens]; omega
theorem total_take (xs : List (List UInt8)) (k : Nat) : Pl.total (xs.take k) ≤ Pl.total xs := by
  have := Lib.lens_take_le xs k
  simp only [Pl.total, List.length_take]; omega
theorem len_le_total (xs : List (List UInt8)) (k : Nat) (hk : k < xs.length) : xs[k].length ≤ Pl.total xs := by
  have h1 := Lib.lens_take_succ xs k xs[k] (by simp [hk])
  have h2 := Lib.lens_take_le xs (k + 1)
  simp only [Pl.total]; omega
theorem bytes_eq {a b : ByteArray} (h : a.data.toList = b.data.toList) : a = b := by
  apply ByteArray.ext; exact Array.toList_inj.1 h
theorem size_data (a : ByteArray) : a.size = a.data.toList.length := by simp

set_option maxHeartbeats 1000000 in
set_option maxRecDepth 100000 in
theorem l1joined_any (base : Nat) (v : Value) (xs : List (List UInt8)) (w : World) (hrow : w.ownsRow base 9 1 v xs.length (xs.map strV)) (hs : Pl.total xs ≤ 4194304) :
    Calls Tryz.prog 99 #[v] w fun e w' => e = .returned (strV (Pl.joinS xs)) ∧ w' = w := by
  obtain ⟨a, cap, rfl, hcap, hmax, hcell⟩ := row_shape hrow
  have hlen : xs.length ≤ 4194304 := by unfold Pl.total at hs; omega
  have HC := hcell
  have HC' : Hid (∀ k, (hk : k < xs.length) → ∃ g, a = some ⟨g, 0, none⟩ ∧ base ≤ g ∧ g < w.heap.size ∧ w.cell? ⟨g, k, none⟩ = some (strV xs[k])) := HC
  clear HC hcell hrow hmax
  go_enter Tryz.func99, Tryz.ntmps99
  go_wp2
  go_loop [3, 8] (fun o i => ∃ (k : Nat) (b : ByteArray), k ≤ xs.length ∧ i = .int .i64 k ∧ o = .string b ∧ Hid (b.data.toList = Pl.joinS (xs.take k))) (fun _ i => xs.length - (intOf i).toNat)
  case atStart => exact ⟨0, ⟨#[]⟩, Nat.zero_le _, rfl, rfl, by unfold Hid; simp [Pl.joinS_nil]⟩
  case round =>
    obtain ⟨k, b, hk, rfl, rfl, hb⟩ := hrel
    have hbs : b.size ≤ 4194304 := by
      rw [size_data, hb.out]
      have h1 := joinS_len (xs.take k)
      have h2 := total_take xs k
      omega
    by_cases hlt : k < xs.length
    · obtain ⟨g, rfl, _, _, hc⟩ := HC'.out k hlt
      obtain ⟨q, hq⟩ : ∃ q : ByteArray, q = ⟨xs[k].toArray⟩ := ⟨_, rfl⟩
      have hqd : q.data.toList = xs[k] := by rw [hq]
      have hqs : q.size ≤ 4194304 := by
        rw [size_data, hqd]; have := len_le_total xs k hlt; omega
      have hcq : w.cell? ⟨g, k, none⟩ = some (.string q) := by rw [hc, hq]; rfl
      have HQ : Hid (q.data.toList = xs[k]) := hqd
      clear hc hq hqd
      by_cases h0 : k = 0
      · subst h0
        have HF : Hid ((b ++ q).data.toList = Pl.joinS (xs.take (0 + 1))) := by
          unfold Hid
          rw [joinS_take xs 0 hlt, if_pos rfl, ByteArray.data_append, Array.toList_append, hb.out, HQ.out]
          simp [Pl.joinS_nil]
        go_wp2
        go_round
        case rel => exact ⟨0 + 1, b ++ q, by omega, by go_num, rfl, HF⟩
        case measure => simp [intOf]; omega
      · have hpos : 0 < k := by omega
        have HF : Hid ((b ++ ⟨#[47]⟩ ++ q).data.toList = Pl.joinS (xs.take (k + 1))) := by
          unfold Hid
          rw [joinS_take xs k hlt, if_neg h0, ByteArray.data_append, ByteArray.data_append, Array.toList_append, Array.toList_append, hb.out, HQ.out]
        clear h0
        go_wp2
        go_round
        case rel => exact ⟨k + 1, b ++ ⟨#[47]⟩ ++ q, by omega, by go_num, rfl, HF⟩
        case measure => simp [intOf]; omega
    · have hb2 : b.data.toList = Pl.joinS xs := by rw [hb.out, List.take_of_length_le (by omega)]
      have HB : Hid (b.data.toList = Pl.joinS xs) := hb2
      clear hb2 hb
      go_wp2
      go_ret
      refine ⟨?_, rfl⟩
      rw [← HB.out, strV_data]
      rfl

end Go.Proofs.YtimgafblpmjajabGreat
