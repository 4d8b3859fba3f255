
import Derived.Test.YtimgafblpmjajabGreatLeaf

import Derived.Maps.AppendAt

namespace Go.Proofs.YtimgafblpmjajabGreat

open Go.RowKit

theorem Tryz.info9 : (Tryz.prog.info? 9).map (fun i => (i.zero, i.size, i.bytes)) = some (some (.string ByteArray.empty), 1, 16) := by kernel_rfl
def strV (l : List UInt8) : Value := .string ⟨l.toArray⟩
theorem strV_extract (s : ByteArray) (a k : Nat) : Value.string (s.extract a k) = strV ((s.data.toList.drop a).take (k - a)) := by
  unfold strV
  congr 1
  apply ByteArray.ext
  rw [ByteArray.data_extract]
  simp [← Array.toList_inj]
theorem strV_data (s : ByteArray) : strV s.data.toList = .string s := by
  unfold strV; simp
theorem splitTo_hit (s : ByteArray) (k : Nat) (hk : k < s.size) (cur : List UInt8) (h : s[k] = 47) : Pl.splitTo cur (s.data.toList.drop k) = cur :: Pl.splitTo [] (s.data.toList.drop (k + 1)) := by
  rw [List.drop_eq_getElem_cons (by simpa using hk)]
  have : s.data.toList[k]'(by simpa using hk) = 47 := h
  rw [this]; simp [Pl.splitTo]
theorem take_at (s : ByteArray) (a k : Nat) (hk : k < s.size) (ha : a ≤ k) : (s.data.toList.drop a).take (k + 1 - a) = (s.data.toList.drop a).take (k - a) ++ [s[k]] := by
  rw [show k + 1 - a = (k - a) + 1 by omega, List.take_succ_eq_append_getElem (by simp; omega)]
  congr 2
  have e : a + (k - a) = k := by omega
  rw [List.getElem_drop]
  simp only [e]
  rfl
theorem splitTo_miss (s : ByteArray) (a k : Nat) (hk : k < s.size) (ha : a ≤ k) (h : s[k] ≠ 47) : Pl.splitTo ((s.data.toList.drop a).take (k - a)) (s.data.toList.drop k) = Pl.splitTo ((s.data.toList.drop a).take (k + 1 - a)) (s.data.toList.drop (k + 1)) := by
  have e1 : s.data.toList.drop k = s[k] :: s.data.toList.drop (k + 1) := List.drop_eq_getElem_cons (by simpa using hk)
  rw [e1, take_at s a k hk ha]; simp [Pl.splitTo, h]
theorem splitTo_end (s : ByteArray) (k : Nat) (hk : k = s.size) (cur : List UInt8) : Pl.splitTo cur (s.data.toList.drop k) = [cur] := by
  rw [List.drop_of_length_le (by simp; omega)]; rfl

theorem own_block_ge {w : World} {base : Nat} {e : TypeId} {size : Nat} {v : Value} {n : Nat} {xs : List Value} (h : w.ownsRow base e size v n xs) : ∀ k, v.ownBlock = some k → base ≤ k := by
  obtain ⟨_, ⟨rfl, _⟩ | ⟨g, cap, cur, rfl, hg, _⟩⟩ := h
  · intro k hk; cases hk
  · intro k hk; cases hk; exact hg

/-- Behind an append of one text onto a row of texts. -/
theorem row_snoc {w : World} {base : Nat} {v : Value} {D : List (List UInt8)} {x : Value} {p : List UInt8} (hx : x = strV p) (h : w.ownsRow base 9 1 v (D.length + 1) (D.map strV ++ [x])) : w.ownsRow base 9 1 v (D ++ [p]).length ((D ++ [p]).map strV) := by
  rw [hx] at h; simpa using h

/-- Nothing old turns by an append onto a row of the call's own. -/
theorem below_append {B : Nat} {w wr w1 : World} {o : Obj} {e : TypeId} {size n : Nat} {v : Value} {xs : List Value} (hB : Below B w wr) (hle : B ≤ wr.heap.size) (hown : wr.ownsRow B e size v n xs) (hg : (wr.alloc o).grownBy w1 v.ownBlock) : Below B w w1 :=
  (hB.alloc hle o).grown hg (by simp; omega) (own_block_ge hown)

def PartsRel (w : World) (s : ByteArray) (v a i : Value) (wr : World) : Prop :=
  ∃ (k at' : Nat) (D : List (List UInt8)), i = .int .i64 k ∧ a = .int .i64 at' ∧ wr.ownsRow w.heap.size 9 1 v D.length (D.map strV) ∧ Below w.heap.size w wr ∧
    ((k ≤ s.size ∧ at' ≤ k ∧ Pl.split s.data.toList = D ++ Pl.splitTo ((s.data.toList.drop at').take (k - at')) (s.data.toList.drop k)) ∨ (k = s.size + 1 ∧ D = Pl.split s.data.toList))

set_option maxHeartbeats 1000000 in
set_option maxRecDepth 100000 in
theorem l1parts_any (s : ByteArray) (w : World) (hs : s.size ≤ 1048576) :
    Calls Tryz.prog 85 #[.string s] w fun e w' => ∃ v, e = .returned v ∧ w'.ownsRow w.heap.size 9 1 v (Pl.split s.data.toList).length ((Pl.split s.data.toList).map strV) ∧ Below w.heap.size w w' := by
  obtain ⟨i0, hi, hz0, hz1, hz2⟩ := info_parts Tryz.info9
  have hsl := Pl.length_split s.data.toList
  rw [show s.data.toList.length = s.size by simp] at hsl
  go_enter Tryz.func85, Tryz.ntmps85
  go_wp2
  go_loopw [3, 4, 5] (fun v a i wr => PartsRel w s v a i wr) (fun _ _ i _ => s.size + 1 - (intOf i).toNat)
  case atStart => exact ⟨0, 0, [], rfl, rfl, World.ownsRow_nil _ _ _ _, Below.refl _ _, .inl ⟨Nat.zero_le _, Nat.le_refl _, by simp [Pl.split]⟩⟩
  case round =>
    obtain ⟨k, a, D, rfl, rfl, hown, hB, hk⟩ := hrel
    have hsz := hB.size
    by_cases hlt : k < s.size
    · obtain ⟨hk1, hk2, hk3⟩ : k ≤ s.size ∧ a ≤ k ∧ Pl.split s.data.toList = D ++ Pl.splitTo ((s.data.toList.drop a).take (k - a)) (s.data.toList.drop k) := by rcases hk with h | ⟨h, _⟩; exact h; omega
      have hDl : D.length ≤ s.size + 1 := by rw [hk3] at hsl; simp at hsl; omega
      by_cases h47 : s[k] = 47
      · have hb1 : ((k : Int) == (s.size : Int)) = false := by simp; omega
        have hb2 : ((s[k].toNat : Int) == 47) = true := by rw [h47]; rfl
        have HK : Hid (Pl.split s.data.toList = (D ++ [(s.data.toList.drop a).take (k - a)]) ++ Pl.splitTo ((s.data.toList.drop (k + 1)).take (k + 1 - (k + 1))) (s.data.toList.drop (k + 1))) := by
          unfold Hid; rw [hk3, splitTo_hit s k hlt _ h47]; simp
        clear hk3 hk hsl
        go_wp2_with (at_builtin; refine wpList_append_own _ rfl _ _ 22 rfl w.heap.size 9 i0 (.string ByteArray.empty) 1 16 Tryz.underlying22 hi hz0 hz1 hz2 rfl (by decide) _ _ _ rfl (hown.alloc _) ⟨wr.heap.size, 0, none⟩ 1 1 [.string (s.extract a k)] rfl rfl (cell_one_new _ _ _) (by simp [Value.oneCell']) (by unfold maxLen; omega) (by omega) (by simp; omega) ?_; intro v' w1 hown' hgrow _; have hb := below_append hB hsz hown hgrow; have ho := row_snoc (strV_extract s a k) hown'; clear hown' hgrow hown)
        go_roundw
        case rel => exact ⟨k + 1, k + 1, _, by go_num, by go_num, ho, hb, .inl ⟨by omega, by omega, HK.out⟩⟩
        case measure => simp [intOf]; omega
      · have hb1 : ((k : Int) == (s.size : Int)) = false := by simp; omega
        have hb2 : ((s[k].toNat : Int) == 47) = false := by
          rw [beq_eq_false_iff_ne]; intro h; exact h47 (by rw [← UInt8.toNat_inj]; simp; omega)
        have HK : Hid (Pl.split s.data.toList = D ++ Pl.splitTo ((s.data.toList.drop a).take (k + 1 - a)) (s.data.toList.drop (k + 1))) := by
          unfold Hid; rw [hk3, splitTo_miss s a k hlt hk2 h47]
        clear hk3 hk hsl
        go_wp2
        go_roundw
        case rel => exact ⟨k + 1, a, _, by go_num, rfl, hown, hB, .inl ⟨by omega, by omega, HK.out⟩⟩
        case measure => simp [intOf]; omega
    · by_cases heq : k = s.size
      · obtain ⟨hk1, hk2, hk3⟩ : k ≤ s.size ∧ a ≤ k ∧ Pl.split s.data.toList = D ++ Pl.splitTo ((s.data.toList.drop a).take (k - a)) (s.data.toList.drop k) := by rcases hk with h | ⟨h, _⟩; exact h; omega
        have hDl : D.length ≤ s.size + 1 := by rw [hk3] at hsl; simp at hsl; omega
        have hb1 : ((k : Int) == (s.size : Int)) = true := by simp; omega
        have hb3 : k ≤ s.size := by omega
        have HK : Hid (D ++ [(s.data.toList.drop a).take (k - a)] = Pl.split s.data.toList) := by
          unfold Hid; rw [hk3, splitTo_end s k heq]
        have HE : Hid (k = s.size) := heq
        clear hk3 hk hsl heq
        go_wp2_with (at_builtin; refine wpList_append_own _ rfl _ _ 22 rfl w.heap.size 9 i0 (.string ByteArray.empty) 1 16 Tryz.underlying22 hi hz0 hz1 hz2 rfl (by decide) _ _ _ rfl (hown.alloc _) ⟨wr.heap.size, 0, none⟩ 1 1 [.string (s.extract a k)] rfl rfl (cell_one_new _ _ _) (by simp [Value.oneCell']) (by unfold maxLen; omega) (by omega) (by simp; omega) ?_; intro v' w1 hown' hgrow _; have hb := below_append hB hsz hown hgrow; have ho := row_snoc (strV_extract s a k) hown'; clear hown' hgrow hown)
        go_roundw
        case rel => exact ⟨k + 1, k + 1, _, by go_num, by go_num, ho, hb, .inr ⟨by rw [HE.out], HK.out⟩⟩
        case measure => simp [intOf]; omega
      · have hD : D = Pl.split s.data.toList := by rcases hk with h | ⟨_, h⟩; omega; exact h
        have hk' : s.size < k := by omega
        have HD : Hid (D = Pl.split s.data.toList) := hD
        clear hk hD hsl
        go_wp2
        go_ret
        exact ⟨_, rfl, by rw [← HD.out]; exact hown, hB⟩

end Go.Proofs.YtimgafblpmjajabGreat
