import Derived.Lib.Join
import Derived.Test.YtimgafblpmjajabGreatChecked
import Derived.WalkKit
import Derived.Deep.QuietTactic
import Derived.BigQuiet
import Derived.Maps.AppendAt
import Derived.ArgAppend
import Derived.WalkSmall
import Derived.Deep.Draws
import Derived.Deep.RegionWith
import Derived.Laws.IdiomStrings
namespace Go.Proofs.YtimgafblpmjajabGreat.Pl

/-- A byte that may stand in a plain part. -/
def okB (c : UInt8) : Bool := ((97 ≤ c && c ≤ 122) || (48 ≤ c && c ≤ 57)) || c == 95 || c == 45
/-- A plain part: one or more such bytes. -/
def plainP (p : List UInt8) : Bool := !p.isEmpty && p.all okB

/-- What stands between the slashes, 'cur' being what has come of the first part. -/
def splitTo : List UInt8 → List UInt8 → List (List UInt8)
  | cur, [] => [cur]
  | cur, c :: r => if c = 47 then cur :: splitTo [] r else splitTo (cur ++ [c]) r
def split (s : List UInt8) : List (List UInt8) := splitTo [] s

/-- One part walked. -/
def stepW (row : List (List UInt8)) (p : List UInt8) : List (List UInt8) × Int :=
  if p = [46] then (row, 0) else if p = [46, 46] then (if row = [] then ([], 2) else (row.dropLast, 0)) else if plainP p then (row ++ [p], 0) else ([], 1)
/-- All parts walked; the row, or a code. -/
def walkP : List (List UInt8) → List (List UInt8) → List (List UInt8) × Int
  | row, [] => (row, 0)
  | row, p :: ps => if (stepW row p).2 = 0 then walkP (stepW row p).1 ps else ([], (stepW row p).2)

/-- With slashes between. -/
def joinS (xs : List (List UInt8)) : List UInt8 := Lib.join xs [47]

/-- The answer out of what the walk came to. -/
def fin (r : List (List UInt8) × Int) : Int × List UInt8 :=
  if r.2 = 0 then (if joinS r.1 = [] then (1, []) else if 60 < (joinS r.1).length then (3, []) else (0, joinS r.1)) else (r.2, [])
def nm (row : List (List UInt8)) (s : List UInt8) : Int × List UInt8 := if 60 < s.length then (3, []) else fin (walkP row (split s))

theorem splitTo_ne (cur s : List UInt8) : splitTo cur s ≠ [] := by
  cases s with
  | nil => simp [splitTo]
  | cons c r => by_cases h : c = 47
                · simp [splitTo, h]
                · simp only [splitTo, h, if_false]
                  exact splitTo_ne _ _

theorem walkP_append (row : List (List UInt8)) (a b : List (List UInt8)) :
    walkP row (a ++ b) = if (walkP row a).2 = 0 then walkP (walkP row a).1 b else walkP row a := by
  induction a generalizing row with
  | nil => simp [walkP]
  | cons p ps ih =>
    simp only [List.cons_append, walkP]
    by_cases h : (stepW row p).2 = 0
    · simp only [h, if_true]; exact ih _
    · simp [h]

theorem joinS_nil : joinS [] = [] := rfl
theorem joinS_one (p : List UInt8) : joinS [p] = p := Lib.join_one p [47]
theorem joinS_snoc (xs : List (List UInt8)) (p : List UInt8) (h : xs ≠ []) : joinS (xs ++ [p]) = joinS xs ++ [47] ++ p := by
  cases xs with
  | nil => exact absurd rfl h
  | cons x r =>
    unfold joinS
    rw [List.cons_append, Lib.join_cons, Lib.join_cons]
    simp [Lib.joinTail, List.append_assoc]

/-- How long a walked row may get. -/
def total (xs : List (List UInt8)) : Nat := Lib.lens xs + xs.length

theorem total_snoc (xs : List (List UInt8)) (p : List UInt8) : total (xs ++ [p]) = total xs + p.length + 1 := by
  simp [total, Lib.lens]; omega
theorem total_dropLast (xs : List (List UInt8)) : total xs.dropLast ≤ total xs := by
  rw [List.dropLast_eq_take]
  have := Lib.lens_take_le xs (xs.length - 1)
  simp only [total, List.length_take]; omega
theorem total_stepW (row : List (List UInt8)) (p : List UInt8) : total (stepW row p).1 ≤ total row + p.length + 1 := by
  unfold stepW
  split
  · simp only; omega
  · split
    · split
      · simp [total, Lib.lens]
      · have := total_dropLast row; simp only; omega
    · split
      · simp only; rw [total_snoc]; omega
      · simp [total, Lib.lens]
theorem total_walkP (row ps : List (List UInt8)) : total (walkP row ps).1 ≤ total row + total ps := by
  induction ps generalizing row with
  | nil => simp [walkP, total, Lib.lens]
  | cons p ps ih =>
    have h1 := total_stepW row p
    have h2 : total (p :: ps) = p.length + 1 + total ps := by simp [total, Lib.lens]; omega
    simp only [walkP]
    split
    · have := ih (stepW row p).1; omega
    · simp [total, Lib.lens]
theorem total_splitTo (cur s : List UInt8) : total (splitTo cur s) = cur.length + s.length + 1 := by
  induction s generalizing cur with
  | nil => simp [splitTo, total, Lib.lens]
  | cons c r ih =>
    unfold splitTo
    split
    · have h := ih []
      have h2 : total (cur :: splitTo [] r) = cur.length + 1 + total (splitTo [] r) := by simp [total, Lib.lens]; omega
      rw [h2, h]; simp; omega
    · rw [ih]; simp; omega
theorem total_split (s : List UInt8) : total (split s) = s.length + 1 := by
  unfold split; rw [total_splitTo]; simp
theorem length_split (s : List UInt8) : (split s).length ≤ s.length + 1 := by
  have := total_split s; unfold total at this; omega

end Go.Proofs.YtimgafblpmjajabGreat.Pl
namespace Go.Proofs.YtimgafblpmjajabGreat

open Go.RowKit

theorem okB_int (c : UInt8) : Pl.okB c = ((((decide ((97 : Int) ≤ (c.toNat : Int)) && decide ((c.toNat : Int) ≤ 122)) || (decide ((48 : Int) ≤ (c.toNat : Int)) && decide ((c.toNat : Int) ≤ 57))) || ((c.toNat : Int) == 95)) || ((c.toNat : Int) == 45)) := by
  unfold Pl.okB
  have e1 : (97 ≤ c) ↔ ((97 : Int) ≤ (c.toNat : Int)) := by rw [UInt8.le_iff_toNat_le]; simp; omega
  have e2 : (c ≤ 122) ↔ ((c.toNat : Int) ≤ 122) := by rw [UInt8.le_iff_toNat_le]; simp; omega
  have e3 : (48 ≤ c) ↔ ((48 : Int) ≤ (c.toNat : Int)) := by rw [UInt8.le_iff_toNat_le]; simp; omega
  have e4 : (c ≤ 57) ↔ ((c.toNat : Int) ≤ 57) := by rw [UInt8.le_iff_toNat_le]; simp; omega
  have e5 : (c == 95) = ((c.toNat : Int) == 95) := by
    rw [Bool.eq_iff_iff, beq_iff_eq, beq_iff_eq, ← UInt8.toNat_inj]; simp; omega
  have e6 : (c == 45) = ((c.toNat : Int) == 45) := by
    rw [Bool.eq_iff_iff, beq_iff_eq, beq_iff_eq, ← UInt8.toNat_inj]; simp; omega
  rw [e5, e6]
  simp only [e1, e2, e3, e4]

theorem ret_bool {a b : Bool} (h : a = b) : Ending.returned (.bool a) = .returned (.bool b) := by rw [h]
theorem ret_int {k : IntKind} {a b : Int} (h : a = b) : Ending.returned (.int k a) = .returned (.int k b) := by rw [h]

set_option maxHeartbeats 400000 in
set_option maxRecDepth 100000 in
theorem isPlainByte_any (c : UInt8) (w : World) :
    Calls Tryz.prog 104 #[.int .u8 (c.toNat : Int)] w fun e w' => e = .returned (.bool (Pl.okB c)) ∧ w' = w := by
  have h256 : (c.toNat : Int) < 256 := by have := c.toNat_lt; omega
  rw [okB_int]
  go_enter Tryz.func104, Tryz.ntmps104
  go_wp2
  all_goals go_ret
  all_goals refine ⟨ret_bool ?_, rfl⟩
  all_goals (first | rfl | (rw [Bool.eq_iff_iff]; simp; omega))

set_option maxHeartbeats 400000 in
set_option maxRecDepth 100000 in
theorem l1byte_any (c : UInt8) (w : World) :
    Calls Tryz.prog 107 #[.int .u8 (c.toNat : Int)] w fun e w' => e = .returned (.bool (Pl.okB c)) ∧ w' = w := by
  have h256 : (c.toNat : Int) < 256 := by have := c.toNat_lt; omega
  rw [okB_int]
  go_enter Tryz.func107, Tryz.ntmps107
  go_wp2
  all_goals go_ret
  all_goals refine ⟨ret_bool ?_, rfl⟩
  all_goals (first | rfl | (rw [Bool.eq_iff_iff]; simp; omega))

theorem take_snoc (s : ByteArray) (k : Nat) (h : k < s.size) : s.data.toList.take (k + 1) = s.data.toList.take k ++ [s[k]] := by
  rw [List.take_succ_eq_append_getElem (by simpa using h)]; rfl

theorem plain_end (s : ByteArray) (k : Nat) (hk : ¬ k < s.size) (h : (s.data.toList.take k).all Pl.okB = true) : (!s.toList.isEmpty) = Pl.plainP s.data.toList := by
  rw [List.take_of_length_le (by simp; omega)] at h
  unfold Pl.plainP
  rw [h, Bool.and_true, Go.ByteArray.toList_eq]

set_option maxHeartbeats 400000 in
set_option maxRecDepth 100000 in
theorem isPlain_any (s : ByteArray) (w : World) (hs : s.size ≤ maxLen) :
    Calls Tryz.prog 93 #[.string s] w fun e w' => e = .returned (.bool (Pl.plainP s.data.toList)) ∧ w' = w := by
  unfold maxLen at hs
  go_enter Tryz.func93, Tryz.ntmps93
  go_wp2
  go_loop [6] (fun i => ∃ k : Nat, k ≤ s.size ∧ i = .int .i64 k ∧ (s.data.toList.take k).all Pl.okB = true) (fun i => s.size - (intOf i).toNat)
  case atStart => exact ⟨0, Nat.zero_le _, rfl, rfl⟩
  case round =>
    obtain ⟨k, hk, rfl, hall⟩ := hrel
    by_cases hlt : k < s.size
    · cases hok : Pl.okB s[k] with
      | true =>
        have HA : Hid ((s.data.toList.take (k + 1)).all Pl.okB = true) := by unfold Hid; rw [take_snoc s k hlt, List.all_append, hall]; simp [hok]
        clear hall
        go_wp2_with (go_at_call 104; refine (isPlainByte_any _ _).mono ?_; rintro e w' ⟨rfl, rfl⟩)
        go_round
        case rel => exact ⟨k + 1, by omega, by go_num, HA.out⟩
        case measure => simp [intOf]; omega
      | false =>
        have HA : Hid (Pl.plainP s.data.toList = false) := by
          unfold Hid Pl.plainP
          have hm : s[k] ∈ s.data.toList := by
            show s.data[k] ∈ s.data.toList
            simp
          rw [Bool.and_eq_false_iff]; right
          rw [List.all_eq_false]; exact ⟨s[k], hm, by simp [hok]⟩
        clear hall
        go_wp2_with (go_at_call 104; refine (isPlainByte_any _ _).mono ?_; rintro e w' ⟨rfl, rfl⟩)
        go_ret
        exact ⟨ret_bool HA.out.symm, rfl⟩
    · have HE := plain_end s k hlt hall
      have HE' : Hid ((!s.toList.isEmpty) = Pl.plainP s.data.toList) := HE
      clear HE hall
      go_wp2
      go_ret
      exact ⟨ret_bool HE'.out, rfl⟩

end Go.Proofs.YtimgafblpmjajabGreat
namespace Go.Proofs.YtimgafblpmjajabGreat

open Go.RowKit

theorem Tryz.info9 : (Tryz.prog.info? 9).map (fun i => (i.zero, i.size, i.bytes)) = some (some (.string ByteArray.empty), 1, 16) := by kernel_rfl
def strV (l : List UInt8) : Value := .string ⟨l.toArray⟩
theorem strV_extract (s : ByteArray) (a k : Nat) : Value.string (s.extract a k) = strV ((s.data.toList.drop a).take (k - a)) := by
  unfold strV
  congr 1
  apply ByteArray.ext
  rw [ByteArray.data_extract]
  simp [← Array.toList_inj]
theorem strV_data (s : ByteArray) : strV s.data.toList = .string s := by
  unfold strV; simp
theorem splitTo_hit (s : ByteArray) (k : Nat) (hk : k < s.size) (cur : List UInt8) (h : s[k] = 47) : Pl.splitTo cur (s.data.toList.drop k) = cur :: Pl.splitTo [] (s.data.toList.drop (k + 1)) := by
  rw [List.drop_eq_getElem_cons (by simpa using hk)]
  have : s.data.toList[k]'(by simpa using hk) = 47 := h
  rw [this]; simp [Pl.splitTo]
theorem take_at (s : ByteArray) (a k : Nat) (hk : k < s.size) (ha : a ≤ k) : (s.data.toList.drop a).take (k + 1 - a) = (s.data.toList.drop a).take (k - a) ++ [s[k]] := by
  rw [show k + 1 - a = (k - a) + 1 by omega, List.take_succ_eq_append_getElem (by simp; omega)]
  congr 2
  have e : a + (k - a) = k := by omega
  rw [List.getElem_drop]
  simp only [e]
  rfl
theorem splitTo_miss (s : ByteArray) (a k : Nat) (hk : k < s.size) (ha : a ≤ k) (h : s[k] ≠ 47) : Pl.splitTo ((s.data.toList.drop a).take (k - a)) (s.data.toList.drop k) = Pl.splitTo ((s.data.toList.drop a).take (k + 1 - a)) (s.data.toList.drop (k + 1)) := by
  have e1 : s.data.toList.drop k = s[k] :: s.data.toList.drop (k + 1) := List.drop_eq_getElem_cons (by simpa using hk)
  rw [e1, take_at s a k hk ha]; simp [Pl.splitTo, h]
theorem splitTo_end (s : ByteArray) (k : Nat) (hk : k = s.size) (cur : List UInt8) : Pl.splitTo cur (s.data.toList.drop k) = [cur] := by
  rw [List.drop_of_length_le (by simp; omega)]; rfl

theorem own_block_ge {w : World} {base : Nat} {e : TypeId} {size : Nat} {v : Value} {n : Nat} {xs : List Value} (h : w.ownsRow base e size v n xs) : ∀ k, v.ownBlock = some k → base ≤ k := by
  obtain ⟨_, ⟨rfl, _⟩ | ⟨g, cap, cur, rfl, hg, _⟩⟩ := h
  · intro k hk; cases hk
  · intro k hk; cases hk; exact hg

/-- Behind an append of one text onto a row of texts. -/
theorem row_snoc {w : World} {base : Nat} {v : Value} {D : List (List UInt8)} {x : Value} {p : List UInt8} (hx : x = strV p) (h : w.ownsRow base 9 1 v (D.length + 1) (D.map strV ++ [x])) : w.ownsRow base 9 1 v (D ++ [p]).length ((D ++ [p]).map strV) := by
  rw [hx] at h; simpa using h

/-- Nothing old turns by an append onto a row of the call's own. -/
theorem below_append {B : Nat} {w wr w1 : World} {o : Obj} {e : TypeId} {size n : Nat} {v : Value} {xs : List Value} (hB : Below B w wr) (hle : B ≤ wr.heap.size) (hown : wr.ownsRow B e size v n xs) (hg : (wr.alloc o).grownBy w1 v.ownBlock) : Below B w w1 :=
  (hB.alloc hle o).grown hg (by simp; omega) (own_block_ge hown)

def PartsRel (w : World) (s : ByteArray) (v a i : Value) (wr : World) : Prop :=
  ∃ (k at' : Nat) (D : List (List UInt8)), i = .int .i64 k ∧ a = .int .i64 at' ∧ wr.ownsRow w.heap.size 9 1 v D.length (D.map strV) ∧ Below w.heap.size w wr ∧
    ((k ≤ s.size ∧ at' ≤ k ∧ Pl.split s.data.toList = D ++ Pl.splitTo ((s.data.toList.drop at').take (k - at')) (s.data.toList.drop k)) ∨ (k = s.size + 1 ∧ D = Pl.split s.data.toList))

set_option maxHeartbeats 1000000 in
set_option maxRecDepth 100000 in
theorem l1parts_any (s : ByteArray) (w : World) (hs : s.size ≤ 1048576) :
    Calls Tryz.prog 85 #[.string s] w fun e w' => ∃ v, e = .returned v ∧ w'.ownsRow w.heap.size 9 1 v (Pl.split s.data.toList).length ((Pl.split s.data.toList).map strV) ∧ Below w.heap.size w w' := by
  obtain ⟨i0, hi, hz0, hz1, hz2⟩ := info_parts Tryz.info9
  have hsl := Pl.length_split s.data.toList
  rw [show s.data.toList.length = s.size by simp] at hsl
  go_enter Tryz.func85, Tryz.ntmps85
  go_wp2
  go_loopw [3, 4, 5] (fun v a i wr => PartsRel w s v a i wr) (fun _ _ i _ => s.size + 1 - (intOf i).toNat)
  case atStart => exact ⟨0, 0, [], rfl, rfl, World.ownsRow_nil _ _ _ _, Below.refl _ _, .inl ⟨Nat.zero_le _, Nat.le_refl _, by simp [Pl.split]⟩⟩
  case round =>
    obtain ⟨k, a, D, rfl, rfl, hown, hB, hk⟩ := hrel
    have hsz := hB.size
    by_cases hlt : k < s.size
    · obtain ⟨hk1, hk2, hk3⟩ : k ≤ s.size ∧ a ≤ k ∧ Pl.split s.data.toList = D ++ Pl.splitTo ((s.data.toList.drop a).take (k - a)) (s.data.toList.drop k) := by rcases hk with h | ⟨h, _⟩; exact h; omega
      have hDl : D.length ≤ s.size + 1 := by rw [hk3] at hsl; simp at hsl; omega
      by_cases h47 : s[k] = 47
      · have hb1 : ((k : Int) == (s.size : Int)) = false := by simp; omega
        have hb2 : ((s[k].toNat : Int) == 47) = true := by rw [h47]; rfl
        have HK : Hid (Pl.split s.data.toList = (D ++ [(s.data.toList.drop a).take (k - a)]) ++ Pl.splitTo ((s.data.toList.drop (k + 1)).take (k + 1 - (k + 1))) (s.data.toList.drop (k + 1))) := by
          unfold Hid; rw [hk3, splitTo_hit s k hlt _ h47]; simp
        clear hk3 hk hsl
        go_wp2_with (at_builtin; refine wpList_append_own _ rfl _ _ 22 rfl w.heap.size 9 i0 (.string ByteArray.empty) 1 16 Tryz.underlying22 hi hz0 hz1 hz2 rfl (by decide) _ _ _ rfl (hown.alloc _) ⟨wr.heap.size, 0, none⟩ 1 1 [.string (s.extract a k)] rfl rfl (cell_one_new _ _ _) (by simp [Value.oneCell']) (by unfold maxLen; omega) (by omega) (by simp; omega) ?_; intro v' w1 hown' hgrow _; have hb := below_append hB hsz hown hgrow; have ho := row_snoc (strV_extract s a k) hown'; clear hown' hgrow hown)
        go_roundw
        case rel => exact ⟨k + 1, k + 1, _, by go_num, by go_num, ho, hb, .inl ⟨by omega, by omega, HK.out⟩⟩
        case measure => simp [intOf]; omega
      · have hb1 : ((k : Int) == (s.size : Int)) = false := by simp; omega
        have hb2 : ((s[k].toNat : Int) == 47) = false := by
          rw [beq_eq_false_iff_ne]; intro h; exact h47 (by rw [← UInt8.toNat_inj]; simp; omega)
        have HK : Hid (Pl.split s.data.toList = D ++ Pl.splitTo ((s.data.toList.drop a).take (k + 1 - a)) (s.data.toList.drop (k + 1))) := by
          unfold Hid; rw [hk3, splitTo_miss s a k hlt hk2 h47]
        clear hk3 hk hsl
        go_wp2
        go_roundw
        case rel => exact ⟨k + 1, a, _, by go_num, rfl, hown, hB, .inl ⟨by omega, by omega, HK.out⟩⟩
        case measure => simp [intOf]; omega
    · by_cases heq : k = s.size
      · obtain ⟨hk1, hk2, hk3⟩ : k ≤ s.size ∧ a ≤ k ∧ Pl.split s.data.toList = D ++ Pl.splitTo ((s.data.toList.drop a).take (k - a)) (s.data.toList.drop k) := by rcases hk with h | ⟨h, _⟩; exact h; omega
        have hDl : D.length ≤ s.size + 1 := by rw [hk3] at hsl; simp at hsl; omega
        have hb1 : ((k : Int) == (s.size : Int)) = true := by simp; omega
        have hb3 : k ≤ s.size := by omega
        have HK : Hid (D ++ [(s.data.toList.drop a).take (k - a)] = Pl.split s.data.toList) := by
          unfold Hid; rw [hk3, splitTo_end s k heq]
        have HE : Hid (k = s.size) := heq
        clear hk3 hk hsl heq
        go_wp2_with (at_builtin; refine wpList_append_own _ rfl _ _ 22 rfl w.heap.size 9 i0 (.string ByteArray.empty) 1 16 Tryz.underlying22 hi hz0 hz1 hz2 rfl (by decide) _ _ _ rfl (hown.alloc _) ⟨wr.heap.size, 0, none⟩ 1 1 [.string (s.extract a k)] rfl rfl (cell_one_new _ _ _) (by simp [Value.oneCell']) (by unfold maxLen; omega) (by omega) (by simp; omega) ?_; intro v' w1 hown' hgrow _; have hb := below_append hB hsz hown hgrow; have ho := row_snoc (strV_extract s a k) hown'; clear hown' hgrow hown)
        go_roundw
        case rel => exact ⟨k + 1, k + 1, _, by go_num, by go_num, ho, hb, .inr ⟨by rw [HE.out], HK.out⟩⟩
        case measure => simp [intOf]; omega
      · have hD : D = Pl.split s.data.toList := by rcases hk with h | ⟨_, h⟩; omega; exact h
        have hk' : s.size < k := by omega
        have HD : Hid (D = Pl.split s.data.toList) := hD
        clear hk hD hsl
        go_wp2
        go_ret
        exact ⟨_, rfl, by rw [← HD.out]; exact hown, hB⟩

end Go.Proofs.YtimgafblpmjajabGreat
namespace Go.Proofs.YtimgafblpmjajabGreat

open Go.RowKit

/-- What a row of texts of the call's own looks like. -/
theorem row_shape {w : World} {base : Nat} {v : Value} {xs : List (List UInt8)} (h : w.ownsRow base 9 1 v xs.length (xs.map strV)) :
    ∃ a cap, v = .slice a xs.length cap ∧ xs.length ≤ cap ∧ cap ≤ maxLen ∧ ∀ k, (hk : k < xs.length) → ∃ g, a = some ⟨g, 0, none⟩ ∧ base ≤ g ∧ g < w.heap.size ∧ w.cell? ⟨g, k, none⟩ = some (strV xs[k]) := by
  have h0 := h
  obtain ⟨_, ⟨rfl, hn⟩ | ⟨g, cap, cur, rfl, hg, hh, hcap, hmax, _⟩⟩ := h
  · exact ⟨none, 0, by rw [hn], by omega, by decide, fun k hk => by omega⟩
  · refine ⟨_, cap, rfl, hcap, hmax, fun k hk => ⟨g, rfl, hg, (Array.getElem?_eq_some_iff.1 hh).1, ?_⟩⟩
    rw [h0.cellAt k (by omega)]
    simp [hk]

theorem joinS_take (xs : List (List UInt8)) (k : Nat) (hk : k < xs.length) : Pl.joinS (xs.take (k + 1)) = if k = 0 then xs[k] else Pl.joinS (xs.take k) ++ [47] ++ xs[k] := by
  rw [List.take_succ_eq_append_getElem hk]
  split
  · rename_i h; subst h; simp [Pl.joinS_one]
  · rw [Pl.joinS_snoc]
    intro h
    have h1 := congrArg List.length h
    rw [List.length_take, List.length_nil] at h1; omega

theorem joinS_len (xs : List (List UInt8)) : (Pl.joinS xs).length ≤ Pl.total xs := by
  cases xs with
  | nil => simp [Pl.joinS_nil]
  | cons x r =>
    unfold Pl.joinS
    rw [Lib.join_cons, List.length_append, Lib.joinTail_length]
    simp [Pl.total, Lib.lens]; omega
theorem total_take (xs : List (List UInt8)) (k : Nat) : Pl.total (xs.take k) ≤ Pl.total xs := by
  have := Lib.lens_take_le xs k
  simp only [Pl.total, List.length_take]; omega
theorem len_le_total (xs : List (List UInt8)) (k : Nat) (hk : k < xs.length) : xs[k].length ≤ Pl.total xs := by
  have h1 := Lib.lens_take_succ xs k xs[k] (by simp [hk])
  have h2 := Lib.lens_take_le xs (k + 1)
  simp only [Pl.total]; omega
theorem bytes_eq {a b : ByteArray} (h : a.data.toList = b.data.toList) : a = b := by
  apply ByteArray.ext; exact Array.toList_inj.1 h
theorem size_data (a : ByteArray) : a.size = a.data.toList.length := by simp

set_option maxHeartbeats 1000000 in
set_option maxRecDepth 100000 in
theorem l1joined_any (base : Nat) (v : Value) (xs : List (List UInt8)) (w : World) (hrow : w.ownsRow base 9 1 v xs.length (xs.map strV)) (hs : Pl.total xs ≤ 4194304) :
    Calls Tryz.prog 99 #[v] w fun e w' => e = .returned (strV (Pl.joinS xs)) ∧ w' = w := by
  obtain ⟨a, cap, rfl, hcap, hmax, hcell⟩ := row_shape hrow
  have hlen : xs.length ≤ 4194304 := by unfold Pl.total at hs; omega
  have HC := hcell
  have HC' : Hid (∀ k, (hk : k < xs.length) → ∃ g, a = some ⟨g, 0, none⟩ ∧ base ≤ g ∧ g < w.heap.size ∧ w.cell? ⟨g, k, none⟩ = some (strV xs[k])) := HC
  clear HC hcell hrow hmax
  go_enter Tryz.func99, Tryz.ntmps99
  go_wp2
  go_loop [3, 8] (fun o i => ∃ (k : Nat) (b : ByteArray), k ≤ xs.length ∧ i = .int .i64 k ∧ o = .string b ∧ Hid (b.data.toList = Pl.joinS (xs.take k))) (fun _ i => xs.length - (intOf i).toNat)
  case atStart => exact ⟨0, ⟨#[]⟩, Nat.zero_le _, rfl, rfl, by unfold Hid; simp [Pl.joinS_nil]⟩
  case round =>
    obtain ⟨k, b, hk, rfl, rfl, hb⟩ := hrel
    have hbs : b.size ≤ 4194304 := by
      rw [size_data, hb.out]
      have h1 := joinS_len (xs.take k)
      have h2 := total_take xs k
      omega
    by_cases hlt : k < xs.length
    · obtain ⟨g, rfl, _, _, hc⟩ := HC'.out k hlt
      obtain ⟨q, hq⟩ : ∃ q : ByteArray, q = ⟨xs[k].toArray⟩ := ⟨_, rfl⟩
      have hqd : q.data.toList = xs[k] := by rw [hq]
      have hqs : q.size ≤ 4194304 := by
        rw [size_data, hqd]; have := len_le_total xs k hlt; omega
      have hcq : w.cell? ⟨g, k, none⟩ = some (.string q) := by rw [hc, hq]; rfl
      have HQ : Hid (q.data.toList = xs[k]) := hqd
      clear hc hq hqd
      by_cases h0 : k = 0
      · subst h0
        have HF : Hid ((b ++ q).data.toList = Pl.joinS (xs.take (0 + 1))) := by
          unfold Hid
          rw [joinS_take xs 0 hlt, if_pos rfl, ByteArray.data_append, Array.toList_append, hb.out, HQ.out]
          simp [Pl.joinS_nil]
        go_wp2
        go_round
        case rel => exact ⟨0 + 1, b ++ q, by omega, by go_num, rfl, HF⟩
        case measure => simp [intOf]; omega
      · have hpos : 0 < k := by omega
        have HF : Hid ((b ++ ⟨#[47]⟩ ++ q).data.toList = Pl.joinS (xs.take (k + 1))) := by
          unfold Hid
          rw [joinS_take xs k hlt, if_neg h0, ByteArray.data_append, ByteArray.data_append, Array.toList_append, Array.toList_append, hb.out, HQ.out]
        clear h0
        go_wp2
        go_round
        case rel => exact ⟨k + 1, b ++ ⟨#[47]⟩ ++ q, by omega, by go_num, rfl, HF⟩
        case measure => simp [intOf]; omega
    · have hb2 : b.data.toList = Pl.joinS xs := by rw [hb.out, List.take_of_length_le (by omega)]
      have HB : Hid (b.data.toList = Pl.joinS xs) := hb2
      clear hb2 hb
      go_wp2
      go_ret
      refine ⟨?_, rfl⟩
      rw [← HB.out, strV_data]
      rfl

end Go.Proofs.YtimgafblpmjajabGreat
namespace Go.Proofs.YtimgafblpmjajabGreat

open Go.RowKit

theorem own_mono {w : World} {base base' : Nat} {e : TypeId} {size : Nat} {v : Value} {n : Nat} {xs : List Value} (h : w.ownsRow base e size v n xs) (hb : base' ≤ base) : w.ownsRow base' e size v n xs := by
  obtain ⟨h1, h2 | ⟨g, cap, cur, hv, hg, r⟩⟩ := h
  · exact ⟨h1, .inl h2⟩
  · exact ⟨h1, .inr ⟨g, cap, cur, hv, by omega, r⟩⟩

/-- 'append(out, x)' of one element of one cell, out nil or the call's own: and the row is the old one or a new one. -/
theorem wpList_app1 {P : Program} (w : World) {ops : Array Oper} {rest : List Oper} {o : Oper} {a : Act} {Q : Exit → Act → World → Prop}
    (hg : o.guard = none) (s x : Operand) (t : TypeId) (hop : o.op = Op.call { callee := Callee.builtin Builtin.append, args := #[s, x], argTypes := #[t, t] })
    (base : Nat) (e : TypeId) (i : TypeInfo) (z : Value) (bytes : Nat) (h1 : P.underlying t = some (.slice e)) (h2 : P.info? e = some i) (h3 : i.zero = some z) (h4 : i.size = 1) (h5 : i.bytes = bytes) (h6 : z.cells.size = 1)
    (v : Value) (n : Nat) (xs : List Value) (hs : a.eval s = v) (hown : w.ownsRow base e 1 v n xs)
    (ad : Addr) (c : Nat) (u : Value) (hx : a.eval x = .slice (some ad) 1 c) (hc : ∀ j u', [u][j]? = some u' → w.cell? (ad.add j) = some u') (h1c : u.oneCell' = true)
    (b1 : n + 1 ≤ maxLen) (b2 : (n + 1) * bytes ≤ 140737488355328) (hb : base ≤ w.heap.size)
    (hK : ∀ v' w', w'.ownsRow base e 1 v' (n + 1) (xs ++ [u]) → w.grownBy w' v.ownBlock → (v'.ownBlock = v.ownBlock ∨ ∃ g, v'.ownBlock = some g ∧ w.heap.size ≤ g) → wpList P ops Q rest (a.put o.dst v') w') :
    wpList P ops Q (o :: rest) a w := by
  have hcell1 : ∀ u' ∈ [u], u'.oneCell' = true := fun u' h => by simp at h; rw [h]; exact h1c
  have hgrows : ∀ (ao : Option Addr) (cap : Nat), v = .slice ao n cap → (ao = none → n = 0 ∧ cap = 0) → (∀ b, ao = some b → ∀ j u', xs[j]? = some u' → w.cell? (b.add j) = some u') → cap < n + 1 → wpList P ops Q (o :: rest) a w := by
    intro ao cap hv hnone holds hfull
    refine wpList_append_grows w hg s x t hop e i z 1 bytes h1 h2 h3 h4 h5 h6 (by decide) ao n cap xs (hs.trans hv) hnone hown.1 holds ad 1 c [u] hx rfl hc hcell1 hfull b1 b2 ?_
    intro v' w' ho hgr
    refine hK v' w' (own_mono ho hb) ⟨hgr.os, hgr.tape, hgr.output, hgr.size, fun k hk _ => hgr.block k hk (by simp)⟩ (.inr ?_)
    obtain ⟨_, ⟨_, h0⟩ | ⟨g, cap', cur, rfl, hge, _⟩⟩ := ho
    · omega
    · exact ⟨g, rfl, hge⟩
  rcases hown.2 with ⟨hv, hn⟩ | ⟨g, cap, cur, hv, hge, hh, hcap, hmax, hsz, htake⟩
  · exact hgrows none 0 (by rw [hv, hn]) (fun _ => ⟨hn, rfl⟩) (fun b h => by cases h) (by omega)
  · by_cases hroom : n + 1 ≤ cap
    · refine wpList_append_fits w hg s x t hop base e i 1 h1 h2 h4 g n cap xs (hs.trans hv) (hv ▸ hown) ad 1 c [u] hx rfl hc hcell1 hroom ?_
      intro w' ho hgr
      refine hK _ w' ho (by rw [hv]; exact hgr) (.inl (by rw [hv]; rfl))
    · exact hgrows (some ⟨g, 0, none⟩) cap hv (fun h => by cases h) (fun b h j u' hj => by
        cases h
        exact hown.cells (g := g) (by rw [hv]; rfl) j u' hj) (by omega)

/-- Two rows apart. -/
def Apart (v p : Value) : Prop := p.ownBlock = none ∨ p.ownBlock ≠ v.ownBlock

theorem Apart.app {w : World} {v v' p : Value} {base : Nat} {e : TypeId} {size n : Nat} {xs : List Value} (h : Apart v p) (hp : w.ownsRow base e size p n xs) (hn : v'.ownBlock = v.ownBlock ∨ ∃ g, v'.ownBlock = some g ∧ w.heap.size ≤ g) : Apart v' p := by
  rcases hn with hn | ⟨g, hg, hle⟩
  · unfold Apart; rw [hn]; exact h
  · cases hpb : p.ownBlock with
    | none => exact .inl hpb
    | some k =>
      right
      have := (hp.lt k hpb).2
      rw [hg, hpb]; intro e'; cases e'; omega

/-- What is owned stays owned while nothing below turns. -/
theorem own_below {w w' : World} {B base : Nat} {e : TypeId} {size : Nat} {v : Value} {n : Nat} {xs : List Value} (h : w.ownsRow base e size v n xs) (hB : Below B w w') (hlt : w.heap.size ≤ B) : w'.ownsRow base e size v n xs := by
  obtain ⟨h1, h2 | ⟨g, cap, cur, hv, hg, hh, r⟩⟩ := h
  · exact ⟨h1, .inl h2⟩
  · have hgl := (Array.getElem?_eq_some_iff.1 hh).1
    exact ⟨h1, .inr ⟨g, cap, cur, hv, hg, by rw [hB.block g (by omega)]; exact hh, r⟩⟩

theorem pop_row {w : World} {base : Nat} {v : Value} {D : List (List UInt8)} (hD : D ≠ []) (h : w.ownsRow base 9 1 v D.length (D.map strV)) :
    ∃ g cap, v = .slice (some ⟨g, 0, none⟩) D.length cap ∧ D.length ≤ cap ∧ w.ownsRow base 9 1 (.slice (some ⟨g, 0, none⟩) (D.length - 1) cap) D.dropLast.length (D.dropLast.map strV) := by
  have hpos : 0 < D.length := List.length_pos_iff.2 hD
  obtain ⟨h1, ⟨_, h0⟩ | ⟨g, cap, cur, rfl, hg, hh, hcap, hmax, hsz, htake⟩⟩ := h
  · omega
  · refine ⟨g, cap, rfl, hcap, ?_⟩
    rw [List.length_dropLast]
    refine ⟨by simp, .inr ⟨g, cap, cur, rfl, hg, hh, by omega, hmax, hsz, ?_⟩⟩
    rw [List.dropLast_eq_take, List.map_take, ← htake, List.take_take]
    congr 1; omega

end Go.Proofs.YtimgafblpmjajabGreat
namespace Go.Proofs.YtimgafblpmjajabGreat

open Go.RowKit

/-- A slice of texts that can be read. -/
def Strs (w : World) (v : Value) (L : List (List UInt8)) : Prop :=
  ∃ a cap, v = .slice a L.length cap ∧ L.length ≤ cap ∧ cap ≤ maxLen ∧ ∀ k, (hk : k < L.length) → ∃ b o, a = some ⟨b, o, none⟩ ∧ b < w.heap.size ∧ w.cell? ⟨b, o + k, none⟩ = some (strV L[k])

theorem Strs.of_row {w : World} {base : Nat} {v : Value} {xs : List (List UInt8)} (h : w.ownsRow base 9 1 v xs.length (xs.map strV)) : Strs w v xs := by
  obtain ⟨a, cap, hv, hcap, hmax, hc⟩ := row_shape h
  exact ⟨a, cap, hv, hcap, hmax, fun k hk => by obtain ⟨g, ha, _, hg, hcell⟩ := hc k hk; exact ⟨g, 0, ha, hg, by rw [Nat.zero_add]; exact hcell⟩⟩

theorem Strs.below {w w' : World} {B : Nat} {v : Value} {L : List (List UInt8)} (h : Strs w v L) (hb : Below B w w') (hB : w.heap.size ≤ B) : Strs w' v L := by
  obtain ⟨a, cap, hv, hcap, hmax, hc⟩ := h
  exact ⟨a, cap, hv, hcap, hmax, fun k hk => by
    obtain ⟨b, o, ha, hlt, hcell⟩ := hc k hk
    exact ⟨b, o, ha, Nat.lt_of_lt_of_le hlt hb.size, (hb.cell (p := ⟨b, o + k, none⟩) (Nat.lt_of_lt_of_le hlt hB)).trans hcell⟩⟩

def fits (L : List (List UInt8)) (k : Nat) (left : Int) : Int := left - L.length - Lib.lens (L.take k)

theorem lens_take1 (L : List (List UInt8)) (k : Nat) (hk : k < L.length) : Lib.lens (L.take (k + 1)) = Lib.lens (L.take k) + L[k].length := Lib.lens_take_succ L k L[k] (by simp [hk])

set_option maxHeartbeats 1000000 in
set_option maxRecDepth 100000 in
theorem sz_any (v : Value) (L : List (List UInt8)) (w : World) (h : Strs w v L) (hL : ∀ l ∈ L, l.length ≤ maxLen) :
    Calls Tryz.prog 22 #[v, .int .i64 1048576] w fun e w' => e = .returned (.int .i64 (if Pl.total L ≤ 1048576 then 1048576 - (Pl.total L : Int) else -1)) ∧ w' = w := by
  obtain ⟨a, cap, rfl, hcap, hmax, hc⟩ := h
  unfold maxLen at hmax
  have hlm : L.length ≤ 9223372036854775807 := by omega
  have HC : Hid (∀ k, (hk : k < L.length) → ∃ b o, a = some ⟨b, o, none⟩ ∧ b < w.heap.size ∧ w.cell? ⟨b, o + k, none⟩ = some (strV L[k])) := hc
  have HL : Hid (∀ l ∈ L, l.length ≤ maxLen) := hL
  have HT : Hid (Pl.total L = Lib.lens L + L.length) := rfl
  have HTK : Hid (∀ k, Lib.lens (L.take k) ≤ Lib.lens L) := fun k => Lib.lens_take_le L k
  clear hc hL hmax hcap
  by_cases hlen : 1048576 < L.length
  · have hr : (if Pl.total L ≤ 1048576 then 1048576 - (Pl.total L : Int) else -1) = -1 := by rw [if_neg (by rw [HT.out]; omega)]
    rw [hr]
    clear hr
    go_enter Tryz.func22, Tryz.ntmps22
    go_wp2
    go_ret
    exact ⟨rfl, rfl⟩
  · obtain ⟨R, hR⟩ : ∃ R : Int, R = if Pl.total L ≤ 1048576 then 1048576 - (Pl.total L : Int) else -1 := ⟨_, rfl⟩
    rw [← hR]
    have HR : Hid (R = if Pl.total L ≤ 1048576 then 1048576 - (Pl.total L : Int) else -1) := hR
    clear hR
    go_enter Tryz.func22, Tryz.ntmps22
    go_wp2
    go_loop [1, 5] (fun l i => ∃ k q : Nat, k ≤ L.length ∧ i = .int .i64 k ∧ l = .int .i64 q ∧ q + L.length + Lib.lens (L.take k) = 1048576) (fun _ i => L.length - (intOf i).toNat)
    case atStart => exact ⟨0, 1048576 - L.length, Nat.zero_le _, rfl, by congr 1; omega, by simp [Lib.lens]; omega⟩
    case round =>
      obtain ⟨k, q, hk, rfl, rfl, hq⟩ := hrel
      have hqb : q ≤ 1048576 := by omega
      by_cases hlt : k < L.length
      · obtain ⟨b, o, rfl, _, hcell⟩ := HC.out k hlt
        obtain ⟨s, hs⟩ : ∃ s : ByteArray, s = ⟨L[k].toArray⟩ := ⟨_, rfl⟩
        have hsz : s.size = L[k].length := by rw [hs]; simp [ByteArray.size]
        have hcs : w.cell? ⟨b, o + k, none⟩ = some (.string s) := by rw [hcell, hs]; rfl
        have hsm : s.size ≤ 9223372036854775807 := by rw [hsz]; have := HL.out _ (List.getElem_mem hlt); unfold maxLen at this; omega
        have h1 := lens_take1 L k hlt
        rw [← hsz] at h1
        have h2 := HTK.out (k + 1)
        clear hs hcell hsz
        by_cases hneg : q < s.size
        · have hRn : R = -1 := by rw [HR.out, if_neg (by rw [HT.out]; omega)]
          have HRn : Hid (R = -1) := hRn
          clear hRn h1 h2 hq
          go_wp2
          go_ret
          exact ⟨ret_int HRn.out.symm, rfl⟩
        · have hq2 : (q - s.size) + L.length + Lib.lens (L.take (k + 1)) = 1048576 := by omega
          have HQ : Hid ((q - s.size) + L.length + Lib.lens (L.take (k + 1)) = 1048576) := hq2
          clear hq2 h1 h2 hq
          go_wp2
          go_round
          case rel => exact ⟨k + 1, q - s.size, by omega, by go_num, by go_num, HQ.out⟩
          case measure => simp [intOf]; omega
      · have hRe : (q : Int) = R := by
          rw [List.take_of_length_le (by omega)] at hq
          rw [HR.out, if_pos (by rw [HT.out]; omega), HT.out]; omega
        have HRe : Hid ((q : Int) = R) := hRe
        clear hRe hq
        go_wp2
        go_ret
        exact ⟨ret_int HRe.out, rfl⟩

/-- A row on its way: the first k are copied. -/
def part (L : List (List UInt8)) (k : Nat) : List Value := (L.take k).map strV ++ List.replicate (L.length - k) (.string ByteArray.empty)
theorem part_zero (L : List (List UInt8)) : part L 0 = List.replicate L.length (.string ByteArray.empty) := by simp [part]
theorem part_all (L : List (List UInt8)) (k : Nat) (h : L.length ≤ k) : part L k = L.map strV := by
  unfold part; rw [List.take_of_length_le h, show L.length - k = 0 by omega]; simp
theorem part_set (L : List (List UInt8)) (k : Nat) (hk : k < L.length) : (part L k).set k (strV L[k]) = part L (k + 1) := by
  unfold part
  have h1 : ((L.take k).map strV).length = k := by simp; omega
  rw [List.set_append_right _ _ (by omega), h1, Nat.sub_self, show L.length - k = (L.length - (k + 1)) + 1 by omega, List.replicate_succ, List.set_cons_zero,
    List.take_succ_eq_append_getElem hk, List.map_append]
  simp

theorem made_strings (n : Nat) : (madeCells (Value.string ByteArray.empty).cells (n * 1)).toList = List.replicate n (.string ByteArray.empty) := by
  rw [Nat.mul_one]; exact toList_madeCells_one _ n

set_option maxHeartbeats 1000000 in
set_option maxRecDepth 100000 in
theorem toS_any (v : Value) (L : List (List UInt8)) (w : World) (h : Strs w v L) (hL : L.length ≤ 1048576) :
    Calls Tryz.prog 27 #[v] w fun e w' => ∃ v', e = .returned v' ∧ w'.ownsRow w.heap.size 9 1 v' L.length (L.map strV) ∧ Below w.heap.size w w' := by
  obtain ⟨i0, hi, hz0, hz1, hz2⟩ := info_parts Tryz.info9
  obtain ⟨a, cap, rfl, hcap, hmax, hc⟩ := h
  have HC : Hid (∀ k, (hk : k < L.length) → ∃ b o, a = some ⟨b, o, none⟩ ∧ b < w.heap.size ∧ w.cell? ⟨b, o + k, none⟩ = some (strV L[k])) := hc
  clear hc hmax
  have hib : i0.bytes * L.length ≤ 281474976710656 := by rw [hz2]; omega
  have hlm : L.length ≤ maxLen := by unfold maxLen; omega
  go_enter Tryz.func27, Tryz.ntmps27
  go_wp2_with (at_make; refine wpList_make_full _ rfl _ _ 22 rfl w.heap.size 9 i0 (.string ByteArray.empty) 1 Tryz.underlying22 hi hz0 hz1 .i64 .i64 _ _ L.length rfl rfl rfl rfl hib hlm (Nat.le_refl _) ?_; intro w1 hown hgrow; rw [made_strings, ← part_zero] at hown)
  have hB1 : Below w.heap.size w w1 := (Below.refl _ _).grown hgrow (Nat.le_refl _) (fun k e => by cases e)
  clear hgrow
  go_loopw [4] (fun i wr => ∃ k : Nat, k ≤ L.length ∧ i = .int .i64 k ∧ wr.ownsRow w.heap.size 9 1 (.slice (some ⟨w.heap.size, 0, none⟩) L.length L.length) L.length (part L k) ∧ Below w.heap.size w wr) (fun i _ => L.length - (intOf i).toNat)
  case atStart => exact ⟨0, Nat.zero_le _, rfl, hown, hB1⟩
  case round =>
    obtain ⟨k, hk, rfl, hown, hB⟩ := hrel
    by_cases hlt : k < L.length
    · obtain ⟨b, o, rfl, hb, hcell⟩ := HC.out k hlt
      have hcs : wr.cell? ⟨b, o + k, none⟩ = some (.string ⟨L[k].toArray⟩) := (hB.cell (p := ⟨b, o + k, none⟩) hb).trans hcell
      have hct : wr.cell? ⟨w.heap.size, k, none⟩ = (part L k)[k]? := hown.cellAt k (by omega)
      have hcu : ∃ u, wr.cell? ⟨w.heap.size, k, none⟩ = some u := by rw [hct]; exact ⟨_, List.getElem?_eq_getElem (by unfold part; simp; omega)⟩
      obtain ⟨u, hcu⟩ := hcu
      have hft : wr.frozen? ⟨w.heap.size, k, none⟩ = false := hown.frozenAt k
      have hst := hown.stored k (strV L[k])
      rw [part_set L k hlt] at hst
      have hB2 : Below w.heap.size w (wr.setCell ⟨w.heap.size, k, none⟩ (strV L[k])) := hB.setCell (p := ⟨w.heap.size, k, none⟩) (Nat.le_refl _) _
      clear hct hcell
      go_wp2
      go_roundw
      case rel => exact ⟨k + 1, by omega, by go_num, hst.1, hB2⟩
      case measure => simp [intOf]; omega
    · rw [part_all L k (by omega)] at hown
      go_wp2
      go_ret
      exact ⟨_, rfl, hown, hB⟩

theorem drewN_cell (w : World) (n : Nat) (a : Addr) : (w.drewN n).cell? a = w.cell? a := rfl

set_option maxHeartbeats 1000000 in
set_option maxRecDepth 100000 in
theorem eqS_any (v v' : Value) (L : List (List UInt8)) (w : World) (h : Strs w v L) (h' : Strs w v' L) (hL : L.length ≤ 1048576) :
    Calls Tryz.prog 17 #[v, v'] w fun e w' => e = .returned (.bool true) ∧ ∃ n, w' = w.drewN n := by
  obtain ⟨a, cap, rfl, hcap, hmax, hc⟩ := h
  obtain ⟨a', cap', rfl, hcap', hmax', hc'⟩ := h'
  have HC : Hid (∀ k, (hk : k < L.length) → ∃ b o, a = some ⟨b, o, none⟩ ∧ b < w.heap.size ∧ w.cell? ⟨b, o + k, none⟩ = some (strV L[k])) := hc
  have HC' : Hid (∀ k, (hk : k < L.length) → ∃ b o, a' = some ⟨b, o, none⟩ ∧ b < w.heap.size ∧ w.cell? ⟨b, o + k, none⟩ = some (strV L[k])) := hc'
  clear hc hmax hc' hmax'
  go_enter Tryz.func17, Tryz.ntmps17
  go_wp2
  go_loopw [5] (fun i wr => ∃ k : Nat, k ≤ L.length ∧ i = .int .i64 k ∧ ∃ n, wr = w.drewN n) (fun i _ => L.length - (intOf i).toNat)
  case atStart => exact ⟨0, Nat.zero_le _, rfl, 0, rfl⟩
  case round =>
    obtain ⟨k, hk, rfl, n, rfl⟩ := hrel
    by_cases hlt : k < L.length
    · obtain ⟨b, o, rfl, hb, hcell⟩ := HC.out k hlt
      obtain ⟨b', o', rfl, hb', hcell'⟩ := HC'.out k hlt
      have hc1 : w.cell? ⟨b, o + k, none⟩ = some (.string ⟨L[k].toArray⟩) := hcell
      have hc2 : w.cell? ⟨b', o' + k, none⟩ = some (.string ⟨L[k].toArray⟩) := hcell'
      clear hcell hcell'
      go_wp2
      go_quiet (fail)
      go_wp2
      go_roundw
      case rel => exact ⟨k + 1, by omega, by go_num, n + nq, by simp [World.drewN]⟩
      case measure => simp [intOf]; omega
    · go_wp2
      go_ret
      exact ⟨rfl, n, rfl⟩

/-- The decimal text of a number behind what has come. -/
def digs : Nat → Nat → List UInt8 → List UInt8
  | 0, _, acc => acc
  | f + 1, k, acc => if k = 0 then acc else digs f (k / 10) (UInt8.ofNat (48 + k % 10) :: acc)
theorem digs_zero (f : Nat) (acc : List UInt8) : digs f 0 acc = acc := by cases f <;> simp [digs]
theorem digs_stable : ∀ (f f' k : Nat) (acc : List UInt8), k ≤ f → k ≤ f' → digs f k acc = digs f' k acc := by
  intro f
  induction f with
  | zero => intro f' k acc h _; rw [show k = 0 by omega, digs_zero, digs_zero]
  | succ f ih =>
    intro f' k acc h h'
    by_cases hk : k = 0
    · rw [hk, digs_zero, digs_zero]
    · cases f' with
      | zero => omega
      | succ f' =>
        simp only [digs, hk, if_false]
        exact ih _ _ _ (by omega) (by omega)
theorem digs_step (k : Nat) (acc : List UInt8) (hk : 0 < k) : digs k k acc = digs (k / 10) (k / 10) (UInt8.ofNat (48 + k % 10) :: acc) := by
  cases k with
  | zero => omega
  | succ f =>
    simp only [digs, Nat.succ_ne_zero, if_false]
    exact digs_stable _ _ _ _ (by omega) (Nat.le_refl _)
/-- The mark of a place. -/
def mkT (k : Nat) : List UInt8 := 109 :: digs k k []

theorem digit_nat (k : Nat) : (UInt8.ofNat (48 + k % 10)).toNat = 48 + k % 10 := by
  rw [UInt8.toNat_ofNat']; omega

theorem digit_conv (k : Nat) (wr : World) : (convert 111 9 (.slice (some ⟨wr.heap.size, 0, none⟩) 1 1)).run Tryz.prog (wr.alloc (.cells #[.int .u8 (48 + (k : Int) % 10)] 5)) = .ok (.string ⟨#[UInt8.ofNat (48 + k % 10)]⟩) (wr.alloc (.cells #[.int .u8 (48 + (k : Int) % 10)] 5)) := by
  have h := run_convert_bytes_back (P := Tryz.prog) (wr.alloc (.cells #[.int .u8 (48 + (k : Int) % 10)] 5)) 111 9 5 ⟨wr.heap.size, 0, none⟩ 1 [UInt8.ofNat (48 + k % 10)] Tryz.underlying111 Tryz.underlying5 Tryz.underlying9 (fun j hj => by
    have hj0 : j = 0 := by simpa using hj
    subst hj0
    have e : ((UInt8.ofNat (48 + k % 10)).toNat : Int) = 48 + (k : Int) % 10 := by rw [digit_nat]; omega
    rw [List.getElem_singleton, e]
    simp [Addr.add])
  exact h

set_option maxHeartbeats 1000000 in
set_option maxRecDepth 100000 in
theorem markText_any (K : Nat) (w : World) (h0 : 0 < K) (hK : K ≤ 2097153) :
    Calls Tryz.prog 42 #[.int .i64 K] w fun e w' => e = .returned (strV (mkT K)) ∧ Below w.heap.size w w' := by
  obtain ⟨R, hR⟩ : ∃ R, R = mkT K := ⟨_, rfl⟩
  rw [← hR]
  have HR : Hid (R = 109 :: digs K K []) := hR
  clear hR
  go_enter Tryz.func42, Tryz.ntmps42
  go_wp2
  go_loopw [0, 3] (fun kv ov wr => ∃ (k : Nat) (b : ByteArray), k ≤ K ∧ kv = .int .i64 k ∧ ov = .string b ∧ Hid (digs k k b.data.toList = digs K K []) ∧ b.size ≤ K - k ∧ Below w.heap.size w wr) (fun kv _ _ => (intOf kv).toNat)
  case atStart => exact ⟨K, ⟨#[]⟩, Nat.le_refl _, rfl, rfl, rfl, by simp [ByteArray.size], Below.refl _ _⟩
  case round =>
    obtain ⟨k, b, hk, rfl, rfl, hd, hbs, hB⟩ := hrel
    have hsz := hB.size
    by_cases hpos : 0 < k
    · have hcv := digit_conv k wr
      have hb1 : (⟨#[UInt8.ofNat (48 + k % 10)]⟩ : ByteArray).size = 1 := rfl
      obtain ⟨dg, hdg⟩ : ∃ dg : ByteArray, dg = ⟨#[UInt8.ofNat (48 + k % 10)]⟩ := ⟨_, rfl⟩
      rw [← hdg] at hcv hb1
      have HD : Hid (digs (k / 10) (k / 10) (dg ++ b).data.toList = digs K K []) := by
        unfold Hid
        rw [← hd.out, digs_step k _ hpos, ByteArray.data_append, Array.toList_append, hdg]; rfl
      have hds : (dg ++ b).size ≤ K - k / 10 := by rw [ByteArray.size_append, hb1]; omega
      have hB2 : Below w.heap.size w (wr.alloc (.cells #[.int .u8 (48 + (k : Int) % 10)] 5)) := hB.alloc hsz _
      clear hdg
      go_wp2
      go_roundw
      case rel => exact ⟨k / 10, dg ++ b, by omega, by go_num, rfl, HD, hds, hB2⟩
      case measure => simp [intOf]; omega
    · have hk0 : k = 0 := by omega
      subst hk0
      have HE : Hid (strV R = .string (⟨#[109]⟩ ++ b)) := by
        unfold Hid
        rw [← strV_data, HR.out, ← hd.out, digs_zero, ByteArray.data_append, Array.toList_append]; rfl
      go_wp2
      go_ret
      rw [HE.out]
      exact ⟨rfl, hB⟩

end Go.Proofs.YtimgafblpmjajabGreat
namespace Go.Proofs.YtimgafblpmjajabGreat

open Go.RowKit

theorem walkP_succ (R ps : List (List UInt8)) (j : Nat) (hj : j < ps.length) (h : (Pl.walkP R (ps.take j)).2 = 0) :
    Pl.walkP R (ps.take (j + 1)) = if (Pl.stepW (Pl.walkP R (ps.take j)).1 ps[j]).2 = 0 then (Pl.stepW (Pl.walkP R (ps.take j)).1 ps[j]) else ([], (Pl.stepW (Pl.walkP R (ps.take j)).1 ps[j]).2) := by
  rw [List.take_succ_eq_append_getElem hj, Pl.walkP_append, if_pos h]
  simp only [Pl.walkP]
  split
  · rename_i h2; rw [← h2]
  · rfl

/-- Once it goes wrong it stays so. -/
theorem walkP_stop (R ps : List (List UInt8)) (j : Nat) (h : (Pl.walkP R (ps.take j)).2 ≠ 0) : Pl.walkP R ps = Pl.walkP R (ps.take j) := by
  conv => lhs; rw [← List.take_append_drop j ps]
  rw [Pl.walkP_append, if_neg h]

set_option maxHeartbeats 2000000 in
set_option maxRecDepth 100000 in
theorem l1walk_any (base : Nat) (v0 : Value) (R : List (List UInt8)) (s : ByteArray) (w : World) (hrow : w.ownsRow base 9 1 v0 R.length (R.map strV)) (hR : Pl.total R ≤ 1048576) (hs : s.size ≤ 1048576) :
    Calls Tryz.prog 98 #[v0, .string s] w fun e w' => ∃ v, e = .returned (.tuple #[v, .int .i64 (Pl.walkP R (Pl.split s.data.toList)).2]) ∧
      w'.ownsRow w.heap.size 9 1 v (Pl.walkP R (Pl.split s.data.toList)).1.length ((Pl.walkP R (Pl.split s.data.toList)).1.map strV) ∧ Below w.heap.size w w' := by
  obtain ⟨i0, hi, hz0, hz1, hz2⟩ := info_parts Tryz.info9
  obtain ⟨a, cap, rfl, hcap, hmax, hcell⟩ := row_shape hrow
  have hRl : R.length ≤ 1048576 := by unfold Pl.total at hR; omega
  have HC : Hid (∀ k, (hk : k < R.length) → ∃ g, a = some ⟨g, 0, none⟩ ∧ base ≤ g ∧ g < w.heap.size ∧ w.cell? ⟨g, k, none⟩ = some (strV R[k])) := hcell
  clear hcell hrow hmax
  obtain ⟨P, hP⟩ : ∃ P, P = Pl.split s.data.toList := ⟨_, rfl⟩
  have hPt : Pl.total P = s.data.toList.length + 1 := by rw [hP]; exact Pl.total_split _
  rw [show s.data.toList.length = s.size by simp] at hPt
  have hPn : P ≠ [] := by rw [hP]; exact Pl.splitTo_ne _ _
  rw [← hP]
  have HP : Hid (P = Pl.split s.data.toList) := hP
  clear hP
  have hPl : P.length ≤ 1048577 := by unfold Pl.total at hPt; omega
  have hPp : 0 < P.length := List.length_pos_iff.2 hPn
  have HW : Hid (∀ j, (Pl.walkP R (P.take j)).1.length ≤ 2097153) := by
    intro j
    have h1 := Pl.total_walkP R (P.take j)
    have h2 := total_take P j
    have h3 : (Pl.walkP R (P.take j)).1.length ≤ Pl.total (Pl.walkP R (P.take j)).1 := by unfold Pl.total; omega
    omega
  have HL : Hid (∀ j, (h : j < P.length) → P[j].length ≤ 1048577) := fun j h => by have := len_le_total P j h; omega
  clear hPt hPn
  go_enter Tryz.func98, Tryz.ntmps98
  go_wp2
  go_loopw [6, 14] (fun v i wr => ∃ k : Nat, k ≤ R.length ∧ i = .int .i64 k ∧ wr.ownsRow w.heap.size 9 1 v (R.take k).length ((R.take k).map strV) ∧ Below w.heap.size w wr) (fun _ i _ => R.length - (intOf i).toNat)
  case atStart => exact ⟨0, Nat.zero_le _, rfl, World.ownsRow_nil _ _ _ _, Below.refl _ _⟩
  case round =>
    obtain ⟨k, hk, rfl, hown, hB⟩ := hrel
    have hsz := hB.size
    by_cases hlt : k < R.length
    · obtain ⟨g, rfl, _, hg, hc⟩ := HC.out k hlt
      have hcr : wr.cell? ⟨g, k, none⟩ = some (.string ⟨R[k].toArray⟩) := (hB.cell (p := ⟨g, k, none⟩) hg).trans hc
      have hkl : (R.take k).length = k := by rw [List.length_take]; omega
      have hkb : (R.take k).length ≤ 1048576 := by omega
      clear hc hkl
      go_wp2_with (at_builtin; refine wpList_append_own _ rfl _ _ 22 rfl w.heap.size 9 i0 (.string ByteArray.empty) 1 16 Tryz.underlying22 hi hz0 hz1 hz2 rfl (by decide) _ _ _ rfl (hown.alloc _) ⟨wr.heap.size, 0, none⟩ 1 1 [.string ⟨R[k].toArray⟩] rfl rfl (cell_one_new _ _ _) (by simp [Value.oneCell']) (by unfold maxLen; omega) (by omega) (by simp; omega) ?_; intro v' w1 hown' hgrow _; have hb := below_append hB hsz hown hgrow; have ho := row_snoc (p := R[k]) rfl hown'; clear hown' hgrow hown)
      rw [← List.take_succ_eq_append_getElem hlt] at ho
      go_roundw
      case rel => exact ⟨k + 1, by omega, by go_num, ho, hb⟩
      case measure => simp [intOf]; omega
    · have hkR : R.take k = R := List.take_of_length_le (by omega)
      rw [hkR] at hown
      clear hkR
      go_wp2_with fail
      refine (l1parts_any s _ hs).mono ?_
      rintro e w2 ⟨vp, rfl, hpr, hpb⟩
      rw [← HP.out] at hpr
      have hown2 := own_below hown hpb (Nat.le_refl _)
      have hB2 : Below w.heap.size w w2 := hB.trans (hpb.mono hsz)
      have hap : Apart u6 vp := by
        cases hv : vp.ownBlock with
        | none => exact .inl hv
        | some g =>
          right; rw [hv]; intro e'
          have h1 := (hown.lt g e'.symm).2
          have h2 := (hpr.lt g hv).1
          omega
      obtain ⟨ap, capp, rfl, hcapp, _, hcellp⟩ := row_shape hpr
      obtain ⟨gp, rfl, hgp, _, _⟩ := hcellp 0 hPp
      clear hcellp hown hpb hB
      go_wp2
      go_loopw [6, 26] (fun v i wr' => ∃ j : Nat, j ≤ P.length ∧ i = .int .i64 j ∧ (Pl.walkP R (P.take j)).2 = 0 ∧ wr'.ownsRow w.heap.size 9 1 v (Pl.walkP R (P.take j)).1.length ((Pl.walkP R (P.take j)).1.map strV) ∧ wr'.ownsRow w.heap.size 9 1 (.slice (some ⟨gp, 0, none⟩) P.length capp) P.length (P.map strV) ∧ Apart v (.slice (some ⟨gp, 0, none⟩) P.length capp) ∧ Below w.heap.size w wr') (fun _ i _ => P.length - (intOf i).toNat)
      case atStart => exact ⟨0, Nat.zero_le _, rfl, rfl, hown2, own_mono hpr hsz, hap, hB2⟩
      case round =>
        obtain ⟨j, hj, rfl, hz, hown, hprj, hapj, hB⟩ := hrel
        have hsz' := hB.size
        have hbl := HW.out j
        by_cases hlt : j < P.length
        · have HS := walkP_succ R P j hlt hz
          have hql := HL.out j hlt
          obtain ⟨D, hD⟩ : ∃ D, D = (Pl.walkP R (P.take j)).1 := ⟨_, rfl⟩
          rw [← hD] at hown hbl HS
          obtain ⟨p, hp⟩ : ∃ p, p = P[j] := ⟨_, rfl⟩
          rw [← hp] at HS hql
          have HS' : Hid (Pl.walkP R (P.take (j + 1)) = if (Pl.stepW D p).2 = 0 then Pl.stepW D p else ([], (Pl.stepW D p).2)) := HS
          obtain ⟨q, hq⟩ : ∃ q : ByteArray, q.data.toList = p := ⟨⟨p.toArray⟩, by simp⟩
          have hcq : wr.cell? ⟨gp, j, none⟩ = some (.string q) := by
            rw [hprj.cellAt j (by omega)]; simp [hlt, ← hp, ← hq, strV_data]
          have hqs : q.size ≤ 1048577 := by rw [size_data, hq]; exact hql
          have hql' : q.toList = p := by rw [Go.ByteArray.toList_eq, hq]
          clear HS hD hz hp hql
          obtain ⟨a6, cap6, rfl, hcap6, _, _⟩ := row_shape hown
          by_cases c1 : p = [46]
          · have t1 : (q.toList == [46]) = true := by rw [hql', c1]; rfl
            have HF : Hid (Pl.walkP R (P.take (j + 1)) = (D, 0)) := by unfold Hid; rw [HS'.out]; simp [Pl.stepW, c1]
            clear hql' hq c1
            go_wp2
            go_roundw
            case rel => exact ⟨j + 1, by omega, by go_num, by rw [HF.out], by rw [HF.out]; exact hown, hprj, hapj, hB⟩
            case measure => simp [intOf]; omega
          · have t1 : (q.toList == [46]) = false := by rw [hql']; simpa using c1
            by_cases c2 : p = [46, 46]
            · have t2 : (q.toList == [46, 46]) = true := by rw [hql', c2]; rfl
              by_cases c3 : D = []
              · have t3 : ((D.length : Int) == 0) = true := by rw [c3]; rfl
                have HF : Hid (Pl.walkP R P = ([], 2)) := by
                  have h2 : Pl.walkP R (P.take (j + 1)) = ([], 2) := by rw [HS'.out]; simp [Pl.stepW, c2, c3]
                  unfold Hid; rw [walkP_stop R P (j + 1) (by rw [h2]; decide), h2]
                clear hql' hq c1 c2 c3
                go_wp2
                go_ret2
                exact ⟨_, by rw [HF.out]; rfl, by rw [HF.out]; exact World.ownsRow_nil _ _ _ _, hB⟩
              · have hDp : 0 < D.length := List.length_pos_iff.2 c3
                have t3 : ((D.length : Int) == 0) = false := by rw [beq_eq_false_iff_ne]; omega
                have HF : Hid (Pl.walkP R (P.take (j + 1)) = (D.dropLast, 0)) := by unfold Hid; rw [HS'.out]; simp [Pl.stepW, c2, c3]
                obtain ⟨g6, cap6', hv6, _, hpop⟩ := pop_row c3 hown
                cases hv6
                clear hql' hq c1 c2 c3
                go_wp2
                go_roundw
                case rel => exact ⟨j + 1, by omega, by go_num, by rw [HF.out], by rw [HF.out]; exact hpop, hprj, hapj, hB⟩
                case measure => simp [intOf]; omega
            · have t2 : (q.toList == [46, 46]) = false := by rw [hql']; simpa using c2
              by_cases c3 : p = []
              · have t3 : q.toList.isEmpty = true := by rw [hql', c3]; rfl
                have HF : Hid (Pl.walkP R P = ([], 1)) := by
                  have h2 : Pl.walkP R (P.take (j + 1)) = ([], 1) := by rw [HS'.out]; simp [Pl.stepW, c3, Pl.plainP]
                  unfold Hid; rw [walkP_stop R P (j + 1) (by rw [h2]; decide), h2]
                clear hql' hq c1 c2 c3
                go_wp2
                go_ret2
                exact ⟨_, by rw [HF.out]; rfl, by rw [HF.out]; exact World.ownsRow_nil _ _ _ _, hB⟩
              · have t3 : q.toList.isEmpty = false := by rw [hql']; simpa using c3
                have HG : Hid (p.all Pl.okB = true → Pl.walkP R (P.take (j + 1)) = (D ++ [p], 0)) := fun h => by
                  rw [HS'.out]; simp [Pl.stepW, c1, c2, Pl.plainP, c3, h]
                have HN : Hid (p.all Pl.okB = false → Pl.walkP R P = ([], 1)) := fun h => by
                  have h2 : Pl.walkP R (P.take (j + 1)) = ([], 1) := by rw [HS'.out]; simp [Pl.stepW, c1, c2, Pl.plainP, h]
                  rw [walkP_stop R P (j + 1) (by rw [h2]; decide), h2]
                have HQ : Hid (q.data.toList = p) := hq
                clear hql' hq c1 c2 c3 HS'
                go_wp2
                go_loop [11] (fun i => ∃ k : Nat, k ≤ q.size ∧ i = .int .i64 k ∧ (q.data.toList.take k).all Pl.okB = true) (fun i => q.size - (intOf i).toNat)
                case atStart => exact ⟨0, Nat.zero_le _, rfl, rfl⟩
                case round =>
                  obtain ⟨k, hk, rfl, hall⟩ := hrel
                  by_cases hkq : k < q.size
                  · cases hok : Pl.okB q[k] with
                    | true =>
                      have HA : Hid ((q.data.toList.take (k + 1)).all Pl.okB = true) := by unfold Hid; rw [take_snoc q k hkq, List.all_append, hall]; simp [hok]
                      clear hall
                      go_wp2_with (go_at_call 107; refine (l1byte_any _ _).mono ?_; rintro e w' ⟨rfl, rfl⟩)
                      go_round
                      case rel => exact ⟨k + 1, by omega, by go_num, HA.out⟩
                      case measure => simp [intOf]; omega
                    | false =>
                      have HF : Hid (Pl.walkP R P = ([], 1)) := HN.out (by
                        rw [← HQ.out, List.all_eq_false]
                        exact ⟨q[k], by show q.data[k] ∈ q.data.toList; simp, by simp [hok]⟩)
                      clear hall
                      go_wp2_with (go_at_call 107; refine (l1byte_any _ _).mono ?_; rintro e w' ⟨rfl, rfl⟩)
                      go_ret2
                      exact ⟨_, by rw [HF.out]; rfl, by rw [HF.out]; exact World.ownsRow_nil _ _ _ _, hB⟩
                  · have HF : Hid (Pl.walkP R (P.take (j + 1)) = (D ++ [p], 0)) := HG.out (by
                      rw [List.take_of_length_le (by rw [← size_data]; omega)] at hall
                      rw [← HQ.out]; exact hall)
                    clear hall
                    go_wp2_with (at_builtin; refine wpList_app1 _ rfl _ _ 22 rfl w.heap.size 9 i0 (.string ByteArray.empty) 16 Tryz.underlying22 hi hz0 hz1 hz2 rfl _ _ _ rfl (hown.alloc _) ⟨wr.heap.size, 0, none⟩ 1 (.string q) rfl (cell_one_new _ _ _) (by simp [Value.oneCell']) (by unfold maxLen; omega) (by omega) (by simp; omega) ?_; intro v' w1 hown' hgrow hsep; have hb := below_append hB hsz' hown hgrow; have hap' := hapj.app (hprj.alloc _) hsep; have hpr' := (hprj.alloc _).kept hgrow hapj; have ho := row_snoc (p := p) (by rw [← HQ.out, strV_data]) hown'; clear hown' hgrow hown hsep)
                    go_roundw
                    case rel => exact ⟨j + 1, by omega, by go_num, by rw [HF.out], by rw [HF.out]; exact ho, hpr', hap', hb⟩
                    case measure => simp [intOf]; omega
        · have hjP : P.take j = P := List.take_of_length_le (by omega)
          rw [hjP] at hown hz
          have HZ : Hid ((Pl.walkP R P).2 = 0) := hz
          clear hz hjP
          go_wp2
          go_ret2
          exact ⟨_, by rw [HZ.out]; rfl, hown, hB⟩

end Go.Proofs.YtimgafblpmjajabGreat
namespace Go.Proofs.YtimgafblpmjajabGreat

open Go.RowKit

theorem bcell {W w1 : World} (hb : Below W.heap.size W w1) : (∀ b o, b < W.heap.size → w1.cell? ⟨b, o, none⟩ = W.cell? ⟨b, o, none⟩) ∧ (∀ b o, b < W.heap.size → w1.frozen? ⟨b, o, none⟩ = W.frozen? ⟨b, o, none⟩) :=
  ⟨fun b o h => hb.cell (p := ⟨b, o, none⟩) h, fun b o h => hb.frozen (p := ⟨b, o, none⟩) h⟩

theorem below_one {w w1 : World} {o : Obj} (hb : Below (w.alloc o).heap.size (w.alloc o) w1) : Below w.heap.size w w1 :=
  ((Below.refl _ _).alloc (Nat.le_refl _) _).trans (hb.mono (by simp))
theorem below_set2 {w w1 : World} {o : Obj} (hb : Below (w.alloc o).heap.size (w.alloc o) w1) (u0 u1 : Value) : Below w.heap.size w ((w1.setCell ⟨w.heap.size, 0, none⟩ u0).setCell ⟨w.heap.size, 1, none⟩ u1) :=
  ((below_one hb).setCell (p := ⟨w.heap.size, 0, none⟩) (Nat.le_refl _) _).setCell (p := ⟨w.heap.size, 1, none⟩) (Nat.le_refl _) _

/-- A name's answer as a value. -/
def namedV (r : Int × List UInt8) : Value := .agg #[.int .i64 r.1, strV r.2]

set_option maxHeartbeats 1000000 in
set_option maxRecDepth 100000 in
theorem l1named_any (base : Nat) (v0 : Value) (R : List (List UInt8)) (s : ByteArray) (w : World) (hrow : w.ownsRow base 9 1 v0 R.length (R.map strV)) (hR : Pl.total R ≤ 1048576) (hs : s.size ≤ 1048576) :
    Calls Tryz.prog 84 #[v0, .string s] w fun e w' => e = .returned (namedV (Pl.nm R s.data.toList)) ∧ Below w.heap.size w w' := by
  by_cases h60 : 60 < s.size
  · have hn : Pl.nm R s.data.toList = (3, []) := by unfold Pl.nm; rw [if_pos (by rw [← size_data]; exact h60)]
    rw [hn]
    clear hn hrow
    go_enter Tryz.func84, Tryz.ntmps84
    go_wp2
    exact bodyPost_ret (v := namedV (3, [])) (by simp [results, Tryz.results84, go_sem, namedV, strV]) rfl ⟨rfl, (Below.refl _ _).alloc (Nat.le_refl _) _⟩
  · have hn : Pl.nm R s.data.toList = Pl.fin (Pl.walkP R (Pl.split s.data.toList)) := by unfold Pl.nm; rw [if_neg (by rw [← size_data]; exact h60)]
    have ht := Pl.total_walkP R (Pl.split s.data.toList)
    have hts := Pl.total_split s.data.toList
    rw [← size_data] at hts
    obtain ⟨r, hr⟩ : ∃ r, r = Pl.walkP R (Pl.split s.data.toList) := ⟨_, rfl⟩
    rw [hn, ← hr]
    rw [← hr] at ht
    have hrt : Pl.total r.1 ≤ 4194304 := by omega
    have HR : Hid (r = Pl.walkP R (Pl.split s.data.toList)) := hr
    have hrow1 := hrow.alloc (.cells #[.int .i64 0, .string ⟨#[]⟩] 118)
    clear hn ht hr hrow hts
    by_cases hr0 : r.2 = 0
    · obtain ⟨t, ht⟩ : ∃ t : ByteArray, t.data.toList = Pl.joinS r.1 := ⟨⟨(Pl.joinS r.1).toArray⟩, by simp⟩
      have HT : Hid (strV (Pl.joinS r.1) = .string t) := by unfold Hid; rw [← ht, strV_data]
      have hts : t.size ≤ 4194304 := by rw [size_data, ht]; have := joinS_len r.1; omega
      have hb0 : (r.2 == 0) = true := by simpa using hr0
      by_cases hj : Pl.joinS r.1 = []
      · have hfin : Pl.fin r = (1, []) := by unfold Pl.fin; rw [if_pos hr0, if_pos hj]
        have hte : t.toList.isEmpty = true := by rw [Go.ByteArray.toList_eq, ht, hj]; rfl
        rw [hfin]
        clear hfin ht hj
        go_enter Tryz.func84, Tryz.ntmps84
        go_wp2_with fail
        refine (l1walk_any base v0 R s _ hrow1 hR hs).mono ?_
        rw [← HR.out]
        rintro e w1 ⟨v, rfl, hown, hb⟩
        obtain ⟨hc, hf⟩ := bcell hb
        have hz : w.heap.size + 1 ≤ w1.heap.size := by have := hb.size; simp at this; omega
        go_wp2_with (go_at_call 99; refine (l1joined_any _ v r.1 _ hown hrt).mono ?_; rw [HT.out]; rintro e w' ⟨rfl, rfl⟩)
        exact bodyPost_ret (v := namedV (1, [])) (by simp [results, Tryz.results84, go_sem, namedV, strV, hc]) rfl ⟨rfl, below_set2 hb _ _⟩
      · have hte : t.toList.isEmpty = false := by rw [Go.ByteArray.toList_eq, ht]; simpa using hj
        by_cases hl' : 60 < (Pl.joinS r.1).length
        · have hfin : Pl.fin r = (3, []) := by unfold Pl.fin; rw [if_pos hr0, if_neg hj, if_pos hl']
          have htl : 60 < t.size := by rw [size_data, ht]; exact hl'
          rw [hfin]
          clear hfin ht hj hl'
          go_enter Tryz.func84, Tryz.ntmps84
          go_wp2_with fail
          refine (l1walk_any base v0 R s _ hrow1 hR hs).mono ?_
          rw [← HR.out]
          rintro e w1 ⟨v, rfl, hown, hb⟩
          obtain ⟨hc, hf⟩ := bcell hb
          have hz : w.heap.size + 1 ≤ w1.heap.size := by have := hb.size; simp at this; omega
          go_wp2_with (go_at_call 99; refine (l1joined_any _ v r.1 _ hown hrt).mono ?_; rw [HT.out]; rintro e w' ⟨rfl, rfl⟩)
          exact bodyPost_ret (v := namedV (3, [])) (by simp [results, Tryz.results84, go_sem, namedV, strV, hc]) rfl ⟨rfl, below_set2 hb _ _⟩
        · have hfin : Pl.fin r = (0, Pl.joinS r.1) := by unfold Pl.fin; rw [if_pos hr0, if_neg hj, if_neg hl']
          have htl : ¬ 60 < t.size := by rw [size_data, ht]; exact hl'
          rw [hfin]
          clear hfin ht hj hl'
          go_enter Tryz.func84, Tryz.ntmps84
          go_wp2_with fail
          refine (l1walk_any base v0 R s _ hrow1 hR hs).mono ?_
          rw [← HR.out]
          rintro e w1 ⟨v, rfl, hown, hb⟩
          obtain ⟨hc, hf⟩ := bcell hb
          have hz : w.heap.size + 1 ≤ w1.heap.size := by have := hb.size; simp at this; omega
          go_wp2_with (go_at_call 99; refine (l1joined_any _ v r.1 _ hown hrt).mono ?_; rw [HT.out]; rintro e w' ⟨rfl, rfl⟩)
          exact bodyPost_ret (v := namedV (0, Pl.joinS r.1)) (by simp [results, Tryz.results84, go_sem, namedV, HT.out, hc]) rfl ⟨rfl, below_set2 hb _ _⟩
    · have hfin : Pl.fin r = (r.2, []) := by unfold Pl.fin; rw [if_neg hr0]
      have hb0 : (r.2 == 0) = false := by simpa using hr0
      rw [hfin]
      clear hfin
      go_enter Tryz.func84, Tryz.ntmps84
      go_wp2_with fail
      refine (l1walk_any base v0 R s _ hrow1 hR hs).mono ?_
      rw [← HR.out]
      rintro e w1 ⟨v, rfl, hown, hb⟩
      obtain ⟨hc, hf⟩ := bcell hb
      have hz : w.heap.size + 1 ≤ w1.heap.size := by have := hb.size; simp at this; omega
      go_wp2
      exact bodyPost_ret (v := namedV (r.2, [])) (by simp [results, Tryz.results84, go_sem, namedV, strV, hc]) rfl ⟨rfl, below_set2 hb _ _⟩

set_option maxHeartbeats 1000000 in
set_option maxRecDepth 100000 in
theorem specClean_any (s : ByteArray) (w : World) (hs : s.size ≤ 1048576) :
    Calls Tryz.prog 62 #[.string s] w fun e w' => e = .returned (namedV (Pl.nm [] s.data.toList)) ∧ Below w.heap.size w w' := by
  obtain ⟨c, x, hn⟩ : ∃ c x, Pl.nm [] s.data.toList = (c, x) := ⟨_, _, rfl⟩
  have HN : Hid (Pl.nm [] s.data.toList = (c, x)) := hn
  rw [hn]
  clear hn
  go_enter Tryz.func62, Tryz.ntmps62
  go_wp2_with fail
  refine (l1named_any 0 (.slice none 0 0) [] s _ (World.ownsRow_nil _ _ _ _) (by decide) hs).mono ?_
  rw [HN.out]
  rintro e w1 ⟨rfl, hb⟩
  obtain ⟨hc, hf⟩ := bcell hb
  unfold namedV strV
  go_wp2
  exact bodyPost_ret (v := namedV (c, x)) (by simp [results, Tryz.results62, go_sem, namedV, strV, hc]) rfl ⟨rfl, below_set2 hb _ _⟩

end Go.Proofs.YtimgafblpmjajabGreat
namespace Go.Proofs.YtimgafblpmjajabGreat

open Go.RowKit

/-- A line, a module, a world, as plain data. -/
structure Ln where
  op : Int
  name : List UInt8
  num : Int
  skip : Int
structure Md where
  name : List UInt8
  lines : List Ln
structure Wd where
  roots : List (List UInt8)
  mods : List Md
  faults : List Int

def i64V (x : Int) : Value := .int .i64 x

/-- A slice of numbers that can be read. -/
def Nums (w : World) (v : Value) (L : List Int) : Prop :=
  ∃ a cap, v = .slice a L.length cap ∧ L.length ≤ cap ∧ cap ≤ maxLen ∧ ∀ k, (hk : k < L.length) → ∃ b o, a = some ⟨b, o, none⟩ ∧ b < w.heap.size ∧ w.cell? ⟨b, o + k, none⟩ = some (.int .i64 L[k])

/-- A slice of lines that can be read. -/
def Lns (w : World) (v : Value) (L : List Ln) : Prop :=
  ∃ a cap, v = .slice a L.length cap ∧ L.length ≤ cap ∧ cap ≤ maxLen ∧ ∀ k, (hk : k < L.length) → ∃ b o, a = some ⟨b, o, none⟩ ∧ b < w.heap.size ∧
    w.cell? ⟨b, o + k * 4, none⟩ = some (.int .i64 L[k].op) ∧ w.cell? ⟨b, o + k * 4 + 1, none⟩ = some (strV L[k].name) ∧ w.cell? ⟨b, o + k * 4 + 2, none⟩ = some (.int .i64 L[k].num) ∧ w.cell? ⟨b, o + k * 4 + 3, none⟩ = some (.int .i64 L[k].skip)

/-- A slice of modules that can be read. -/
def Mds (w : World) (v : Value) (M : List Md) : Prop :=
  ∃ a cap, v = .slice a M.length cap ∧ M.length ≤ cap ∧ cap ≤ maxLen ∧ ∀ k, (hk : k < M.length) → ∃ b o s, a = some ⟨b, o, none⟩ ∧ b < w.heap.size ∧
    w.cell? ⟨b, o + k * 2, none⟩ = some (strV M[k].name) ∧ w.cell? ⟨b, o + k * 2 + 1, none⟩ = some s ∧ Lns w s M[k].lines

/-- A world that can be read. -/
def Wds (w : World) (v : Value) (D : Wd) : Prop :=
  ∃ r m f, v = .agg #[r, m, f] ∧ Strs w r D.roots ∧ Mds w m D.mods ∧ Nums w f D.faults

theorem Nums.below {w w' : World} {B : Nat} {v : Value} {L : List Int} (h : Nums w v L) (hb : Below B w w') (hB : w.heap.size ≤ B) : Nums w' v L := by
  obtain ⟨a, cap, hv, hcap, hmax, hc⟩ := h
  exact ⟨a, cap, hv, hcap, hmax, fun k hk => by
    obtain ⟨b, o, ha, hlt, hcell⟩ := hc k hk
    exact ⟨b, o, ha, Nat.lt_of_lt_of_le hlt hb.size, (hb.cell (p := ⟨b, o + k, none⟩) (Nat.lt_of_lt_of_le hlt hB)).trans hcell⟩⟩
theorem Lns.below {w w' : World} {B : Nat} {v : Value} {L : List Ln} (h : Lns w v L) (hb : Below B w w') (hB : w.heap.size ≤ B) : Lns w' v L := by
  obtain ⟨a, cap, hv, hcap, hmax, hc⟩ := h
  exact ⟨a, cap, hv, hcap, hmax, fun k hk => by
    obtain ⟨b, o, ha, hlt, h0, h1, h2, h3⟩ := hc k hk
    have hl := Nat.lt_of_lt_of_le hlt hB
    exact ⟨b, o, ha, Nat.lt_of_lt_of_le hlt hb.size, (hb.cell (p := ⟨b, o + k * 4, none⟩) hl).trans h0, (hb.cell (p := ⟨b, o + k * 4 + 1, none⟩) hl).trans h1, (hb.cell (p := ⟨b, o + k * 4 + 2, none⟩) hl).trans h2, (hb.cell (p := ⟨b, o + k * 4 + 3, none⟩) hl).trans h3⟩⟩
theorem Mds.below {w w' : World} {B : Nat} {v : Value} {L : List Md} (h : Mds w v L) (hb : Below B w w') (hB : w.heap.size ≤ B) : Mds w' v L := by
  obtain ⟨a, cap, hv, hcap, hmax, hc⟩ := h
  exact ⟨a, cap, hv, hcap, hmax, fun k hk => by
    obtain ⟨b, o, s, ha, hlt, h0, h1, h2⟩ := hc k hk
    have hl := Nat.lt_of_lt_of_le hlt hB
    exact ⟨b, o, s, ha, Nat.lt_of_lt_of_le hlt hb.size, (hb.cell (p := ⟨b, o + k * 2, none⟩) hl).trans h0, (hb.cell (p := ⟨b, o + k * 2 + 1, none⟩) hl).trans h1, h2.below hb hB⟩⟩
theorem Wds.below {w w' : World} {B : Nat} {v : Value} {D : Wd} (h : Wds w v D) (hb : Below B w w') (hB : w.heap.size ≤ B) : Wds w' v D := by
  obtain ⟨r, m, f, hv, h1, h2, h3⟩ := h
  exact ⟨r, m, f, hv, h1.below hb hB, h2.below hb hB, h3.below hb hB⟩

/-- How much a thing takes. -/
def Ln.t (l : Ln) : Nat := l.name.length
def lnsT (L : List Ln) : Nat := L.length + (L.map Ln.t).sum
def Md.t (m : Md) : Nat := m.name.length + lnsT m.lines
def mdsT (M : List Md) : Nat := M.length + (M.map Md.t).sum
def Wd.t (D : Wd) : Nat := Pl.total D.roots + mdsT D.mods + D.faults.length
def Ln.ok (l : Ln) : Prop := l.name.length ≤ maxLen
def Md.ok (m : Md) : Prop := m.name.length ≤ maxLen ∧ ∀ l ∈ m.lines, l.ok
def Wd.ok (D : Wd) : Prop := (∀ l ∈ D.roots, l.length ≤ maxLen) ∧ ∀ m ∈ D.mods, m.ok
/-- What is left. -/
def leftOf (t left : Nat) : Int := if t ≤ left then (left : Int) - t else -1

/-- A line as a value. -/
def lnV (l : Ln) : Value := .agg #[.int .i64 l.op, strV l.name, .int .i64 l.num, .int .i64 l.skip]

set_option maxHeartbeats 1000000 in
set_option maxRecDepth 100000 in
theorem szLine_any (l : Ln) (left : Nat) (w : World) (hl : l.ok) (hleft : left ≤ 1048576) :
    Calls Tryz.prog 83 #[lnV l, .int .i64 left] w fun e w' => e = .returned (.int .i64 (leftOf l.t left)) ∧ Below w.heap.size w w' := by
  obtain ⟨s, hs⟩ : ∃ s : ByteArray, s = ⟨l.name.toArray⟩ := ⟨_, rfl⟩
  have hsz : s.size = l.name.length := by rw [hs]; simp [ByteArray.size]
  have hlv : lnV l = .agg #[.int .i64 l.op, .string s, .int .i64 l.num, .int .i64 l.skip] := by rw [hs]; rfl
  unfold Ln.ok maxLen at hl
  rw [hlv]
  obtain ⟨r, hr⟩ : ∃ r, r = leftOf l.t left := ⟨_, rfl⟩
  rw [← hr]
  rw [leftOf, Ln.t, ← hsz] at hr
  rw [← hsz] at hl
  clear hlv hs hsz
  by_cases hle : s.size ≤ left
  · rw [if_pos hle] at hr
    have HR : Hid (r = left - s.size) := hr
    clear hr
    go_enter Tryz.func83, Tryz.ntmps83
    go_wp2
    go_ret
    exact ⟨ret_int HR.out.symm, (Below.refl _ _).alloc (Nat.le_refl _) _⟩
  · rw [if_neg hle] at hr
    subst hr
    go_enter Tryz.func83, Tryz.ntmps83
    go_wp2
    go_ret
    exact ⟨rfl, (Below.refl _ _).alloc (Nat.le_refl _) _⟩

theorem sum_take1 (L : List Nat) (k : Nat) (hk : k < L.length) : (L.take (k + 1)).sum = (L.take k).sum + L[k] := by
  rw [List.take_succ_eq_append_getElem hk, List.sum_append]; simp
theorem sum_take_le (L : List Nat) (k : Nat) : (L.take k).sum ≤ L.sum := by
  conv => rhs; rw [← List.take_append_drop k L, List.sum_append]
  omega

/-- A loop that takes away: what it leaves after k rounds. -/
theorem leftOf_step {t left : Nat} (h : t ≤ left) : leftOf t left = ((left - t : Nat) : Int) := by
  unfold leftOf; rw [if_pos h]; omega

set_option maxHeartbeats 1000000 in
set_option maxRecDepth 100000 in
theorem szLineS_any (v : Value) (L : List Ln) (left : Nat) (w : World) (h : Lns w v L) (hL : ∀ l ∈ L, l.ok) (hleft : left ≤ 1048576) :
    Calls Tryz.prog 61 #[v, .int .i64 left] w fun e w' => e = .returned (.int .i64 (leftOf (lnsT L) left)) ∧ Below w.heap.size w w' := by
  obtain ⟨a, cap, rfl, hcap, hmax, hc⟩ := h
  unfold maxLen at hmax
  have hlm : L.length ≤ 9223372036854775807 := by omega
  have HC : Hid (∀ k, (hk : k < L.length) → ∃ b o, a = some ⟨b, o, none⟩ ∧ b < w.heap.size ∧
    w.cell? ⟨b, o + k * 4, none⟩ = some (.int .i64 L[k].op) ∧ w.cell? ⟨b, o + k * 4 + 1, none⟩ = some (strV L[k].name) ∧ w.cell? ⟨b, o + k * 4 + 2, none⟩ = some (.int .i64 L[k].num) ∧ w.cell? ⟨b, o + k * 4 + 3, none⟩ = some (.int .i64 L[k].skip)) := hc
  have HL : Hid (∀ l ∈ L, l.ok) := hL
  clear hc hL hmax hcap
  obtain ⟨r, hr⟩ : ∃ r, r = leftOf (lnsT L) left := ⟨_, rfl⟩
  rw [← hr]
  have HR : Hid (r = leftOf (lnsT L) left) := hr
  clear hr
  by_cases hlen : left < L.length
  · have hr : r = -1 := by rw [HR.out, leftOf, if_neg (by unfold lnsT; omega)]
    rw [hr]
    clear hr HR HC HL
    go_enter Tryz.func61, Tryz.ntmps61
    go_wp2
    go_ret
    exact ⟨rfl, Below.refl _ _⟩
  · go_enter Tryz.func61, Tryz.ntmps61
    go_wp2
    go_loopw [1, 5] (fun l i wr => ∃ k q : Nat, k ≤ L.length ∧ i = .int .i64 k ∧ l = .int .i64 q ∧ q + L.length + ((L.map Ln.t).take k).sum = left ∧ Below w.heap.size w wr) (fun _ i _ => L.length - (intOf i).toNat)
    case atStart => exact ⟨0, left - L.length, Nat.zero_le _, rfl, by congr 1; omega, by simp; omega, Below.refl _ _⟩
    case round =>
      obtain ⟨k, q, hk, rfl, rfl, hq, hB⟩ := hrel
      by_cases hlt : k < L.length
      · obtain ⟨b, o, rfl, hb, h0, h1, h2, h3⟩ := HC.out k hlt
        have c0 : wr.cell? ⟨b, o + k * 4, none⟩ = some (.int .i64 L[k].op) := (hB.cell (p := ⟨b, o + k * 4, none⟩) hb).trans h0
        have c1 : wr.cell? ⟨b, o + k * 4 + 1, none⟩ = some (strV L[k].name) := (hB.cell (p := ⟨b, o + k * 4 + 1, none⟩) hb).trans h1
        have c2 : wr.cell? ⟨b, o + k * 4 + 2, none⟩ = some (.int .i64 L[k].num) := (hB.cell (p := ⟨b, o + k * 4 + 2, none⟩) hb).trans h2
        have c3 : wr.cell? ⟨b, o + k * 4 + 3, none⟩ = some (.int .i64 L[k].skip) := (hB.cell (p := ⟨b, o + k * 4 + 3, none⟩) hb).trans h3
        clear h0 h1 h2 h3
        have hok := HL.out _ (List.getElem_mem hlt)
        have hs1 := sum_take1 (L.map Ln.t) k (by rw [List.length_map]; exact hlt)
        rw [List.getElem_map] at hs1
        have hs2 := sum_take_le (L.map Ln.t) (k + 1)
        go_wp2_with fail
        refine (szLine_any L[k] q wr hok (by omega)).mono ?_
        by_cases hneg : L[k].t ≤ q
        · have hq2 : (q - L[k].t) + L.length + ((L.map Ln.t).take (k + 1)).sum = left := by omega
          have HQ : Hid ((q - L[k].t) + L.length + ((L.map Ln.t).take (k + 1)).sum = left) := hq2
          rw [leftOf_step hneg]
          obtain ⟨q', hq'⟩ : ∃ q' : Nat, q' = q - L[k].t := ⟨_, rfl⟩
          rw [← hq']
          rw [← hq'] at HQ
          have hqb : q' ≤ 1048576 := by omega
          clear hq2 hs1 hs2 hq hq'
          rintro e w1 ⟨rfl, hb1⟩
          go_wp2
          go_roundw
          case rel => exact ⟨k + 1, q', by omega, by go_num, by go_num, HQ.out, hB.trans (hb1.mono hB.size)⟩
          case measure => simp [intOf]; omega
        · have hrn : r = -1 := by rw [HR.out, leftOf, if_neg (by unfold lnsT; omega)]
          have HRN : Hid (r = -1) := hrn
          have hl1 : leftOf L[k].t q = -1 := by rw [leftOf, if_neg hneg]
          rw [hl1]
          clear hrn hl1 hs1 hs2 hq
          rintro e w1 ⟨rfl, hb1⟩
          go_wp2
          go_ret
          exact ⟨ret_int HRN.out.symm, hB.trans (hb1.mono hB.size)⟩
      · have hre : (q : Int) = r := by
          rw [List.take_of_length_le (by rw [List.length_map]; omega)] at hq
          rw [HR.out, leftOf, if_pos (by unfold lnsT; omega)]; unfold lnsT; omega
        have HRE : Hid ((q : Int) = r) := hre
        clear hre hq
        go_wp2
        go_ret
        exact ⟨ret_int HRE.out, hB⟩

/-- A module as a value. -/
def mdV (n : List UInt8) (s : Value) : Value := .agg #[strV n, s]

set_option maxHeartbeats 1000000 in
set_option maxRecDepth 100000 in
theorem szModule_any (m : Md) (s : Value) (left : Nat) (w : World) (h : Lns w s m.lines) (hm : m.ok) (hleft : left ≤ 1048576) :
    Calls Tryz.prog 45 #[mdV m.name s, .int .i64 left] w fun e w' => e = .returned (.int .i64 (leftOf m.t left)) ∧ Below w.heap.size w w' := by
  obtain ⟨n, hn⟩ : ∃ n : ByteArray, n = ⟨m.name.toArray⟩ := ⟨_, rfl⟩
  have hsz : n.size = m.name.length := by rw [hn]; simp [ByteArray.size]
  have hlv : mdV m.name s = .agg #[.string n, s] := by rw [hn]; rfl
  have hnl := hm.1
  unfold maxLen at hnl
  rw [hlv]
  obtain ⟨r, hr⟩ : ∃ r, r = leftOf m.t left := ⟨_, rfl⟩
  rw [← hr]
  rw [Md.t, ← hsz] at hr
  rw [← hsz] at hnl
  clear hlv hn hsz
  have HR : Hid (r = leftOf (n.size + lnsT m.lines) left) := hr
  have h1 : Lns (w.alloc (.cells #[.string n, s] 86)) s m.lines := h.below ((Below.refl _ _).alloc (Nat.le_refl _) _) (Nat.le_refl _)
  have h0 : ∃ a cap, s = .slice a m.lines.length cap := by obtain ⟨a, cap, rfl, _⟩ := h; exact ⟨a, cap, rfl⟩
  obtain ⟨a, cap, rfl⟩ := h0
  clear hr h
  by_cases hle : n.size ≤ left
  · go_enter Tryz.func45, Tryz.ntmps45
    go_wp2_with fail
    have e1 : ((left : Int) - n.size) = ((left - n.size : Nat) : Int) := by omega
    obtain ⟨q, hq⟩ : ∃ q : Nat, q = left - n.size := ⟨_, rfl⟩
    rw [← hq] at e1
    rw [e1]
    refine (szLineS_any _ m.lines q _ h1 hm.2 (by omega)).mono ?_
    by_cases hneg : lnsT m.lines ≤ q
    · rw [leftOf_step hneg]
      have hre : r = ((q - lnsT m.lines : Nat) : Int) := by rw [HR.out, leftOf, if_pos (by omega)]; omega
      obtain ⟨q', hq'⟩ : ∃ q' : Nat, q' = q - lnsT m.lines := ⟨_, rfl⟩
      rw [← hq'] at hre
      rw [← hq']
      have HRE : Hid (r = q') := hre
      have hqb : q' ≤ 1048576 := by omega
      clear hre hq hq' e1
      rintro e w1 ⟨rfl, hb1⟩
      go_wp2
      go_ret
      exact ⟨ret_int HRE.out.symm, below_one hb1⟩
    · have hre : r = -1 := by rw [HR.out, leftOf, if_neg (by omega)]
      have hl1 : leftOf (lnsT m.lines) q = -1 := by rw [leftOf, if_neg hneg]
      rw [hl1]
      have HRE : Hid (r = -1) := hre
      clear hre hq e1 hl1
      rintro e w1 ⟨rfl, hb1⟩
      go_wp2
      go_ret
      exact ⟨ret_int HRE.out.symm, below_one hb1⟩
  · have hre : r = -1 := by rw [HR.out, leftOf, if_neg (by omega)]
    rw [hre]
    clear hre HR h1 hm
    go_enter Tryz.func45, Tryz.ntmps45
    go_wp2
    go_ret
    exact ⟨rfl, (Below.refl _ _).alloc (Nat.le_refl _) _⟩

set_option maxHeartbeats 1000000 in
set_option maxRecDepth 100000 in
theorem szModuleS_any (v : Value) (L : List Md) (left : Nat) (w : World) (h : Mds w v L) (hL : ∀ l ∈ L, l.ok) (hleft : left ≤ 1048576) :
    Calls Tryz.prog 23 #[v, .int .i64 left] w fun e w' => e = .returned (.int .i64 (leftOf (mdsT L) left)) ∧ Below w.heap.size w w' := by
  obtain ⟨a, cap, rfl, hcap, hmax, hc⟩ := h
  unfold maxLen at hmax
  have hlm : L.length ≤ 9223372036854775807 := by omega
  have HC : Hid (∀ k, (hk : k < L.length) → ∃ b o s, a = some ⟨b, o, none⟩ ∧ b < w.heap.size ∧
    w.cell? ⟨b, o + k * 2, none⟩ = some (strV L[k].name) ∧ w.cell? ⟨b, o + k * 2 + 1, none⟩ = some s ∧ Lns w s L[k].lines) := hc
  have HL : Hid (∀ l ∈ L, l.ok) := hL
  clear hc hL hmax hcap
  obtain ⟨r, hr⟩ : ∃ r, r = leftOf (mdsT L) left := ⟨_, rfl⟩
  rw [← hr]
  have HR : Hid (r = leftOf (mdsT L) left) := hr
  clear hr
  by_cases hlen : left < L.length
  · have hr : r = -1 := by rw [HR.out, leftOf, if_neg (by unfold mdsT; omega)]
    rw [hr]
    clear hr HR HC HL
    go_enter Tryz.func23, Tryz.ntmps23
    go_wp2
    go_ret
    exact ⟨rfl, Below.refl _ _⟩
  · go_enter Tryz.func23, Tryz.ntmps23
    go_wp2
    go_loopw [1, 5] (fun l i wr => ∃ k q : Nat, k ≤ L.length ∧ i = .int .i64 k ∧ l = .int .i64 q ∧ q + L.length + ((L.map Md.t).take k).sum = left ∧ Below w.heap.size w wr) (fun _ i _ => L.length - (intOf i).toNat)
    case atStart => exact ⟨0, left - L.length, Nat.zero_le _, rfl, by congr 1; omega, by simp; omega, Below.refl _ _⟩
    case round =>
      obtain ⟨k, q, hk, rfl, rfl, hq, hB⟩ := hrel
      by_cases hlt : k < L.length
      · obtain ⟨b, o, s, rfl, hb, h0, h1, h2⟩ := HC.out k hlt
        have c0 : wr.cell? ⟨b, o + k * 2, none⟩ = some (strV L[k].name) := (hB.cell (p := ⟨b, o + k * 2, none⟩) hb).trans h0
        have c1 : wr.cell? ⟨b, o + k * 2 + 1, none⟩ = some s := (hB.cell (p := ⟨b, o + k * 2 + 1, none⟩) hb).trans h1
        have h3 := h2.below hB (Nat.le_refl _)
        clear h0 h1 h2
        have hok := HL.out _ (List.getElem_mem hlt)
        have hs1 := sum_take1 (L.map Md.t) k (by rw [List.length_map]; exact hlt)
        rw [List.getElem_map] at hs1
        have hs2 := sum_take_le (L.map Md.t) (k + 1)
        go_wp2_with fail
        refine (szModule_any L[k] s q wr h3 hok (by omega)).mono ?_
        by_cases hneg : L[k].t ≤ q
        · have hq2 : (q - L[k].t) + L.length + ((L.map Md.t).take (k + 1)).sum = left := by omega
          have HQ : Hid ((q - L[k].t) + L.length + ((L.map Md.t).take (k + 1)).sum = left) := hq2
          rw [leftOf_step hneg]
          obtain ⟨q', hq'⟩ : ∃ q' : Nat, q' = q - L[k].t := ⟨_, rfl⟩
          rw [← hq']
          rw [← hq'] at HQ
          have hqb : q' ≤ 1048576 := by omega
          clear hq2 hs1 hs2 hq hq'
          rintro e w1 ⟨rfl, hb1⟩
          go_wp2
          go_roundw
          case rel => exact ⟨k + 1, q', by omega, by go_num, by go_num, HQ.out, hB.trans (hb1.mono hB.size)⟩
          case measure => simp [intOf]; omega
        · have hrn : r = -1 := by rw [HR.out, leftOf, if_neg (by unfold mdsT; omega)]
          have HRN : Hid (r = -1) := hrn
          have hl1 : leftOf L[k].t q = -1 := by rw [leftOf, if_neg hneg]
          rw [hl1]
          clear hrn hl1 hs1 hs2 hq
          rintro e w1 ⟨rfl, hb1⟩
          go_wp2
          go_ret
          exact ⟨ret_int HRN.out.symm, hB.trans (hb1.mono hB.size)⟩
      · have hre : (q : Int) = r := by
          rw [List.take_of_length_le (by rw [List.length_map]; omega)] at hq
          rw [HR.out, leftOf, if_pos (by unfold mdsT; omega)]; unfold mdsT; omega
        have HRE : Hid ((q : Int) = r) := hre
        clear hre hq
        go_wp2
        go_ret
        exact ⟨ret_int HRE.out, hB⟩

set_option maxHeartbeats 1000000 in
set_option maxRecDepth 100000 in
theorem szIntS_any (v : Value) (L : List Int) (left : Nat) (w : World) (h : Nums w v L) (hleft : left ≤ 1048576) :
    Calls Tryz.prog 24 #[v, .int .i64 left] w fun e w' => e = .returned (.int .i64 (leftOf L.length left)) ∧ w' = w := by
  obtain ⟨a, cap, rfl, hcap, hmax, hc⟩ := h
  unfold maxLen at hmax
  have hlm : L.length ≤ 9223372036854775807 := by omega
  clear hc hmax hcap
  by_cases hlen : L.length ≤ left
  · have hr : leftOf L.length left = left - L.length := by rw [leftOf, if_pos hlen]
    rw [hr]
    clear hr
    go_enter Tryz.func24, Tryz.ntmps24
    go_wp2
    go_ret
    exact ⟨rfl, rfl⟩
  · have hr : leftOf L.length left = -1 := by rw [leftOf, if_neg hlen]
    rw [hr]
    clear hr
    go_enter Tryz.func24, Tryz.ntmps24
    go_wp2
    go_ret
    exact ⟨rfl, rfl⟩

end Go.Proofs.YtimgafblpmjajabGreat
namespace Go.Proofs.YtimgafblpmjajabGreat

open Go.RowKit

theorem Strs.slice {w : World} {v : Value} {L : List (List UInt8)} (h : Strs w v L) : ∃ a cap, v = .slice a L.length cap := by obtain ⟨a, cap, rfl, _⟩ := h; exact ⟨a, cap, rfl⟩
theorem Nums.slice {w : World} {v : Value} {L : List Int} (h : Nums w v L) : ∃ a cap, v = .slice a L.length cap := by obtain ⟨a, cap, rfl, _⟩ := h; exact ⟨a, cap, rfl⟩
theorem Lns.slice {w : World} {v : Value} {L : List Ln} (h : Lns w v L) : ∃ a cap, v = .slice a L.length cap := by obtain ⟨a, cap, rfl, _⟩ := h; exact ⟨a, cap, rfl⟩
theorem Mds.slice {w : World} {v : Value} {L : List Md} (h : Mds w v L) : ∃ a cap, v = .slice a L.length cap := by obtain ⟨a, cap, rfl, _⟩ := h; exact ⟨a, cap, rfl⟩

theorem leftOf_neg {t left : Nat} (h : ¬ t ≤ left) : leftOf t left = -1 := by rw [leftOf, if_neg h]

set_option maxHeartbeats 1000000 in
set_option maxRecDepth 100000 in
theorem szWorld_any (v : Value) (D : Wd) (w : World) (h : Wds w v D) (hD : D.ok) :
    Calls Tryz.prog 6 #[v, .int .i64 1048576] w fun e w' => e = .returned (.int .i64 (leftOf D.t 1048576)) ∧ Below w.heap.size w w' := by
  obtain ⟨vr, vm, vf, rfl, h1, h2, h3⟩ := h
  have hA : Below w.heap.size w (w.alloc (.cells #[vr, vm, vf] 26)) := (Below.refl _ _).alloc (Nat.le_refl _) _
  have h1' := h1.below hA (Nat.le_refl _)
  have h2' := h2.below hA (Nat.le_refl _)
  have h3' := h3.below hA (Nat.le_refl _)
  have hs1 := sz_any vr D.roots _ h1' hD.1
  have hs1' : (if Pl.total D.roots ≤ 1048576 then 1048576 - (Pl.total D.roots : Int) else -1) = leftOf (Pl.total D.roots) 1048576 := rfl
  rw [hs1'] at hs1
  obtain ⟨a1, c1, rfl⟩ := h1.slice
  obtain ⟨a2, c2, rfl⟩ := h2.slice
  obtain ⟨a3, c3, rfl⟩ := h3.slice
  obtain ⟨r, hr⟩ : ∃ r, r = leftOf D.t 1048576 := ⟨_, rfl⟩
  rw [← hr]
  have HR : Hid (r = leftOf D.t 1048576) := hr
  clear hr h1 h2 h3 hs1' h1'
  by_cases hn1 : Pl.total D.roots ≤ 1048576
  · rw [leftOf_step hn1] at hs1
    obtain ⟨q1, hq1⟩ : ∃ q1 : Nat, q1 = 1048576 - Pl.total D.roots := ⟨_, rfl⟩
    rw [← hq1] at hs1
    have hqb1 : q1 ≤ 1048576 := by omega
    have HQ1 : Hid (q1 = 1048576 - Pl.total D.roots) := hq1
    clear hq1
    go_enter Tryz.func6, Tryz.ntmps6
    go_wp2_with fail
    refine hs1.mono ?_
    rintro e w1 ⟨rfl, rfl⟩
    go_wp2_with fail
    refine (szModuleS_any _ D.mods q1 _ h2' hD.2 hqb1).mono ?_
    by_cases hn2 : mdsT D.mods ≤ q1
    · rw [leftOf_step hn2]
      obtain ⟨q2, hq2⟩ : ∃ q2 : Nat, q2 = q1 - mdsT D.mods := ⟨_, rfl⟩
      rw [← hq2]
      have hqb2 : q2 ≤ 1048576 := by omega
      have HQ2 : Hid (q2 = q1 - mdsT D.mods) := hq2
      clear hq2
      rintro e w1 ⟨rfl, hb1⟩
      have hc : w1.cell? ⟨w.heap.size, 2, none⟩ = some (.slice a3 D.faults.length c3) := by rw [(bcell hb1).1 _ _ (by simp)]; simp
      have h3'' := h3'.below hb1 (Nat.le_refl _)
      go_wp2_with fail
      refine (szIntS_any _ D.faults q2 _ h3'' hqb2).mono ?_
      by_cases hn3 : D.faults.length ≤ q2
      · rw [leftOf_step hn3]
        have hre : r = ((q2 - D.faults.length : Nat) : Int) := by rw [HR.out, leftOf, if_pos (by have h1 := HQ1.out; have h2 := HQ2.out; unfold Wd.t; omega), Wd.t]; have h1 := HQ1.out; have h2 := HQ2.out; omega
        obtain ⟨q3, hq3⟩ : ∃ q3 : Nat, q3 = q2 - D.faults.length := ⟨_, rfl⟩
        rw [← hq3] at hre
        rw [← hq3]
        have hqb3 : q3 ≤ 1048576 := by omega
        have HRE : Hid (r = q3) := hre
        clear hq3 hre
        rintro e w1 ⟨rfl, rfl⟩
        go_wp2
        go_ret
        exact ⟨ret_int HRE.out.symm, below_one hb1⟩
      · rw [leftOf_neg hn3]
        have hre : r = -1 := by rw [HR.out, leftOf, if_neg (by have h1 := HQ1.out; have h2 := HQ2.out; unfold Wd.t; omega)]
        have HRE : Hid (r = -1) := hre
        clear hre
        rintro e w1 ⟨rfl, rfl⟩
        go_wp2
        go_ret
        exact ⟨ret_int HRE.out.symm, below_one hb1⟩
    · rw [leftOf_neg hn2]
      have hre : r = -1 := by rw [HR.out, leftOf, if_neg (by have h1 := HQ1.out; unfold Wd.t; omega)]
      have HRE : Hid (r = -1) := hre
      clear hre
      rintro e w1 ⟨rfl, hb1⟩
      go_wp2
      go_ret
      exact ⟨ret_int HRE.out.symm, below_one hb1⟩
  · rw [leftOf_neg hn1] at hs1
    have hre : r = -1 := by rw [HR.out, leftOf, if_neg (by unfold Wd.t; omega)]
    have HRE : Hid (r = -1) := hre
    clear hre h2' h3'
    go_enter Tryz.func6, Tryz.ntmps6
    go_wp2_with fail
    refine hs1.mono ?_
    rintro e w1 ⟨rfl, rfl⟩
    go_wp2
    go_ret
    exact ⟨ret_int HRE.out.symm, hA⟩

end Go.Proofs.YtimgafblpmjajabGreat
namespace Go.Proofs.YtimgafblpmjajabGreat

open Go.RowKit

theorem Tryz.info57 : (Tryz.prog.info? 51).map (fun i => (i.zero, i.size, i.bytes)) = some (some (.agg #[.int .i64 0, .string ByteArray.empty, .int .i64 0, .int .i64 0]), 4, 40) := by kernel_rfl
theorem Tryz.info55 : (Tryz.prog.info? 49).map (fun i => (i.zero, i.size, i.bytes)) = some (some (.agg #[.string ByteArray.empty, .slice none 0 0]), 2, 40) := by kernel_rfl
theorem Tryz.info3 : (Tryz.prog.info? 3).map (fun i => (i.zero, i.size, i.bytes)) = some (some (.int .i64 0), 1, 8) := by kernel_rfl

theorem strV_of (l : List UInt8) : ∃ s : ByteArray, strV l = .string s := ⟨_, rfl⟩

set_option maxHeartbeats 1000000 in
set_option maxRecDepth 100000 in
theorem toLine_any (l : Ln) (w : World) :
    Calls Tryz.prog 86 #[lnV l] w fun e w' => e = .returned (lnV l) ∧ Below w.heap.size w w' := by
  unfold lnV
  obtain ⟨s, hs⟩ := strV_of l.name
  rw [hs]
  clear hs
  go_enter Tryz.func86, Tryz.ntmps86
  go_wp2
  exact bodyPost_ret (v := .agg #[.int .i64 l.op, .string s, .int .i64 l.num, .int .i64 l.skip]) (by simp [results, Tryz.results86, go_sem]) rfl ⟨rfl, (((Below.refl _ _).alloc (Nat.le_refl _) _).alloc (by simp) _).alloc (by simp; omega) _⟩

/-- A slice whose row lies from a block on. -/
def vfrom (base : Nat) (v : Value) : Prop := ∀ b o s n c, v = .slice (some ⟨b, o, s⟩) n c → base ≤ b

theorem set4_same {X : List Value} {n k : Nat} {a b c d : Value} (hX : X.length = n * 4) (hk : k < n) :
    ((((X.set (k * 4) a).set (k * 4 + 1) b).set (k * 4 + 2) c).set (k * 4 + 3) d)[k * 4]? = some a ∧ ((((X.set (k * 4) a).set (k * 4 + 1) b).set (k * 4 + 2) c).set (k * 4 + 3) d)[k * 4 + 1]? = some b ∧
    ((((X.set (k * 4) a).set (k * 4 + 1) b).set (k * 4 + 2) c).set (k * 4 + 3) d)[k * 4 + 2]? = some c ∧ ((((X.set (k * 4) a).set (k * 4 + 1) b).set (k * 4 + 2) c).set (k * 4 + 3) d)[k * 4 + 3]? = some d := by
  refine ⟨?_, ?_, ?_, ?_⟩ <;> simp [List.getElem?_set] <;> omega
theorem set4_other {a b c d : Value} (X : List Value) {j k : Nat} (h : j ≠ k) (i : Nat) (hi : i < 4) :
    ((((X.set (k * 4) a).set (k * 4 + 1) b).set (k * 4 + 2) c).set (k * 4 + 3) d)[j * 4 + i]? = X[j * 4 + i]? := by
  rw [List.getElem?_set_ne (by omega), List.getElem?_set_ne (by omega), List.getElem?_set_ne (by omega), List.getElem?_set_ne (by omega)]

theorem lns_of_row {W : World} {base g n : Nat} {X : List Value} {L : List Ln} (h : W.ownsRow base 51 4 (.slice (some ⟨g, 0, none⟩) L.length n) L.length X) (hn : n ≤ maxLen)
    (hX : ∀ j (hj : j < L.length), X[j * 4]? = some (.int .i64 L[j].op) ∧ X[j * 4 + 1]? = some (strV L[j].name) ∧ X[j * 4 + 2]? = some (.int .i64 L[j].num) ∧ X[j * 4 + 3]? = some (.int .i64 L[j].skip)) :
    Lns W (.slice (some ⟨g, 0, none⟩) L.length n) L := by
  have hc := h.cellAt
  have hg : L.length ≤ n ∧ g < W.heap.size := by
    rcases h.2 with ⟨h', _⟩ | ⟨g', cap', cur, h', _, hg, hc, _⟩
    · cases h'
    · cases h'; exact ⟨hc, (Array.getElem?_eq_some_iff.1 hg).1⟩
  refine ⟨_, n, rfl, hg.1, hn, fun k hk => ⟨g, 0, rfl, hg.2, ?_, ?_, ?_, ?_⟩⟩
  all_goals rw [Nat.zero_add, hc _ (by omega)]
  · exact (hX k hk).1
  · exact (hX k hk).2.1
  · exact (hX k hk).2.2.1
  · exact (hX k hk).2.2.2

set_option maxHeartbeats 2000000 in
set_option maxRecDepth 100000 in
theorem toLineS_any (v : Value) (L : List Ln) (w : World) (h : Lns w v L) (hL : L.length ≤ 1048576) :
    Calls Tryz.prog 67 #[v] w fun e w' => ∃ v', e = .returned v' ∧ Lns w' v' L ∧ vfrom w.heap.size v' ∧ Below w.heap.size w w' := by
  obtain ⟨i0, hi, hz0, hz1, hz2⟩ := info_parts Tryz.info57
  obtain ⟨a, cap, rfl, hcap, hmax, hc⟩ := h
  have HC : Hid (∀ k, (hk : k < L.length) → ∃ b o, a = some ⟨b, o, none⟩ ∧ b < w.heap.size ∧
    w.cell? ⟨b, o + k * 4, none⟩ = some (.int .i64 L[k].op) ∧ w.cell? ⟨b, o + k * 4 + 1, none⟩ = some (strV L[k].name) ∧ w.cell? ⟨b, o + k * 4 + 2, none⟩ = some (.int .i64 L[k].num) ∧ w.cell? ⟨b, o + k * 4 + 3, none⟩ = some (.int .i64 L[k].skip)) := hc
  clear hc hmax
  have hib : i0.bytes * L.length ≤ 281474976710656 := by rw [hz2]; omega
  have hlm : L.length ≤ maxLen := by unfold maxLen; omega
  go_enter Tryz.func67, Tryz.ntmps67
  go_wp2_with (at_make; refine wpList_make_full _ rfl _ _ 47 rfl w.heap.size 51 i0 _ 4 Tryz.underlying47 hi hz0 hz1 .i64 .i64 _ _ L.length rfl rfl rfl rfl hib hlm (Nat.le_refl _) ?_; intro w1 hown hgrow)
  have hB1 : Below w.heap.size w w1 := (Below.refl _ _).grown hgrow (Nat.le_refl _) (fun k e => by cases e)
  clear hgrow
  go_loopw [4] (fun i wr => ∃ (k : Nat) (X : List Value), k ≤ L.length ∧ i = .int .i64 k ∧ wr.ownsRow w.heap.size 51 4 (.slice (some ⟨w.heap.size, 0, none⟩) L.length L.length) L.length X ∧
      (∀ j (hj : j < L.length), j < k → X[j * 4]? = some (.int .i64 L[j].op) ∧ X[j * 4 + 1]? = some (strV L[j].name) ∧ X[j * 4 + 2]? = some (.int .i64 L[j].num) ∧ X[j * 4 + 3]? = some (.int .i64 L[j].skip)) ∧ Below w.heap.size w wr) (fun i _ => L.length - (intOf i).toNat)
  case atStart => exact ⟨0, _, Nat.zero_le _, rfl, hown, fun j _ hj => absurd hj (by omega), hB1⟩
  case round =>
    obtain ⟨k, X, hk, rfl, hown, hX, hB⟩ := hrel
    by_cases hlt : k < L.length
    · obtain ⟨b, o, rfl, hb, h0, h1, h2, h3⟩ := HC.out k hlt
      have c0 : wr.cell? ⟨b, o + k * 4, none⟩ = some (.int .i64 L[k].op) := (hB.cell (p := ⟨b, o + k * 4, none⟩) hb).trans h0
      have c1 : wr.cell? ⟨b, o + k * 4 + 1, none⟩ = some (strV L[k].name) := (hB.cell (p := ⟨b, o + k * 4 + 1, none⟩) hb).trans h1
      have c2 : wr.cell? ⟨b, o + k * 4 + 2, none⟩ = some (.int .i64 L[k].num) := (hB.cell (p := ⟨b, o + k * 4 + 2, none⟩) hb).trans h2
      have c3 : wr.cell? ⟨b, o + k * 4 + 3, none⟩ = some (.int .i64 L[k].skip) := (hB.cell (p := ⟨b, o + k * 4 + 3, none⟩) hb).trans h3
      have HX : Hid (∀ j (hj : j < L.length), j < k → X[j * 4]? = some (.int .i64 L[j].op) ∧ X[j * 4 + 1]? = some (strV L[j].name) ∧ X[j * 4 + 2]? = some (.int .i64 L[j].num) ∧ X[j * 4 + 3]? = some (.int .i64 L[j].skip)) := hX
      clear h0 h1 h2 h3 hX
      go_wp2_with fail
      refine (toLine_any L[k] wr).mono ?_
      unfold lnV
      obtain ⟨s, hs⟩ := strV_of L[k].name
      have HS : Hid (strV L[k].name = .string s) := hs
      rw [hs]
      clear hs c0 c1 c2 c3
      rintro e w1 ⟨rfl, hb1⟩
      have hown1 := own_below hown hb1 (Nat.le_refl _)
      have hXl : X.length = L.length * 4 := hown1.1
      have e0 : ∃ u, w1.cell? ⟨w.heap.size, k * 4, none⟩ = some u := by rw [hown1.cellAt _ (by omega)]; exact ⟨_, List.getElem?_eq_getElem (by omega)⟩
      have e1 : ∃ u, w1.cell? ⟨w.heap.size, k * 4 + 1, none⟩ = some u := by rw [hown1.cellAt _ (by omega)]; exact ⟨_, List.getElem?_eq_getElem (by omega)⟩
      have e2 : ∃ u, w1.cell? ⟨w.heap.size, k * 4 + 2, none⟩ = some u := by rw [hown1.cellAt _ (by omega)]; exact ⟨_, List.getElem?_eq_getElem (by omega)⟩
      have e3 : ∃ u, w1.cell? ⟨w.heap.size, k * 4 + 3, none⟩ = some u := by rw [hown1.cellAt _ (by omega)]; exact ⟨_, List.getElem?_eq_getElem (by omega)⟩
      obtain ⟨u0, e0⟩ := e0
      obtain ⟨u1, e1⟩ := e1
      obtain ⟨u2, e2⟩ := e2
      obtain ⟨u3, e3⟩ := e3
      have f0 := hown1.frozenAt (k * 4)
      have f1 := hown1.frozenAt (k * 4 + 1)
      have f2 := hown1.frozenAt (k * 4 + 2)
      have f3 := hown1.frozenAt (k * 4 + 3)
      go_wp2
      go_roundw
      case rel =>
        refine ⟨k + 1, _, by omega, by go_num, ((((hown1.stored _ _).1.stored _ _).1.stored _ _).1.stored _ _).1, fun j hj hjk => ?_, ((((hB.trans (hb1.mono hB.size)).setCell (p := ⟨w.heap.size, k * 4, none⟩) (Nat.le_refl _) _).setCell (p := ⟨w.heap.size, k * 4 + 1, none⟩) (Nat.le_refl _) _).setCell (p := ⟨w.heap.size, k * 4 + 2, none⟩) (Nat.le_refl _) _).setCell (p := ⟨w.heap.size, k * 4 + 3, none⟩) (Nat.le_refl _) _⟩
        by_cases hjk' : j = k
        · subst hjk'
          obtain ⟨g0, g1, g2, g3⟩ := set4_same (a := .int .i64 L[j].op) (b := .string s) (c := .int .i64 L[j].num) (d := .int .i64 L[j].skip) hXl hlt
          exact ⟨g0, by rw [HS.out]; exact g1, g2, g3⟩
        · obtain ⟨x0, x1, x2, x3⟩ := HX.out j hj (by omega)
          have hg := fun i hi => set4_other (a := .int .i64 L[k].op) (b := .string s) (c := .int .i64 L[k].num) (d := .int .i64 L[k].skip) X hjk' i hi
          exact ⟨(hg 0 (by omega)).trans x0, (hg 1 (by omega)).trans x1, (hg 2 (by omega)).trans x2, (hg 3 (by omega)).trans x3⟩
      case measure => simp [intOf]; omega
    · go_wp2
      go_ret
      refine ⟨_, rfl, ?_, fun b o s n c e => by cases e; exact Nat.le_refl _, hB⟩
      exact lns_of_row hown hlm (fun j hj => hX j hj (by omega))
end Go.Proofs.YtimgafblpmjajabGreat
