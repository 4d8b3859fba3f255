import Derived.Lib.Join
import Derived.Test.YtimgafblpmjajaaGreatChecked
import Derived.WalkKit
import Derived.Deep.QuietTactic
import Derived.BigQuiet
import Derived.Maps.AppendAt
import Derived.ArgAppend
import Derived.WalkSmall
import Derived.Deep.Draws
import Derived.Deep.RegionWith
import Derived.Laws.IdiomStrings
import Derived.Shelf.Strings.Builder1
import Derived.Shelf.Strings.Builder2
import Derived.Shelf.Strings.OnBuilder
import Derived.Shelf.LaysM
import Derived.Shelf.Strconv.Clone
import Derived.Shelf.Strings.Search1
import Derived.Shelf.Strings.Search2
import Derived.Test.YtimgafblpmjajaaGreatProg
namespace Go.Proofs.YtimgafblpmjajaaGreat.Pl

/-- A byte that may stand in a plain part. -/
def okB (c : UInt8) : Bool := ((97 ≤ c && c ≤ 122) || (48 ≤ c && c ≤ 57)) || c == 95 || c == 45
/-- A plain part: one or more such bytes. -/
def plainP (p : List UInt8) : Bool := !p.isEmpty && p.all okB

/-- What stands between the slashes, 'cur' being what has come of the first part. -/
def splitTo : List UInt8 → List UInt8 → List (List UInt8)
  | cur, [] => [cur]
  | cur, c :: r => if c = 47 then cur :: splitTo [] r else splitTo (cur ++ [c]) r
def split (s : List UInt8) : List (List UInt8) := splitTo [] s

/-- One part walked. -/
def stepW (row : List (List UInt8)) (p : List UInt8) : List (List UInt8) × Int :=
  if p = [46] then (row, 0) else if p = [46, 46] then (if row = [] then ([], 2) else (row.dropLast, 0)) else if plainP p then (row ++ [p], 0) else ([], 1)
/-- All parts walked; the row, or a code. -/
def walkP : List (List UInt8) → List (List UInt8) → List (List UInt8) × Int
  | row, [] => (row, 0)
  | row, p :: ps => if (stepW row p).2 = 0 then walkP (stepW row p).1 ps else ([], (stepW row p).2)

/-- With slashes between. -/
def joinS (xs : List (List UInt8)) : List UInt8 := Lib.join xs [47]

/-- The answer out of what the walk came to. -/
def fin (r : List (List UInt8) × Int) : Int × List UInt8 :=
  if r.2 = 0 then (if joinS r.1 = [] then (1, []) else if 60 < (joinS r.1).length then (3, []) else (0, joinS r.1)) else (r.2, [])
def nm (row : List (List UInt8)) (s : List UInt8) : Int × List UInt8 := if 60 < s.length then (3, []) else fin (walkP row (split s))

theorem splitTo_ne (cur s : List UInt8) : splitTo cur s ≠ [] := by
  cases s with
  | nil => simp [splitTo]
  | cons c r => by_cases h : c = 47
                · simp [splitTo, h]
                · simp only [splitTo, h, if_false]
                  exact splitTo_ne _ _

theorem walkP_append (row : List (List UInt8)) (a b : List (List UInt8)) :
    walkP row (a ++ b) = if (walkP row a).2 = 0 then walkP (walkP row a).1 b else walkP row a := by
  induction a generalizing row with
  | nil => simp [walkP]
  | cons p ps ih =>
    simp only [List.cons_append, walkP]
    by_cases h : (stepW row p).2 = 0
    · simp only [h, if_true]; exact ih _
    · simp [h]

theorem joinS_nil : joinS [] = [] := rfl
theorem joinS_one (p : List UInt8) : joinS [p] = p := Lib.join_one p [47]
theorem joinS_snoc (xs : List (List UInt8)) (p : List UInt8) (h : xs ≠ []) : joinS (xs ++ [p]) = joinS xs ++ [47] ++ p := by
  cases xs with
  | nil => exact absurd rfl h
  | cons x r =>
    unfold joinS
    rw [List.cons_append, Lib.join_cons, Lib.join_cons]
    simp [Lib.joinTail, List.append_assoc]

/-- How long a walked row may get. -/
def total (xs : List (List UInt8)) : Nat := Lib.lens xs + xs.length

theorem total_snoc (xs : List (List UInt8)) (p : List UInt8) : total (xs ++ [p]) = total xs + p.length + 1 := by
  simp [total, Lib.lens]; omega
theorem total_dropLast (xs : List (List UInt8)) : total xs.dropLast ≤ total xs := by
  rw [List.dropLast_eq_take]
  have := Lib.lens_take_le xs (xs.length - 1)
  simp only [total, List.length_take]; omega
theorem total_stepW (row : List (List UInt8)) (p : List UInt8) : total (stepW row p).1 ≤ total row + p.length + 1 := by
  unfold stepW
  split
  · simp only; omega
  · split
    · split
      · simp [total, Lib.lens]
      · have := total_dropLast row; simp only; omega
    · split
      · simp only; rw [total_snoc]; omega
      · simp [total, Lib.lens]
theorem total_walkP (row ps : List (List UInt8)) : total (walkP row ps).1 ≤ total row + total ps := by
  induction ps generalizing row with
  | nil => simp [walkP, total, Lib.lens]
  | cons p ps ih =>
    have h1 := total_stepW row p
    have h2 : total (p :: ps) = p.length + 1 + total ps := by simp [total, Lib.lens]; omega
    simp only [walkP]
    split
    · have := ih (stepW row p).1; omega
    · simp [total, Lib.lens]
theorem total_splitTo (cur s : List UInt8) : total (splitTo cur s) = cur.length + s.length + 1 := by
  induction s generalizing cur with
  | nil => simp [splitTo, total, Lib.lens]
  | cons c r ih =>
    unfold splitTo
    split
    · have h := ih []
      have h2 : total (cur :: splitTo [] r) = cur.length + 1 + total (splitTo [] r) := by simp [total, Lib.lens]; omega
      rw [h2, h]; simp; omega
    · rw [ih]; simp; omega
theorem total_split (s : List UInt8) : total (split s) = s.length + 1 := by
  unfold split; rw [total_splitTo]; simp
theorem length_split (s : List UInt8) : (split s).length ≤ s.length + 1 := by
  have := total_split s; unfold total at this; omega

end Go.Proofs.YtimgafblpmjajaaGreat.Pl
namespace Go.Proofs.YtimgafblpmjajaaGreat

open Go.RowKit

theorem okB_int (c : UInt8) : Pl.okB c = ((((decide ((97 : Int) ≤ (c.toNat : Int)) && decide ((c.toNat : Int) ≤ 122)) || (decide ((48 : Int) ≤ (c.toNat : Int)) && decide ((c.toNat : Int) ≤ 57))) || ((c.toNat : Int) == 95)) || ((c.toNat : Int) == 45)) := by
  unfold Pl.okB
  have e1 : (97 ≤ c) ↔ ((97 : Int) ≤ (c.toNat : Int)) := by rw [UInt8.le_iff_toNat_le]; simp; omega
  have e2 : (c ≤ 122) ↔ ((c.toNat : Int) ≤ 122) := by rw [UInt8.le_iff_toNat_le]; simp; omega
  have e3 : (48 ≤ c) ↔ ((48 : Int) ≤ (c.toNat : Int)) := by rw [UInt8.le_iff_toNat_le]; simp; omega
  have e4 : (c ≤ 57) ↔ ((c.toNat : Int) ≤ 57) := by rw [UInt8.le_iff_toNat_le]; simp; omega
  have e5 : (c == 95) = ((c.toNat : Int) == 95) := by
    rw [Bool.eq_iff_iff, beq_iff_eq, beq_iff_eq, ← UInt8.toNat_inj]; simp; omega
  have e6 : (c == 45) = ((c.toNat : Int) == 45) := by
    rw [Bool.eq_iff_iff, beq_iff_eq, beq_iff_eq, ← UInt8.toNat_inj]; simp; omega
  rw [e5, e6]
  simp only [e1, e2, e3, e4]

theorem ret_bool {a b : Bool} (h : a = b) : Ending.returned (.bool a) = .returned (.bool b) := by rw [h]
theorem ret_int {k : IntKind} {a b : Int} (h : a = b) : Ending.returned (.int k a) = .returned (.int k b) := by rw [h]

set_option maxHeartbeats 400000 in
set_option maxRecDepth 100000 in
theorem isPlainByte_any (c : UInt8) (w : World) :
    Calls Tryz.prog 79 #[.int .u8 (c.toNat : Int)] w fun e w' => e = .returned (.bool (Pl.okB c)) ∧ w' = w := by
  have h256 : (c.toNat : Int) < 256 := by have := c.toNat_lt; omega
  rw [okB_int]
  go_enter Tryz.func79, Tryz.ntmps79
  go_wp2
  all_goals go_ret
  all_goals refine ⟨ret_bool ?_, rfl⟩
  all_goals (first | rfl | (rw [Bool.eq_iff_iff]; simp; omega))

set_option maxHeartbeats 400000 in
set_option maxRecDepth 100000 in
theorem l1byte_any (c : UInt8) (w : World) :
    Calls Tryz.prog 82 #[.int .u8 (c.toNat : Int)] w fun e w' => e = .returned (.bool (Pl.okB c)) ∧ w' = w := by
  have h256 : (c.toNat : Int) < 256 := by have := c.toNat_lt; omega
  rw [okB_int]
  go_enter Tryz.func82, Tryz.ntmps82
  go_wp2
  all_goals go_ret
  all_goals refine ⟨ret_bool ?_, rfl⟩
  all_goals (first | rfl | (rw [Bool.eq_iff_iff]; simp; omega))

theorem take_snoc (s : ByteArray) (k : Nat) (h : k < s.size) : s.data.toList.take (k + 1) = s.data.toList.take k ++ [s[k]] := by
  rw [List.take_succ_eq_append_getElem (by simpa using h)]; rfl

theorem plain_end (s : ByteArray) (k : Nat) (hk : ¬ k < s.size) (h : (s.data.toList.take k).all Pl.okB = true) : (!s.toList.isEmpty) = Pl.plainP s.data.toList := by
  rw [List.take_of_length_le (by simp; omega)] at h
  unfold Pl.plainP
  rw [h, Bool.and_true, Go.ByteArray.toList_eq]

set_option maxHeartbeats 400000 in
set_option maxRecDepth 100000 in
theorem isPlain_any (s : ByteArray) (w : World) (hs : s.size ≤ maxLen) :
    Calls Tryz.prog 68 #[.string s] w fun e w' => e = .returned (.bool (Pl.plainP s.data.toList)) ∧ w' = w := by
  unfold maxLen at hs
  go_enter Tryz.func68, Tryz.ntmps68
  go_wp2
  go_loop [6] (fun i => ∃ k : Nat, k ≤ s.size ∧ i = .int .i64 k ∧ (s.data.toList.take k).all Pl.okB = true) (fun i => s.size - (intOf i).toNat)
  case atStart => exact ⟨0, Nat.zero_le _, rfl, rfl⟩
  case round =>
    obtain ⟨k, hk, rfl, hall⟩ := hrel
    by_cases hlt : k < s.size
    · cases hok : Pl.okB s[k] with
      | true =>
        have HA : Hid ((s.data.toList.take (k + 1)).all Pl.okB = true) := by unfold Hid; rw [take_snoc s k hlt, List.all_append, hall]; simp [hok]
        clear hall
        go_wp2_with (go_at_call 79; refine (isPlainByte_any _ _).mono ?_; rintro e w' ⟨rfl, rfl⟩)
        go_round
        case rel => exact ⟨k + 1, by omega, by go_num, HA.out⟩
        case measure => simp [intOf]; omega
      | false =>
        have HA : Hid (Pl.plainP s.data.toList = false) := by
          unfold Hid Pl.plainP
          have hm : s[k] ∈ s.data.toList := by
            show s.data[k] ∈ s.data.toList
            simp
          rw [Bool.and_eq_false_iff]; right
          rw [List.all_eq_false]; exact ⟨s[k], hm, by simp [hok]⟩
        clear hall
        go_wp2_with (go_at_call 79; refine (isPlainByte_any _ _).mono ?_; rintro e w' ⟨rfl, rfl⟩)
        go_ret
        exact ⟨ret_bool HA.out.symm, rfl⟩
    · have HE := plain_end s k hlt hall
      have HE' : Hid ((!s.toList.isEmpty) = Pl.plainP s.data.toList) := HE
      clear HE hall
      go_wp2
      go_ret
      exact ⟨ret_bool HE'.out, rfl⟩

end Go.Proofs.YtimgafblpmjajaaGreat
namespace Go.Proofs.YtimgafblpmjajaaGreat

open Go.RowKit

theorem Tryz.info9 : (Tryz.prog.info? 9).map (fun i => (i.zero, i.size, i.bytes)) = some (some (.string ByteArray.empty), 1, 16) := by kernel_rfl
def strV (l : List UInt8) : Value := .string ⟨l.toArray⟩
theorem strV_extract (s : ByteArray) (a k : Nat) : Value.string (s.extract a k) = strV ((s.data.toList.drop a).take (k - a)) := by
  unfold strV
  congr 1
  apply ByteArray.ext
  rw [ByteArray.data_extract]
  simp [← Array.toList_inj]
theorem strV_data (s : ByteArray) : strV s.data.toList = .string s := by
  unfold strV; simp
theorem splitTo_hit (s : ByteArray) (k : Nat) (hk : k < s.size) (cur : List UInt8) (h : s[k] = 47) : Pl.splitTo cur (s.data.toList.drop k) = cur :: Pl.splitTo [] (s.data.toList.drop (k + 1)) := by
  rw [List.drop_eq_getElem_cons (by simpa using hk)]
  have : s.data.toList[k]'(by simpa using hk) = 47 := h
  rw [this]; simp [Pl.splitTo]
theorem take_at (s : ByteArray) (a k : Nat) (hk : k < s.size) (ha : a ≤ k) : (s.data.toList.drop a).take (k + 1 - a) = (s.data.toList.drop a).take (k - a) ++ [s[k]] := by
  rw [show k + 1 - a = (k - a) + 1 by omega, List.take_succ_eq_append_getElem (by simp; omega)]
  congr 2
  have e : a + (k - a) = k := by omega
  rw [List.getElem_drop]
  simp only [e]
  rfl
theorem splitTo_miss (s : ByteArray) (a k : Nat) (hk : k < s.size) (ha : a ≤ k) (h : s[k] ≠ 47) : Pl.splitTo ((s.data.toList.drop a).take (k - a)) (s.data.toList.drop k) = Pl.splitTo ((s.data.toList.drop a).take (k + 1 - a)) (s.data.toList.drop (k + 1)) := by
  have e1 : s.data.toList.drop k = s[k] :: s.data.toList.drop (k + 1) := List.drop_eq_getElem_cons (by simpa using hk)
  rw [e1, take_at s a k hk ha]; simp [Pl.splitTo, h]
theorem splitTo_end (s : ByteArray) (k : Nat) (hk : k = s.size) (cur : List UInt8) : Pl.splitTo cur (s.data.toList.drop k) = [cur] := by
  rw [List.drop_of_length_le (by simp; omega)]; rfl

theorem own_block_ge {w : World} {base : Nat} {e : TypeId} {size : Nat} {v : Value} {n : Nat} {xs : List Value} (h : w.ownsRow base e size v n xs) : ∀ k, v.ownBlock = some k → base ≤ k := by
  obtain ⟨_, ⟨rfl, _⟩ | ⟨g, cap, cur, rfl, hg, _⟩⟩ := h
  · intro k hk; cases hk
  · intro k hk; cases hk; exact hg

/-- Behind an append of one text onto a row of texts. -/
theorem row_snoc {w : World} {base : Nat} {v : Value} {D : List (List UInt8)} {x : Value} {p : List UInt8} (hx : x = strV p) (h : w.ownsRow base 9 1 v (D.length + 1) (D.map strV ++ [x])) : w.ownsRow base 9 1 v (D ++ [p]).length ((D ++ [p]).map strV) := by
  rw [hx] at h; simpa using h

/-- Nothing old turns by an append onto a row of the call's own. -/
theorem below_append {B : Nat} {w wr w1 : World} {o : Obj} {e : TypeId} {size n : Nat} {v : Value} {xs : List Value} (hB : Below B w wr) (hle : B ≤ wr.heap.size) (hown : wr.ownsRow B e size v n xs) (hg : (wr.alloc o).grownBy w1 v.ownBlock) : Below B w w1 :=
  (hB.alloc hle o).grown hg (by simp; omega) (own_block_ge hown)

def PartsRel (w : World) (s : ByteArray) (v a i : Value) (wr : World) : Prop :=
  ∃ (k at' : Nat) (D : List (List UInt8)), i = .int .i64 k ∧ a = .int .i64 at' ∧ wr.ownsRow w.heap.size 9 1 v D.length (D.map strV) ∧ Below w.heap.size w wr ∧
    ((k ≤ s.size ∧ at' ≤ k ∧ Pl.split s.data.toList = D ++ Pl.splitTo ((s.data.toList.drop at').take (k - at')) (s.data.toList.drop k)) ∨ (k = s.size + 1 ∧ D = Pl.split s.data.toList))

set_option maxHeartbeats 1000000 in
set_option maxRecDepth 100000 in
theorem l1parts_any (s : ByteArray) (w : World) (hs : s.size ≤ 1048576) :
    Calls Tryz.prog 64 #[.string s] w fun e w' => ∃ v, e = .returned v ∧ w'.ownsRow w.heap.size 9 1 v (Pl.split s.data.toList).length ((Pl.split s.data.toList).map strV) ∧ Below w.heap.size w w' := by
  obtain ⟨i0, hi, hz0, hz1, hz2⟩ := info_parts Tryz.info9
  have hsl := Pl.length_split s.data.toList
  rw [show s.data.toList.length = s.size by simp] at hsl
  go_enter Tryz.func64, Tryz.ntmps64
  go_wp2
  go_loopw [3, 4, 5] (fun v a i wr => PartsRel w s v a i wr) (fun _ _ i _ => s.size + 1 - (intOf i).toNat)
  case atStart => exact ⟨0, 0, [], rfl, rfl, World.ownsRow_nil _ _ _ _, Below.refl _ _, .inl ⟨Nat.zero_le _, Nat.le_refl _, by simp [Pl.split]⟩⟩
  case round =>
    obtain ⟨k, a, D, rfl, rfl, hown, hB, hk⟩ := hrel
    have hsz := hB.size
    by_cases hlt : k < s.size
    · obtain ⟨hk1, hk2, hk3⟩ : k ≤ s.size ∧ a ≤ k ∧ Pl.split s.data.toList = D ++ Pl.splitTo ((s.data.toList.drop a).take (k - a)) (s.data.toList.drop k) := by rcases hk with h | ⟨h, _⟩; exact h; omega
      have hDl : D.length ≤ s.size + 1 := by rw [hk3] at hsl; simp at hsl; omega
      by_cases h47 : s[k] = 47
      · have hb1 : ((k : Int) == (s.size : Int)) = false := by simp; omega
        have hb2 : ((s[k].toNat : Int) == 47) = true := by rw [h47]; rfl
        have HK : Hid (Pl.split s.data.toList = (D ++ [(s.data.toList.drop a).take (k - a)]) ++ Pl.splitTo ((s.data.toList.drop (k + 1)).take (k + 1 - (k + 1))) (s.data.toList.drop (k + 1))) := by
          unfold Hid; rw [hk3, splitTo_hit s k hlt _ h47]; simp
        clear hk3 hk hsl
        go_wp2_with (at_builtin; refine wpList_append_own _ rfl _ _ 23 rfl w.heap.size 9 i0 (.string ByteArray.empty) 1 16 Tryz.underlying23 hi hz0 hz1 hz2 rfl (by decide) _ _ _ rfl (hown.alloc _) ⟨wr.heap.size, 0, none⟩ 1 1 [.string (s.extract a k)] rfl rfl (cell_one_new _ _ _) (by simp [Value.oneCell']) (by unfold maxLen; omega) (by omega) (by simp; omega) ?_; intro v' w1 hown' hgrow _; have hb := below_append hB hsz hown hgrow; have ho := row_snoc (strV_extract s a k) hown'; clear hown' hgrow hown)
        go_roundw
        case rel => exact ⟨k + 1, k + 1, _, by go_num, by go_num, ho, hb, .inl ⟨by omega, by omega, HK.out⟩⟩
        case measure => simp [intOf]; omega
      · have hb1 : ((k : Int) == (s.size : Int)) = false := by simp; omega
        have hb2 : ((s[k].toNat : Int) == 47) = false := by
          rw [beq_eq_false_iff_ne]; intro h; exact h47 (by rw [← UInt8.toNat_inj]; simp; omega)
        have HK : Hid (Pl.split s.data.toList = D ++ Pl.splitTo ((s.data.toList.drop a).take (k + 1 - a)) (s.data.toList.drop (k + 1))) := by
          unfold Hid; rw [hk3, splitTo_miss s a k hlt hk2 h47]
        clear hk3 hk hsl
        go_wp2
        go_roundw
        case rel => exact ⟨k + 1, a, _, by go_num, rfl, hown, hB, .inl ⟨by omega, by omega, HK.out⟩⟩
        case measure => simp [intOf]; omega
    · by_cases heq : k = s.size
      · obtain ⟨hk1, hk2, hk3⟩ : k ≤ s.size ∧ a ≤ k ∧ Pl.split s.data.toList = D ++ Pl.splitTo ((s.data.toList.drop a).take (k - a)) (s.data.toList.drop k) := by rcases hk with h | ⟨h, _⟩; exact h; omega
        have hDl : D.length ≤ s.size + 1 := by rw [hk3] at hsl; simp at hsl; omega
        have hb1 : ((k : Int) == (s.size : Int)) = true := by simp; omega
        have hb3 : k ≤ s.size := by omega
        have HK : Hid (D ++ [(s.data.toList.drop a).take (k - a)] = Pl.split s.data.toList) := by
          unfold Hid; rw [hk3, splitTo_end s k heq]
        have HE : Hid (k = s.size) := heq
        clear hk3 hk hsl heq
        go_wp2_with (at_builtin; refine wpList_append_own _ rfl _ _ 23 rfl w.heap.size 9 i0 (.string ByteArray.empty) 1 16 Tryz.underlying23 hi hz0 hz1 hz2 rfl (by decide) _ _ _ rfl (hown.alloc _) ⟨wr.heap.size, 0, none⟩ 1 1 [.string (s.extract a k)] rfl rfl (cell_one_new _ _ _) (by simp [Value.oneCell']) (by unfold maxLen; omega) (by omega) (by simp; omega) ?_; intro v' w1 hown' hgrow _; have hb := below_append hB hsz hown hgrow; have ho := row_snoc (strV_extract s a k) hown'; clear hown' hgrow hown)
        go_roundw
        case rel => exact ⟨k + 1, k + 1, _, by go_num, by go_num, ho, hb, .inr ⟨by rw [HE.out], HK.out⟩⟩
        case measure => simp [intOf]; omega
      · have hD : D = Pl.split s.data.toList := by rcases hk with h | ⟨_, h⟩; omega; exact h
        have hk' : s.size < k := by omega
        have HD : Hid (D = Pl.split s.data.toList) := hD
        clear hk hD hsl
        go_wp2
        go_ret
        exact ⟨_, rfl, by rw [← HD.out]; exact hown, hB⟩

end Go.Proofs.YtimgafblpmjajaaGreat
namespace Go.Proofs.YtimgafblpmjajaaGreat

open Go.RowKit

/-- What a row of texts of the call's own looks like. -/
theorem row_shape {w : World} {base : Nat} {v : Value} {xs : List (List UInt8)} (h : w.ownsRow base 9 1 v xs.length (xs.map strV)) :
    ∃ a cap, v = .slice a xs.length cap ∧ xs.length ≤ cap ∧ cap ≤ maxLen ∧ ∀ k, (hk : k < xs.length) → ∃ g, a = some ⟨g, 0, none⟩ ∧ base ≤ g ∧ g < w.heap.size ∧ w.cell? ⟨g, k, none⟩ = some (strV xs[k]) := by
  have h0 := h
  obtain ⟨_, ⟨rfl, hn⟩ | ⟨g, cap, cur, rfl, hg, hh, hcap, hmax, _⟩⟩ := h
  · exact ⟨none, 0, by rw [hn], by omega, by decide, fun k hk => by omega⟩
  · refine ⟨_, cap, rfl, hcap, hmax, fun k hk => ⟨g, rfl, hg, (Array.getElem?_eq_some_iff.1 hh).1, ?_⟩⟩
    rw [h0.cellAt k (by omega)]
    simp [hk]

theorem joinS_take (xs : List (List UInt8)) (k : Nat) (hk : k < xs.length) : Pl.joinS (xs.take (k + 1)) = if k = 0 then xs[k] else Pl.joinS (xs.take k) ++ [47] ++ xs[k] := by
  rw [List.take_succ_eq_append_getElem hk]
  split
  · rename_i h; subst h; simp [Pl.joinS_one]
  · rw [Pl.joinS_snoc]
    intro h
    have h1 := congrArg List.length h
    rw [List.length_take, List.length_nil] at h1; omega

theorem joinS_len (xs : List (List UInt8)) : (Pl.joinS xs).length ≤ Pl.total xs := by
  cases xs with
  | nil => simp [Pl.joinS_nil]
  | cons x r =>
    unfold Pl.joinS
    rw [Lib.join_cons, List.length_append, Lib.joinTail_length]
    simp [Pl.total, Lib.lens]; omega
theorem total_take (xs : List (List UInt8)) (k : Nat) : Pl.total (xs.take k) ≤ Pl.total xs := by
  have := Lib.lens_take_le xs k
  simp only [Pl.total, List.length_take]; omega
theorem len_le_total (xs : List (List UInt8)) (k : Nat) (hk : k < xs.length) : xs[k].length ≤ Pl.total xs := by
  have h1 := Lib.lens_take_succ xs k xs[k] (by simp [hk])
  have h2 := Lib.lens_take_le xs (k + 1)
  simp only [Pl.total]; omega
theorem bytes_eq {a b : ByteArray} (h : a.data.toList = b.data.toList) : a = b := by
  apply ByteArray.ext; exact Array.toList_inj.1 h
theorem size_data (a : ByteArray) : a.size = a.data.toList.length := by simp

set_option maxHeartbeats 1000000 in
set_option maxRecDepth 100000 in
theorem l1joined_any (base : Nat) (v : Value) (xs : List (List UInt8)) (w : World) (hrow : w.ownsRow base 9 1 v xs.length (xs.map strV)) (hs : Pl.total xs ≤ 4194304) :
    Calls Tryz.prog 75 #[v] w fun e w' => e = .returned (strV (Pl.joinS xs)) ∧ w' = w := by
  obtain ⟨a, cap, rfl, hcap, hmax, hcell⟩ := row_shape hrow
  have hlen : xs.length ≤ 4194304 := by unfold Pl.total at hs; omega
  have HC := hcell
  have HC' : Hid (∀ k, (hk : k < xs.length) → ∃ g, a = some ⟨g, 0, none⟩ ∧ base ≤ g ∧ g < w.heap.size ∧ w.cell? ⟨g, k, none⟩ = some (strV xs[k])) := HC
  clear HC hcell hrow hmax
  go_enter Tryz.func75, Tryz.ntmps75
  go_wp2
  go_loop [3, 8] (fun o i => ∃ (k : Nat) (b : ByteArray), k ≤ xs.length ∧ i = .int .i64 k ∧ o = .string b ∧ Hid (b.data.toList = Pl.joinS (xs.take k))) (fun _ i => xs.length - (intOf i).toNat)
  case atStart => exact ⟨0, ⟨#[]⟩, Nat.zero_le _, rfl, rfl, by unfold Hid; simp [Pl.joinS_nil]⟩
  case round =>
    obtain ⟨k, b, hk, rfl, rfl, hb⟩ := hrel
    have hbs : b.size ≤ 4194304 := by
      rw [size_data, hb.out]
      have h1 := joinS_len (xs.take k)
      have h2 := total_take xs k
      omega
    by_cases hlt : k < xs.length
    · obtain ⟨g, rfl, _, _, hc⟩ := HC'.out k hlt
      obtain ⟨q, hq⟩ : ∃ q : ByteArray, q = ⟨xs[k].toArray⟩ := ⟨_, rfl⟩
      have hqd : q.data.toList = xs[k] := by rw [hq]
      have hqs : q.size ≤ 4194304 := by
        rw [size_data, hqd]; have := len_le_total xs k hlt; omega
      have hcq : w.cell? ⟨g, k, none⟩ = some (.string q) := by rw [hc, hq]; rfl
      have HQ : Hid (q.data.toList = xs[k]) := hqd
      clear hc hq hqd
      by_cases h0 : k = 0
      · subst h0
        have HF : Hid ((b ++ q).data.toList = Pl.joinS (xs.take (0 + 1))) := by
          unfold Hid
          rw [joinS_take xs 0 hlt, if_pos rfl, ByteArray.data_append, Array.toList_append, hb.out, HQ.out]
          simp [Pl.joinS_nil]
        go_wp2
        go_round
        case rel => exact ⟨0 + 1, b ++ q, by omega, by go_num, rfl, HF⟩
        case measure => simp [intOf]; omega
      · have hpos : 0 < k := by omega
        have HF : Hid ((b ++ ⟨#[47]⟩ ++ q).data.toList = Pl.joinS (xs.take (k + 1))) := by
          unfold Hid
          rw [joinS_take xs k hlt, if_neg h0, ByteArray.data_append, ByteArray.data_append, Array.toList_append, Array.toList_append, hb.out, HQ.out]
        clear h0
        go_wp2
        go_round
        case rel => exact ⟨k + 1, b ++ ⟨#[47]⟩ ++ q, by omega, by go_num, rfl, HF⟩
        case measure => simp [intOf]; omega
    · have hb2 : b.data.toList = Pl.joinS xs := by rw [hb.out, List.take_of_length_le (by omega)]
      have HB : Hid (b.data.toList = Pl.joinS xs) := hb2
      clear hb2 hb
      go_wp2
      go_ret
      refine ⟨?_, rfl⟩
      rw [← HB.out, strV_data]
      rfl

end Go.Proofs.YtimgafblpmjajaaGreat
namespace Go.Proofs.YtimgafblpmjajaaGreat

open Go.RowKit

theorem own_mono {w : World} {base base' : Nat} {e : TypeId} {size : Nat} {v : Value} {n : Nat} {xs : List Value} (h : w.ownsRow base e size v n xs) (hb : base' ≤ base) : w.ownsRow base' e size v n xs := by
  obtain ⟨h1, h2 | ⟨g, cap, cur, hv, hg, r⟩⟩ := h
  · exact ⟨h1, .inl h2⟩
  · exact ⟨h1, .inr ⟨g, cap, cur, hv, by omega, r⟩⟩

/-- 'append(out, x)' of one element of one cell, out nil or the call's own: and the row is the old one or a new one. -/
theorem wpList_app1 {P : Program} (w : World) {ops : Array Oper} {rest : List Oper} {o : Oper} {a : Act} {Q : Exit → Act → World → Prop}
    (hg : o.guard = none) (s x : Operand) (t : TypeId) (hop : o.op = Op.call { callee := Callee.builtin Builtin.append, args := #[s, x], argTypes := #[t, t] })
    (base : Nat) (e : TypeId) (i : TypeInfo) (z : Value) (bytes : Nat) (h1 : P.underlying t = some (.slice e)) (h2 : P.info? e = some i) (h3 : i.zero = some z) (h4 : i.size = 1) (h5 : i.bytes = bytes) (h6 : z.cells.size = 1)
    (v : Value) (n : Nat) (xs : List Value) (hs : a.eval s = v) (hown : w.ownsRow base e 1 v n xs)
    (ad : Addr) (c : Nat) (u : Value) (hx : a.eval x = .slice (some ad) 1 c) (hc : ∀ j u', [u][j]? = some u' → w.cell? (ad.add j) = some u') (h1c : u.oneCell' = true)
    (b1 : n + 1 ≤ maxLen) (b2 : (n + 1) * bytes ≤ 140737488355328) (hb : base ≤ w.heap.size)
    (hK : ∀ v' w', w'.ownsRow base e 1 v' (n + 1) (xs ++ [u]) → w.grownBy w' v.ownBlock → (v'.ownBlock = v.ownBlock ∨ ∃ g, v'.ownBlock = some g ∧ w.heap.size ≤ g) → wpList P ops Q rest (a.put o.dst v') w') :
    wpList P ops Q (o :: rest) a w := by
  have hcell1 : ∀ u' ∈ [u], u'.oneCell' = true := fun u' h => by simp at h; rw [h]; exact h1c
  have hgrows : ∀ (ao : Option Addr) (cap : Nat), v = .slice ao n cap → (ao = none → n = 0 ∧ cap = 0) → (∀ b, ao = some b → ∀ j u', xs[j]? = some u' → w.cell? (b.add j) = some u') → cap < n + 1 → wpList P ops Q (o :: rest) a w := by
    intro ao cap hv hnone holds hfull
    refine wpList_append_grows w hg s x t hop e i z 1 bytes h1 h2 h3 h4 h5 h6 (by decide) ao n cap xs (hs.trans hv) hnone hown.1 holds ad 1 c [u] hx rfl hc hcell1 hfull b1 b2 ?_
    intro v' w' ho hgr
    refine hK v' w' (own_mono ho hb) ⟨hgr.os, hgr.tape, hgr.output, hgr.size, fun k hk _ => hgr.block k hk (by simp)⟩ (.inr ?_)
    obtain ⟨_, ⟨_, h0⟩ | ⟨g, cap', cur, rfl, hge, _⟩⟩ := ho
    · omega
    · exact ⟨g, rfl, hge⟩
  rcases hown.2 with ⟨hv, hn⟩ | ⟨g, cap, cur, hv, hge, hh, hcap, hmax, hsz, htake⟩
  · exact hgrows none 0 (by rw [hv, hn]) (fun _ => ⟨hn, rfl⟩) (fun b h => by cases h) (by omega)
  · by_cases hroom : n + 1 ≤ cap
    · refine wpList_append_fits w hg s x t hop base e i 1 h1 h2 h4 g n cap xs (hs.trans hv) (hv ▸ hown) ad 1 c [u] hx rfl hc hcell1 hroom ?_
      intro w' ho hgr
      refine hK _ w' ho (by rw [hv]; exact hgr) (.inl (by rw [hv]; rfl))
    · exact hgrows (some ⟨g, 0, none⟩) cap hv (fun h => by cases h) (fun b h j u' hj => by
        cases h
        exact hown.cells (g := g) (by rw [hv]; rfl) j u' hj) (by omega)

/-- Two rows apart. -/
def Apart (v p : Value) : Prop := p.ownBlock = none ∨ p.ownBlock ≠ v.ownBlock

theorem Apart.app {w : World} {v v' p : Value} {base : Nat} {e : TypeId} {size n : Nat} {xs : List Value} (h : Apart v p) (hp : w.ownsRow base e size p n xs) (hn : v'.ownBlock = v.ownBlock ∨ ∃ g, v'.ownBlock = some g ∧ w.heap.size ≤ g) : Apart v' p := by
  rcases hn with hn | ⟨g, hg, hle⟩
  · unfold Apart; rw [hn]; exact h
  · cases hpb : p.ownBlock with
    | none => exact .inl hpb
    | some k =>
      right
      have := (hp.lt k hpb).2
      rw [hg, hpb]; intro e'; cases e'; omega

/-- What is owned stays owned while nothing below turns. -/
theorem own_below {w w' : World} {B base : Nat} {e : TypeId} {size : Nat} {v : Value} {n : Nat} {xs : List Value} (h : w.ownsRow base e size v n xs) (hB : Below B w w') (hlt : w.heap.size ≤ B) : w'.ownsRow base e size v n xs := by
  obtain ⟨h1, h2 | ⟨g, cap, cur, hv, hg, hh, r⟩⟩ := h
  · exact ⟨h1, .inl h2⟩
  · have hgl := (Array.getElem?_eq_some_iff.1 hh).1
    exact ⟨h1, .inr ⟨g, cap, cur, hv, hg, by rw [hB.block g (by omega)]; exact hh, r⟩⟩

theorem pop_row {w : World} {base : Nat} {v : Value} {D : List (List UInt8)} (hD : D ≠ []) (h : w.ownsRow base 9 1 v D.length (D.map strV)) :
    ∃ g cap, v = .slice (some ⟨g, 0, none⟩) D.length cap ∧ D.length ≤ cap ∧ w.ownsRow base 9 1 (.slice (some ⟨g, 0, none⟩) (D.length - 1) cap) D.dropLast.length (D.dropLast.map strV) := by
  have hpos : 0 < D.length := List.length_pos_iff.2 hD
  obtain ⟨h1, ⟨_, h0⟩ | ⟨g, cap, cur, rfl, hg, hh, hcap, hmax, hsz, htake⟩⟩ := h
  · omega
  · refine ⟨g, cap, rfl, hcap, ?_⟩
    rw [List.length_dropLast]
    refine ⟨by simp, .inr ⟨g, cap, cur, rfl, hg, hh, by omega, hmax, hsz, ?_⟩⟩
    rw [List.dropLast_eq_take, List.map_take, ← htake, List.take_take]
    congr 1; omega

end Go.Proofs.YtimgafblpmjajaaGreat
namespace Go.Proofs.YtimgafblpmjajaaGreat

open Go.RowKit

/-- A slice of texts that can be read. -/
def Strs (w : World) (v : Value) (L : List (List UInt8)) : Prop :=
  ∃ a cap, v = .slice a L.length cap ∧ L.length ≤ cap ∧ cap ≤ maxLen ∧ ∀ k, (hk : k < L.length) → ∃ b o, a = some ⟨b, o, none⟩ ∧ b < w.heap.size ∧ w.cell? ⟨b, o + k, none⟩ = some (strV L[k])

theorem Strs.of_row {w : World} {base : Nat} {v : Value} {xs : List (List UInt8)} (h : w.ownsRow base 9 1 v xs.length (xs.map strV)) : Strs w v xs := by
  obtain ⟨a, cap, hv, hcap, hmax, hc⟩ := row_shape h
  exact ⟨a, cap, hv, hcap, hmax, fun k hk => by obtain ⟨g, ha, _, hg, hcell⟩ := hc k hk; exact ⟨g, 0, ha, hg, by rw [Nat.zero_add]; exact hcell⟩⟩

theorem Strs.below {w w' : World} {B : Nat} {v : Value} {L : List (List UInt8)} (h : Strs w v L) (hb : Below B w w') (hB : w.heap.size ≤ B) : Strs w' v L := by
  obtain ⟨a, cap, hv, hcap, hmax, hc⟩ := h
  exact ⟨a, cap, hv, hcap, hmax, fun k hk => by
    obtain ⟨b, o, ha, hlt, hcell⟩ := hc k hk
    exact ⟨b, o, ha, Nat.lt_of_lt_of_le hlt hb.size, (hb.cell (p := ⟨b, o + k, none⟩) (Nat.lt_of_lt_of_le hlt hB)).trans hcell⟩⟩

def fits (L : List (List UInt8)) (k : Nat) (left : Int) : Int := left - L.length - Lib.lens (L.take k)

theorem lens_take1 (L : List (List UInt8)) (k : Nat) (hk : k < L.length) : Lib.lens (L.take (k + 1)) = Lib.lens (L.take k) + L[k].length := Lib.lens_take_succ L k L[k] (by simp [hk])

/-- A row on its way: the first k are copied. -/
def part (L : List (List UInt8)) (k : Nat) : List Value := (L.take k).map strV ++ List.replicate (L.length - k) (.string ByteArray.empty)
theorem part_zero (L : List (List UInt8)) : part L 0 = List.replicate L.length (.string ByteArray.empty) := by simp [part]
theorem part_all (L : List (List UInt8)) (k : Nat) (h : L.length ≤ k) : part L k = L.map strV := by
  unfold part; rw [List.take_of_length_le h, show L.length - k = 0 by omega]; simp
theorem part_set (L : List (List UInt8)) (k : Nat) (hk : k < L.length) : (part L k).set k (strV L[k]) = part L (k + 1) := by
  unfold part
  have h1 : ((L.take k).map strV).length = k := by simp; omega
  rw [List.set_append_right _ _ (by omega), h1, Nat.sub_self, show L.length - k = (L.length - (k + 1)) + 1 by omega, List.replicate_succ, List.set_cons_zero,
    List.take_succ_eq_append_getElem hk, List.map_append]
  simp

theorem made_strings (n : Nat) : (madeCells (Value.string ByteArray.empty).cells (n * 1)).toList = List.replicate n (.string ByteArray.empty) := by
  rw [Nat.mul_one]; exact toList_madeCells_one _ n

theorem drewN_cell (w : World) (n : Nat) (a : Addr) : (w.drewN n).cell? a = w.cell? a := rfl

/-- The decimal text of a number behind what has come. -/
def digs : Nat → Nat → List UInt8 → List UInt8
  | 0, _, acc => acc
  | f + 1, k, acc => if k = 0 then acc else digs f (k / 10) (UInt8.ofNat (48 + k % 10) :: acc)
theorem digs_zero (f : Nat) (acc : List UInt8) : digs f 0 acc = acc := by cases f <;> simp [digs]
theorem digs_stable : ∀ (f f' k : Nat) (acc : List UInt8), k ≤ f → k ≤ f' → digs f k acc = digs f' k acc := by
  intro f
  induction f with
  | zero => intro f' k acc h _; rw [show k = 0 by omega, digs_zero, digs_zero]
  | succ f ih =>
    intro f' k acc h h'
    by_cases hk : k = 0
    · rw [hk, digs_zero, digs_zero]
    · cases f' with
      | zero => omega
      | succ f' =>
        simp only [digs, hk, if_false]
        exact ih _ _ _ (by omega) (by omega)
theorem digs_step (k : Nat) (acc : List UInt8) (hk : 0 < k) : digs k k acc = digs (k / 10) (k / 10) (UInt8.ofNat (48 + k % 10) :: acc) := by
  cases k with
  | zero => omega
  | succ f =>
    simp only [digs, Nat.succ_ne_zero, if_false]
    exact digs_stable _ _ _ _ (by omega) (Nat.le_refl _)
/-- The mark of a place. -/
def mkT (k : Nat) : List UInt8 := 109 :: digs k k []

theorem digit_nat (k : Nat) : (UInt8.ofNat (48 + k % 10)).toNat = 48 + k % 10 := by
  rw [UInt8.toNat_ofNat']; omega

theorem digit_conv (k : Nat) (wr : World) : (convert 22 9 (.slice (some ⟨wr.heap.size, 0, none⟩) 1 1)).run Tryz.prog (wr.alloc (.cells #[.int .u8 (48 + (k : Int) % 10)] 5)) = .ok (.string ⟨#[UInt8.ofNat (48 + k % 10)]⟩) (wr.alloc (.cells #[.int .u8 (48 + (k : Int) % 10)] 5)) := by
  have h := run_convert_bytes_back (P := Tryz.prog) (wr.alloc (.cells #[.int .u8 (48 + (k : Int) % 10)] 5)) 22 9 5 ⟨wr.heap.size, 0, none⟩ 1 [UInt8.ofNat (48 + k % 10)] Tryz.underlying22 Tryz.underlying5 Tryz.underlying9 (fun j hj => by
    have hj0 : j = 0 := by simpa using hj
    subst hj0
    have e : ((UInt8.ofNat (48 + k % 10)).toNat : Int) = 48 + (k : Int) % 10 := by rw [digit_nat]; omega
    rw [List.getElem_singleton, e]
    simp [Addr.add])
  exact h

end Go.Proofs.YtimgafblpmjajaaGreat
namespace Go.Proofs.YtimgafblpmjajaaGreat

open Go.RowKit

theorem walkP_succ (R ps : List (List UInt8)) (j : Nat) (hj : j < ps.length) (h : (Pl.walkP R (ps.take j)).2 = 0) :
    Pl.walkP R (ps.take (j + 1)) = if (Pl.stepW (Pl.walkP R (ps.take j)).1 ps[j]).2 = 0 then (Pl.stepW (Pl.walkP R (ps.take j)).1 ps[j]) else ([], (Pl.stepW (Pl.walkP R (ps.take j)).1 ps[j]).2) := by
  rw [List.take_succ_eq_append_getElem hj, Pl.walkP_append, if_pos h]
  simp only [Pl.walkP]
  split
  · rename_i h2; rw [← h2]
  · rfl

/-- Once it goes wrong it stays so. -/
theorem walkP_stop (R ps : List (List UInt8)) (j : Nat) (h : (Pl.walkP R (ps.take j)).2 ≠ 0) : Pl.walkP R ps = Pl.walkP R (ps.take j) := by
  conv => lhs; rw [← List.take_append_drop j ps]
  rw [Pl.walkP_append, if_neg h]

set_option maxHeartbeats 2000000 in
set_option maxRecDepth 100000 in
theorem l1walk_any (base : Nat) (v0 : Value) (R : List (List UInt8)) (s : ByteArray) (w : World) (hrow : w.ownsRow base 9 1 v0 R.length (R.map strV)) (hR : Pl.total R ≤ 1048576) (hs : s.size ≤ 1048576) :
    Calls Tryz.prog 74 #[v0, .string s] w fun e w' => ∃ v, e = .returned (.tuple #[v, .int .i64 (Pl.walkP R (Pl.split s.data.toList)).2]) ∧
      w'.ownsRow w.heap.size 9 1 v (Pl.walkP R (Pl.split s.data.toList)).1.length ((Pl.walkP R (Pl.split s.data.toList)).1.map strV) ∧ Below w.heap.size w w' := by
  obtain ⟨i0, hi, hz0, hz1, hz2⟩ := info_parts Tryz.info9
  obtain ⟨a, cap, rfl, hcap, hmax, hcell⟩ := row_shape hrow
  have hRl : R.length ≤ 1048576 := by unfold Pl.total at hR; omega
  have HC : Hid (∀ k, (hk : k < R.length) → ∃ g, a = some ⟨g, 0, none⟩ ∧ base ≤ g ∧ g < w.heap.size ∧ w.cell? ⟨g, k, none⟩ = some (strV R[k])) := hcell
  clear hcell hrow hmax
  obtain ⟨P, hP⟩ : ∃ P, P = Pl.split s.data.toList := ⟨_, rfl⟩
  have hPt : Pl.total P = s.data.toList.length + 1 := by rw [hP]; exact Pl.total_split _
  rw [show s.data.toList.length = s.size by simp] at hPt
  have hPn : P ≠ [] := by rw [hP]; exact Pl.splitTo_ne _ _
  rw [← hP]
  have HP : Hid (P = Pl.split s.data.toList) := hP
  clear hP
  have hPl : P.length ≤ 1048577 := by unfold Pl.total at hPt; omega
  have hPp : 0 < P.length := List.length_pos_iff.2 hPn
  have HW : Hid (∀ j, (Pl.walkP R (P.take j)).1.length ≤ 2097153) := by
    intro j
    have h1 := Pl.total_walkP R (P.take j)
    have h2 := total_take P j
    have h3 : (Pl.walkP R (P.take j)).1.length ≤ Pl.total (Pl.walkP R (P.take j)).1 := by unfold Pl.total; omega
    omega
  have HL : Hid (∀ j, (h : j < P.length) → P[j].length ≤ 1048577) := fun j h => by have := len_le_total P j h; omega
  clear hPt hPn
  go_enter Tryz.func74, Tryz.ntmps74
  go_wp2
  go_loopw [6, 14] (fun v i wr => ∃ k : Nat, k ≤ R.length ∧ i = .int .i64 k ∧ wr.ownsRow w.heap.size 9 1 v (R.take k).length ((R.take k).map strV) ∧ Below w.heap.size w wr) (fun _ i _ => R.length - (intOf i).toNat)
  case atStart => exact ⟨0, Nat.zero_le _, rfl, World.ownsRow_nil _ _ _ _, Below.refl _ _⟩
  case round =>
    obtain ⟨k, hk, rfl, hown, hB⟩ := hrel
    have hsz := hB.size
    by_cases hlt : k < R.length
    · obtain ⟨g, rfl, _, hg, hc⟩ := HC.out k hlt
      have hcr : wr.cell? ⟨g, k, none⟩ = some (.string ⟨R[k].toArray⟩) := (hB.cell (p := ⟨g, k, none⟩) hg).trans hc
      have hkl : (R.take k).length = k := by rw [List.length_take]; omega
      have hkb : (R.take k).length ≤ 1048576 := by omega
      clear hc hkl
      go_wp2_with (at_builtin; refine wpList_append_own _ rfl _ _ 23 rfl w.heap.size 9 i0 (.string ByteArray.empty) 1 16 Tryz.underlying23 hi hz0 hz1 hz2 rfl (by decide) _ _ _ rfl (hown.alloc _) ⟨wr.heap.size, 0, none⟩ 1 1 [.string ⟨R[k].toArray⟩] rfl rfl (cell_one_new _ _ _) (by simp [Value.oneCell']) (by unfold maxLen; omega) (by omega) (by simp; omega) ?_; intro v' w1 hown' hgrow _; have hb := below_append hB hsz hown hgrow; have ho := row_snoc (p := R[k]) rfl hown'; clear hown' hgrow hown)
      rw [← List.take_succ_eq_append_getElem hlt] at ho
      go_roundw
      case rel => exact ⟨k + 1, by omega, by go_num, ho, hb⟩
      case measure => simp [intOf]; omega
    · have hkR : R.take k = R := List.take_of_length_le (by omega)
      rw [hkR] at hown
      clear hkR
      go_wp2_with fail
      refine (l1parts_any s _ hs).mono ?_
      rintro e w2 ⟨vp, rfl, hpr, hpb⟩
      rw [← HP.out] at hpr
      have hown2 := own_below hown hpb (Nat.le_refl _)
      have hB2 : Below w.heap.size w w2 := hB.trans (hpb.mono hsz)
      have hap : Apart u6 vp := by
        cases hv : vp.ownBlock with
        | none => exact .inl hv
        | some g =>
          right; rw [hv]; intro e'
          have h1 := (hown.lt g e'.symm).2
          have h2 := (hpr.lt g hv).1
          omega
      obtain ⟨ap, capp, rfl, hcapp, _, hcellp⟩ := row_shape hpr
      obtain ⟨gp, rfl, hgp, _, _⟩ := hcellp 0 hPp
      clear hcellp hown hpb hB
      go_wp2
      go_loopw [6, 26] (fun v i wr' => ∃ j : Nat, j ≤ P.length ∧ i = .int .i64 j ∧ (Pl.walkP R (P.take j)).2 = 0 ∧ wr'.ownsRow w.heap.size 9 1 v (Pl.walkP R (P.take j)).1.length ((Pl.walkP R (P.take j)).1.map strV) ∧ wr'.ownsRow w.heap.size 9 1 (.slice (some ⟨gp, 0, none⟩) P.length capp) P.length (P.map strV) ∧ Apart v (.slice (some ⟨gp, 0, none⟩) P.length capp) ∧ Below w.heap.size w wr') (fun _ i _ => P.length - (intOf i).toNat)
      case atStart => exact ⟨0, Nat.zero_le _, rfl, rfl, hown2, own_mono hpr hsz, hap, hB2⟩
      case round =>
        obtain ⟨j, hj, rfl, hz, hown, hprj, hapj, hB⟩ := hrel
        have hsz' := hB.size
        have hbl := HW.out j
        by_cases hlt : j < P.length
        · have HS := walkP_succ R P j hlt hz
          have hql := HL.out j hlt
          obtain ⟨D, hD⟩ : ∃ D, D = (Pl.walkP R (P.take j)).1 := ⟨_, rfl⟩
          rw [← hD] at hown hbl HS
          obtain ⟨p, hp⟩ : ∃ p, p = P[j] := ⟨_, rfl⟩
          rw [← hp] at HS hql
          have HS' : Hid (Pl.walkP R (P.take (j + 1)) = if (Pl.stepW D p).2 = 0 then Pl.stepW D p else ([], (Pl.stepW D p).2)) := HS
          obtain ⟨q, hq⟩ : ∃ q : ByteArray, q.data.toList = p := ⟨⟨p.toArray⟩, by simp⟩
          have hcq : wr.cell? ⟨gp, j, none⟩ = some (.string q) := by
            rw [hprj.cellAt j (by omega)]; simp [hlt, ← hp, ← hq, strV_data]
          have hqs : q.size ≤ 1048577 := by rw [size_data, hq]; exact hql
          have hql' : q.toList = p := by rw [Go.ByteArray.toList_eq, hq]
          clear HS hD hz hp hql
          obtain ⟨a6, cap6, rfl, hcap6, _, _⟩ := row_shape hown
          by_cases c1 : p = [46]
          · have t1 : (q.toList == [46]) = true := by rw [hql', c1]; rfl
            have HF : Hid (Pl.walkP R (P.take (j + 1)) = (D, 0)) := by unfold Hid; rw [HS'.out]; simp [Pl.stepW, c1]
            clear hql' hq c1
            go_wp2
            go_roundw
            case rel => exact ⟨j + 1, by omega, by go_num, by rw [HF.out], by rw [HF.out]; exact hown, hprj, hapj, hB⟩
            case measure => simp [intOf]; omega
          · have t1 : (q.toList == [46]) = false := by rw [hql']; simpa using c1
            by_cases c2 : p = [46, 46]
            · have t2 : (q.toList == [46, 46]) = true := by rw [hql', c2]; rfl
              by_cases c3 : D = []
              · have t3 : ((D.length : Int) == 0) = true := by rw [c3]; rfl
                have HF : Hid (Pl.walkP R P = ([], 2)) := by
                  have h2 : Pl.walkP R (P.take (j + 1)) = ([], 2) := by rw [HS'.out]; simp [Pl.stepW, c2, c3]
                  unfold Hid; rw [walkP_stop R P (j + 1) (by rw [h2]; decide), h2]
                clear hql' hq c1 c2 c3
                go_wp2
                go_ret2
                exact ⟨_, by rw [HF.out]; rfl, by rw [HF.out]; exact World.ownsRow_nil _ _ _ _, hB⟩
              · have hDp : 0 < D.length := List.length_pos_iff.2 c3
                have t3 : ((D.length : Int) == 0) = false := by rw [beq_eq_false_iff_ne]; omega
                have HF : Hid (Pl.walkP R (P.take (j + 1)) = (D.dropLast, 0)) := by unfold Hid; rw [HS'.out]; simp [Pl.stepW, c2, c3]
                obtain ⟨g6, cap6', hv6, _, hpop⟩ := pop_row c3 hown
                cases hv6
                clear hql' hq c1 c2 c3
                go_wp2
                go_roundw
                case rel => exact ⟨j + 1, by omega, by go_num, by rw [HF.out], by rw [HF.out]; exact hpop, hprj, hapj, hB⟩
                case measure => simp [intOf]; omega
            · have t2 : (q.toList == [46, 46]) = false := by rw [hql']; simpa using c2
              by_cases c3 : p = []
              · have t3 : q.toList.isEmpty = true := by rw [hql', c3]; rfl
                have HF : Hid (Pl.walkP R P = ([], 1)) := by
                  have h2 : Pl.walkP R (P.take (j + 1)) = ([], 1) := by rw [HS'.out]; simp [Pl.stepW, c3, Pl.plainP]
                  unfold Hid; rw [walkP_stop R P (j + 1) (by rw [h2]; decide), h2]
                clear hql' hq c1 c2 c3
                go_wp2
                go_ret2
                exact ⟨_, by rw [HF.out]; rfl, by rw [HF.out]; exact World.ownsRow_nil _ _ _ _, hB⟩
              · have t3 : q.toList.isEmpty = false := by rw [hql']; simpa using c3
                have HG : Hid (p.all Pl.okB = true → Pl.walkP R (P.take (j + 1)) = (D ++ [p], 0)) := fun h => by
                  rw [HS'.out]; simp [Pl.stepW, c1, c2, Pl.plainP, c3, h]
                have HN : Hid (p.all Pl.okB = false → Pl.walkP R P = ([], 1)) := fun h => by
                  have h2 : Pl.walkP R (P.take (j + 1)) = ([], 1) := by rw [HS'.out]; simp [Pl.stepW, c1, c2, Pl.plainP, h]
                  rw [walkP_stop R P (j + 1) (by rw [h2]; decide), h2]
                have HQ : Hid (q.data.toList = p) := hq
                clear hql' hq c1 c2 c3 HS'
                go_wp2
                go_loop [11] (fun i => ∃ k : Nat, k ≤ q.size ∧ i = .int .i64 k ∧ (q.data.toList.take k).all Pl.okB = true) (fun i => q.size - (intOf i).toNat)
                case atStart => exact ⟨0, Nat.zero_le _, rfl, rfl⟩
                case round =>
                  obtain ⟨k, hk, rfl, hall⟩ := hrel
                  by_cases hkq : k < q.size
                  · cases hok : Pl.okB q[k] with
                    | true =>
                      have HA : Hid ((q.data.toList.take (k + 1)).all Pl.okB = true) := by unfold Hid; rw [take_snoc q k hkq, List.all_append, hall]; simp [hok]
                      clear hall
                      go_wp2_with (go_at_call 82; refine (l1byte_any _ _).mono ?_; rintro e w' ⟨rfl, rfl⟩)
                      go_round
                      case rel => exact ⟨k + 1, by omega, by go_num, HA.out⟩
                      case measure => simp [intOf]; omega
                    | false =>
                      have HF : Hid (Pl.walkP R P = ([], 1)) := HN.out (by
                        rw [← HQ.out, List.all_eq_false]
                        exact ⟨q[k], by show q.data[k] ∈ q.data.toList; simp, by simp [hok]⟩)
                      clear hall
                      go_wp2_with (go_at_call 82; refine (l1byte_any _ _).mono ?_; rintro e w' ⟨rfl, rfl⟩)
                      go_ret2
                      exact ⟨_, by rw [HF.out]; rfl, by rw [HF.out]; exact World.ownsRow_nil _ _ _ _, hB⟩
                  · have HF : Hid (Pl.walkP R (P.take (j + 1)) = (D ++ [p], 0)) := HG.out (by
                      rw [List.take_of_length_le (by rw [← size_data]; omega)] at hall
                      rw [← HQ.out]; exact hall)
                    clear hall
                    go_wp2_with (at_builtin; refine wpList_app1 _ rfl _ _ 23 rfl w.heap.size 9 i0 (.string ByteArray.empty) 16 Tryz.underlying23 hi hz0 hz1 hz2 rfl _ _ _ rfl (hown.alloc _) ⟨wr.heap.size, 0, none⟩ 1 (.string q) rfl (cell_one_new _ _ _) (by simp [Value.oneCell']) (by unfold maxLen; omega) (by omega) (by simp; omega) ?_; intro v' w1 hown' hgrow hsep; have hb := below_append hB hsz' hown hgrow; have hap' := hapj.app (hprj.alloc _) hsep; have hpr' := (hprj.alloc _).kept hgrow hapj; have ho := row_snoc (p := p) (by rw [← HQ.out, strV_data]) hown'; clear hown' hgrow hown hsep)
                    go_roundw
                    case rel => exact ⟨j + 1, by omega, by go_num, by rw [HF.out], by rw [HF.out]; exact ho, hpr', hap', hb⟩
                    case measure => simp [intOf]; omega
        · have hjP : P.take j = P := List.take_of_length_le (by omega)
          rw [hjP] at hown hz
          have HZ : Hid ((Pl.walkP R P).2 = 0) := hz
          clear hz hjP
          go_wp2
          go_ret2
          exact ⟨_, by rw [HZ.out]; rfl, hown, hB⟩

end Go.Proofs.YtimgafblpmjajaaGreat
namespace Go.Proofs.YtimgafblpmjajaaGreat

open Go.RowKit

theorem bcell {W w1 : World} (hb : Below W.heap.size W w1) : (∀ b o, b < W.heap.size → w1.cell? ⟨b, o, none⟩ = W.cell? ⟨b, o, none⟩) ∧ (∀ b o, b < W.heap.size → w1.frozen? ⟨b, o, none⟩ = W.frozen? ⟨b, o, none⟩) :=
  ⟨fun b o h => hb.cell (p := ⟨b, o, none⟩) h, fun b o h => hb.frozen (p := ⟨b, o, none⟩) h⟩

theorem below_one {w w1 : World} {o : Obj} (hb : Below (w.alloc o).heap.size (w.alloc o) w1) : Below w.heap.size w w1 :=
  ((Below.refl _ _).alloc (Nat.le_refl _) _).trans (hb.mono (by simp))
theorem below_set2 {w w1 : World} {o : Obj} (hb : Below (w.alloc o).heap.size (w.alloc o) w1) (u0 u1 : Value) : Below w.heap.size w ((w1.setCell ⟨w.heap.size, 0, none⟩ u0).setCell ⟨w.heap.size, 1, none⟩ u1) :=
  ((below_one hb).setCell (p := ⟨w.heap.size, 0, none⟩) (Nat.le_refl _) _).setCell (p := ⟨w.heap.size, 1, none⟩) (Nat.le_refl _) _

/-- A name's answer as a value. -/
def namedV (r : Int × List UInt8) : Value := .agg #[.int .i64 r.1, strV r.2]

set_option maxHeartbeats 1000000 in
set_option maxRecDepth 100000 in
theorem l1named_any (base : Nat) (v0 : Value) (R : List (List UInt8)) (s : ByteArray) (w : World) (hrow : w.ownsRow base 9 1 v0 R.length (R.map strV)) (hR : Pl.total R ≤ 1048576) (hs : s.size ≤ 1048576) :
    Calls Tryz.prog 63 #[v0, .string s] w fun e w' => e = .returned (namedV (Pl.nm R s.data.toList)) ∧ Below w.heap.size w w' := by
  by_cases h60 : 60 < s.size
  · have hn : Pl.nm R s.data.toList = (3, []) := by unfold Pl.nm; rw [if_pos (by rw [← size_data]; exact h60)]
    rw [hn]
    clear hn hrow
    go_enter Tryz.func63, Tryz.ntmps63
    go_wp2
    exact bodyPost_ret (v := namedV (3, [])) (by simp [results, Tryz.results63, go_sem, namedV, strV]) rfl ⟨rfl, (Below.refl _ _).alloc (Nat.le_refl _) _⟩
  · have hn : Pl.nm R s.data.toList = Pl.fin (Pl.walkP R (Pl.split s.data.toList)) := by unfold Pl.nm; rw [if_neg (by rw [← size_data]; exact h60)]
    have ht := Pl.total_walkP R (Pl.split s.data.toList)
    have hts := Pl.total_split s.data.toList
    rw [← size_data] at hts
    obtain ⟨r, hr⟩ : ∃ r, r = Pl.walkP R (Pl.split s.data.toList) := ⟨_, rfl⟩
    rw [hn, ← hr]
    rw [← hr] at ht
    have hrt : Pl.total r.1 ≤ 4194304 := by omega
    have HR : Hid (r = Pl.walkP R (Pl.split s.data.toList)) := hr
    have hrow1 := hrow.alloc (.cells #[.int .i64 0, .string ⟨#[]⟩] 118)
    clear hn ht hr hrow hts
    by_cases hr0 : r.2 = 0
    · obtain ⟨t, ht⟩ : ∃ t : ByteArray, t.data.toList = Pl.joinS r.1 := ⟨⟨(Pl.joinS r.1).toArray⟩, by simp⟩
      have HT : Hid (strV (Pl.joinS r.1) = .string t) := by unfold Hid; rw [← ht, strV_data]
      have hts : t.size ≤ 4194304 := by rw [size_data, ht]; have := joinS_len r.1; omega
      have hb0 : (r.2 == 0) = true := by simpa using hr0
      by_cases hj : Pl.joinS r.1 = []
      · have hfin : Pl.fin r = (1, []) := by unfold Pl.fin; rw [if_pos hr0, if_pos hj]
        have hte : t.toList.isEmpty = true := by rw [Go.ByteArray.toList_eq, ht, hj]; rfl
        rw [hfin]
        clear hfin ht hj
        go_enter Tryz.func63, Tryz.ntmps63
        go_wp2_with fail
        refine (l1walk_any base v0 R s _ hrow1 hR hs).mono ?_
        rw [← HR.out]
        rintro e w1 ⟨v, rfl, hown, hb⟩
        obtain ⟨hc, hf⟩ := bcell hb
        have hz : w.heap.size + 1 ≤ w1.heap.size := by have := hb.size; simp at this; omega
        go_wp2_with (go_at_call 75; refine (l1joined_any _ v r.1 _ hown hrt).mono ?_; rw [HT.out]; rintro e w' ⟨rfl, rfl⟩)
        exact bodyPost_ret (v := namedV (1, [])) (by simp [results, Tryz.results63, go_sem, namedV, strV, hc]) rfl ⟨rfl, below_set2 hb _ _⟩
      · have hte : t.toList.isEmpty = false := by rw [Go.ByteArray.toList_eq, ht]; simpa using hj
        by_cases hl' : 60 < (Pl.joinS r.1).length
        · have hfin : Pl.fin r = (3, []) := by unfold Pl.fin; rw [if_pos hr0, if_neg hj, if_pos hl']
          have htl : 60 < t.size := by rw [size_data, ht]; exact hl'
          rw [hfin]
          clear hfin ht hj hl'
          go_enter Tryz.func63, Tryz.ntmps63
          go_wp2_with fail
          refine (l1walk_any base v0 R s _ hrow1 hR hs).mono ?_
          rw [← HR.out]
          rintro e w1 ⟨v, rfl, hown, hb⟩
          obtain ⟨hc, hf⟩ := bcell hb
          have hz : w.heap.size + 1 ≤ w1.heap.size := by have := hb.size; simp at this; omega
          go_wp2_with (go_at_call 75; refine (l1joined_any _ v r.1 _ hown hrt).mono ?_; rw [HT.out]; rintro e w' ⟨rfl, rfl⟩)
          exact bodyPost_ret (v := namedV (3, [])) (by simp [results, Tryz.results63, go_sem, namedV, strV, hc]) rfl ⟨rfl, below_set2 hb _ _⟩
        · have hfin : Pl.fin r = (0, Pl.joinS r.1) := by unfold Pl.fin; rw [if_pos hr0, if_neg hj, if_neg hl']
          have htl : ¬ 60 < t.size := by rw [size_data, ht]; exact hl'
          rw [hfin]
          clear hfin ht hj hl'
          go_enter Tryz.func63, Tryz.ntmps63
          go_wp2_with fail
          refine (l1walk_any base v0 R s _ hrow1 hR hs).mono ?_
          rw [← HR.out]
          rintro e w1 ⟨v, rfl, hown, hb⟩
          obtain ⟨hc, hf⟩ := bcell hb
          have hz : w.heap.size + 1 ≤ w1.heap.size := by have := hb.size; simp at this; omega
          go_wp2_with (go_at_call 75; refine (l1joined_any _ v r.1 _ hown hrt).mono ?_; rw [HT.out]; rintro e w' ⟨rfl, rfl⟩)
          exact bodyPost_ret (v := namedV (0, Pl.joinS r.1)) (by simp [results, Tryz.results63, go_sem, namedV, HT.out, hc]) rfl ⟨rfl, below_set2 hb _ _⟩
    · have hfin : Pl.fin r = (r.2, []) := by unfold Pl.fin; rw [if_neg hr0]
      have hb0 : (r.2 == 0) = false := by simpa using hr0
      rw [hfin]
      clear hfin
      go_enter Tryz.func63, Tryz.ntmps63
      go_wp2_with fail
      refine (l1walk_any base v0 R s _ hrow1 hR hs).mono ?_
      rw [← HR.out]
      rintro e w1 ⟨v, rfl, hown, hb⟩
      obtain ⟨hc, hf⟩ := bcell hb
      have hz : w.heap.size + 1 ≤ w1.heap.size := by have := hb.size; simp at this; omega
      go_wp2
      exact bodyPost_ret (v := namedV (r.2, [])) (by simp [results, Tryz.results63, go_sem, namedV, strV, hc]) rfl ⟨rfl, below_set2 hb _ _⟩

set_option maxHeartbeats 1000000 in
set_option maxRecDepth 100000 in
theorem specClean_any (s : ByteArray) (w : World) (hs : s.size ≤ 1048576) :
    Calls Tryz.prog 48 #[.string s] w fun e w' => e = .returned (namedV (Pl.nm [] s.data.toList)) ∧ Below w.heap.size w w' := by
  obtain ⟨c, x, hn⟩ : ∃ c x, Pl.nm [] s.data.toList = (c, x) := ⟨_, _, rfl⟩
  have HN : Hid (Pl.nm [] s.data.toList = (c, x)) := hn
  rw [hn]
  clear hn
  go_enter Tryz.func48, Tryz.ntmps48
  go_wp2_with fail
  refine (l1named_any 0 (.slice none 0 0) [] s _ (World.ownsRow_nil _ _ _ _) (by decide) hs).mono ?_
  rw [HN.out]
  rintro e w1 ⟨rfl, hb⟩
  obtain ⟨hc, hf⟩ := bcell hb
  unfold namedV strV
  go_wp2
  exact bodyPost_ret (v := namedV (c, x)) (by simp [results, Tryz.results48, go_sem, namedV, strV, hc]) rfl ⟨rfl, below_set2 hb _ _⟩

end Go.Proofs.YtimgafblpmjajaaGreat
namespace Go.Proofs.YtimgafblpmjajaaGreat

open Go.RowKit

/-- A line, a module, a world, as plain data. -/
structure Ln where
  op : Int
  name : List UInt8
  num : Int
  skip : Int
structure Md where
  name : List UInt8
  lines : List Ln
structure Wd where
  roots : List (List UInt8)
  mods : List Md
  faults : List Int

def i64V (x : Int) : Value := .int .i64 x

/-- A slice of numbers that can be read. -/
def Nums (w : World) (v : Value) (L : List Int) : Prop :=
  ∃ a cap, v = .slice a L.length cap ∧ L.length ≤ cap ∧ cap ≤ maxLen ∧ ∀ k, (hk : k < L.length) → ∃ b o, a = some ⟨b, o, none⟩ ∧ b < w.heap.size ∧ w.cell? ⟨b, o + k, none⟩ = some (.int .i64 L[k])

/-- A slice of lines that can be read. -/
def Lns (w : World) (v : Value) (L : List Ln) : Prop :=
  ∃ a cap, v = .slice a L.length cap ∧ L.length ≤ cap ∧ cap ≤ maxLen ∧ ∀ k, (hk : k < L.length) → ∃ b o, a = some ⟨b, o, none⟩ ∧ b < w.heap.size ∧
    w.cell? ⟨b, o + k * 4, none⟩ = some (.int .i64 L[k].op) ∧ w.cell? ⟨b, o + k * 4 + 1, none⟩ = some (strV L[k].name) ∧ w.cell? ⟨b, o + k * 4 + 2, none⟩ = some (.int .i64 L[k].num) ∧ w.cell? ⟨b, o + k * 4 + 3, none⟩ = some (.int .i64 L[k].skip)

/-- A slice of modules that can be read. -/
def Mds (w : World) (v : Value) (M : List Md) : Prop :=
  ∃ a cap, v = .slice a M.length cap ∧ M.length ≤ cap ∧ cap ≤ maxLen ∧ ∀ k, (hk : k < M.length) → ∃ b o s, a = some ⟨b, o, none⟩ ∧ b < w.heap.size ∧
    w.cell? ⟨b, o + k * 2, none⟩ = some (strV M[k].name) ∧ w.cell? ⟨b, o + k * 2 + 1, none⟩ = some s ∧ Lns w s M[k].lines

/-- A world that can be read. -/
def Wds (w : World) (v : Value) (D : Wd) : Prop :=
  ∃ r m f, v = .agg #[r, m, f] ∧ Strs w r D.roots ∧ Mds w m D.mods ∧ Nums w f D.faults

theorem Nums.below {w w' : World} {B : Nat} {v : Value} {L : List Int} (h : Nums w v L) (hb : Below B w w') (hB : w.heap.size ≤ B) : Nums w' v L := by
  obtain ⟨a, cap, hv, hcap, hmax, hc⟩ := h
  exact ⟨a, cap, hv, hcap, hmax, fun k hk => by
    obtain ⟨b, o, ha, hlt, hcell⟩ := hc k hk
    exact ⟨b, o, ha, Nat.lt_of_lt_of_le hlt hb.size, (hb.cell (p := ⟨b, o + k, none⟩) (Nat.lt_of_lt_of_le hlt hB)).trans hcell⟩⟩
theorem Lns.below {w w' : World} {B : Nat} {v : Value} {L : List Ln} (h : Lns w v L) (hb : Below B w w') (hB : w.heap.size ≤ B) : Lns w' v L := by
  obtain ⟨a, cap, hv, hcap, hmax, hc⟩ := h
  exact ⟨a, cap, hv, hcap, hmax, fun k hk => by
    obtain ⟨b, o, ha, hlt, h0, h1, h2, h3⟩ := hc k hk
    have hl := Nat.lt_of_lt_of_le hlt hB
    exact ⟨b, o, ha, Nat.lt_of_lt_of_le hlt hb.size, (hb.cell (p := ⟨b, o + k * 4, none⟩) hl).trans h0, (hb.cell (p := ⟨b, o + k * 4 + 1, none⟩) hl).trans h1, (hb.cell (p := ⟨b, o + k * 4 + 2, none⟩) hl).trans h2, (hb.cell (p := ⟨b, o + k * 4 + 3, none⟩) hl).trans h3⟩⟩
theorem Mds.below {w w' : World} {B : Nat} {v : Value} {L : List Md} (h : Mds w v L) (hb : Below B w w') (hB : w.heap.size ≤ B) : Mds w' v L := by
  obtain ⟨a, cap, hv, hcap, hmax, hc⟩ := h
  exact ⟨a, cap, hv, hcap, hmax, fun k hk => by
    obtain ⟨b, o, s, ha, hlt, h0, h1, h2⟩ := hc k hk
    have hl := Nat.lt_of_lt_of_le hlt hB
    exact ⟨b, o, s, ha, Nat.lt_of_lt_of_le hlt hb.size, (hb.cell (p := ⟨b, o + k * 2, none⟩) hl).trans h0, (hb.cell (p := ⟨b, o + k * 2 + 1, none⟩) hl).trans h1, h2.below hb hB⟩⟩
theorem Wds.below {w w' : World} {B : Nat} {v : Value} {D : Wd} (h : Wds w v D) (hb : Below B w w') (hB : w.heap.size ≤ B) : Wds w' v D := by
  obtain ⟨r, m, f, hv, h1, h2, h3⟩ := h
  exact ⟨r, m, f, hv, h1.below hb hB, h2.below hb hB, h3.below hb hB⟩

/-- How much a thing takes. -/
def Ln.t (l : Ln) : Nat := l.name.length
def lnsT (L : List Ln) : Nat := L.length + (L.map Ln.t).sum
def Md.t (m : Md) : Nat := m.name.length + lnsT m.lines
def mdsT (M : List Md) : Nat := M.length + (M.map Md.t).sum
def Wd.t (D : Wd) : Nat := Pl.total D.roots + mdsT D.mods + D.faults.length
def Ln.ok (l : Ln) : Prop := l.name.length ≤ maxLen
def Md.ok (m : Md) : Prop := m.name.length ≤ maxLen ∧ ∀ l ∈ m.lines, l.ok
def Wd.ok (D : Wd) : Prop := (∀ l ∈ D.roots, l.length ≤ maxLen) ∧ ∀ m ∈ D.mods, m.ok
/-- What is left. -/
def leftOf (t left : Nat) : Int := if t ≤ left then (left : Int) - t else -1

/-- A line as a value. -/
def lnV (l : Ln) : Value := .agg #[.int .i64 l.op, strV l.name, .int .i64 l.num, .int .i64 l.skip]

theorem sum_take1 (L : List Nat) (k : Nat) (hk : k < L.length) : (L.take (k + 1)).sum = (L.take k).sum + L[k] := by
  rw [List.take_succ_eq_append_getElem hk, List.sum_append]; simp
theorem sum_take_le (L : List Nat) (k : Nat) : (L.take k).sum ≤ L.sum := by
  conv => rhs; rw [← List.take_append_drop k L, List.sum_append]
  omega

/-- A loop that takes away: what it leaves after k rounds. -/
theorem leftOf_step {t left : Nat} (h : t ≤ left) : leftOf t left = ((left - t : Nat) : Int) := by
  unfold leftOf; rw [if_pos h]; omega

/-- A module as a value. -/
def mdV (n : List UInt8) (s : Value) : Value := .agg #[strV n, s]

end Go.Proofs.YtimgafblpmjajaaGreat
namespace Go.Proofs.YtimgafblpmjajaaGreat

open Go.RowKit

theorem Strs.slice {w : World} {v : Value} {L : List (List UInt8)} (h : Strs w v L) : ∃ a cap, v = .slice a L.length cap := by obtain ⟨a, cap, rfl, _⟩ := h; exact ⟨a, cap, rfl⟩
theorem Nums.slice {w : World} {v : Value} {L : List Int} (h : Nums w v L) : ∃ a cap, v = .slice a L.length cap := by obtain ⟨a, cap, rfl, _⟩ := h; exact ⟨a, cap, rfl⟩
theorem Lns.slice {w : World} {v : Value} {L : List Ln} (h : Lns w v L) : ∃ a cap, v = .slice a L.length cap := by obtain ⟨a, cap, rfl, _⟩ := h; exact ⟨a, cap, rfl⟩
theorem Mds.slice {w : World} {v : Value} {L : List Md} (h : Mds w v L) : ∃ a cap, v = .slice a L.length cap := by obtain ⟨a, cap, rfl, _⟩ := h; exact ⟨a, cap, rfl⟩

theorem leftOf_neg {t left : Nat} (h : ¬ t ≤ left) : leftOf t left = -1 := by rw [leftOf, if_neg h]

end Go.Proofs.YtimgafblpmjajaaGreat
namespace Go.Proofs.YtimgafblpmjajaaGreat

open Go.RowKit

theorem Tryz.info57 : (Tryz.prog.info? 56).map (fun i => (i.zero, i.size, i.bytes)) = some (some (.agg #[.int .i64 0, .string ByteArray.empty, .int .i64 0, .int .i64 0]), 4, 40) := by kernel_rfl
theorem Tryz.info55 : (Tryz.prog.info? 39).map (fun i => (i.zero, i.size, i.bytes)) = some (some (.agg #[.string ByteArray.empty, .slice none 0 0]), 2, 40) := by kernel_rfl
theorem Tryz.info3 : (Tryz.prog.info? 3).map (fun i => (i.zero, i.size, i.bytes)) = some (some (.int .i64 0), 1, 8) := by kernel_rfl

theorem strV_of (l : List UInt8) : ∃ s : ByteArray, strV l = .string s := ⟨_, rfl⟩

/-- A slice whose row lies from a block on. -/
def vfrom (base : Nat) (v : Value) : Prop := ∀ b o s n c, v = .slice (some ⟨b, o, s⟩) n c → base ≤ b

theorem set4_same {X : List Value} {n k : Nat} {a b c d : Value} (hX : X.length = n * 4) (hk : k < n) :
    ((((X.set (k * 4) a).set (k * 4 + 1) b).set (k * 4 + 2) c).set (k * 4 + 3) d)[k * 4]? = some a ∧ ((((X.set (k * 4) a).set (k * 4 + 1) b).set (k * 4 + 2) c).set (k * 4 + 3) d)[k * 4 + 1]? = some b ∧
    ((((X.set (k * 4) a).set (k * 4 + 1) b).set (k * 4 + 2) c).set (k * 4 + 3) d)[k * 4 + 2]? = some c ∧ ((((X.set (k * 4) a).set (k * 4 + 1) b).set (k * 4 + 2) c).set (k * 4 + 3) d)[k * 4 + 3]? = some d := by
  refine ⟨?_, ?_, ?_, ?_⟩ <;> simp [List.getElem?_set] <;> omega
theorem set4_other {a b c d : Value} (X : List Value) {j k : Nat} (h : j ≠ k) (i : Nat) (hi : i < 4) :
    ((((X.set (k * 4) a).set (k * 4 + 1) b).set (k * 4 + 2) c).set (k * 4 + 3) d)[j * 4 + i]? = X[j * 4 + i]? := by
  rw [List.getElem?_set_ne (by omega), List.getElem?_set_ne (by omega), List.getElem?_set_ne (by omega), List.getElem?_set_ne (by omega)]

theorem lns_of_row {W : World} {base g n : Nat} {X : List Value} {L : List Ln} (h : W.ownsRow base 56 4 (.slice (some ⟨g, 0, none⟩) L.length n) L.length X) (hn : n ≤ maxLen)
    (hX : ∀ j (hj : j < L.length), X[j * 4]? = some (.int .i64 L[j].op) ∧ X[j * 4 + 1]? = some (strV L[j].name) ∧ X[j * 4 + 2]? = some (.int .i64 L[j].num) ∧ X[j * 4 + 3]? = some (.int .i64 L[j].skip)) :
    Lns W (.slice (some ⟨g, 0, none⟩) L.length n) L := by
  have hc := h.cellAt
  have hg : L.length ≤ n ∧ g < W.heap.size := by
    rcases h.2 with ⟨h', _⟩ | ⟨g', cap', cur, h', _, hg, hc, _⟩
    · cases h'
    · cases h'; exact ⟨hc, (Array.getElem?_eq_some_iff.1 hg).1⟩
  refine ⟨_, n, rfl, hg.1, hn, fun k hk => ⟨g, 0, rfl, hg.2, ?_, ?_, ?_, ?_⟩⟩
  all_goals rw [Nat.zero_add, hc _ (by omega)]
  · exact (hX k hk).1
  · exact (hX k hk).2.1
  · exact (hX k hk).2.2.1
  · exact (hX k hk).2.2.2

end Go.Proofs.YtimgafblpmjajaaGreat
namespace Go.Proofs.YtimgafblpmjajaaGreat

open Go.RowKit

theorem below_alloc2 {w : World} (o1 o2 : Obj) : Below w.heap.size w ((w.alloc o1).alloc o2) := ((Below.refl _ _).alloc (Nat.le_refl _) _).alloc (by simp) _
theorem below_alloc3 {w : World} (o1 o2 o3 : Obj) : Below w.heap.size w (((w.alloc o1).alloc o2).alloc o3) := (below_alloc2 o1 o2).alloc (by simp; omega) _

theorem vfrom.mono {a b : Nat} {v : Value} (h : vfrom a v) (hb : b ≤ a) : vfrom b v := fun x o s n c e => Nat.le_trans hb (h x o s n c e)

theorem cell_far (w : World) (p a : Addr) (v : Value) (h : p.block ≠ a.block) : (w.setCell p v).cell? a = w.cell? a := World.cell?_setCell_other w p a v (fun e => h (by rw [e]))

theorem Lns.setCell {w : World} {v : Value} {L : List Ln} {B : Nat} (h : Lns w v L) (hv : vfrom (B + 1) v) (o : Nat) (u : Value) : Lns (w.setCell ⟨B, o, none⟩ u) v L := by
  obtain ⟨a, cap, rfl, hcap, hmax, hc⟩ := h
  refine ⟨a, cap, rfl, hcap, hmax, fun k hk => ?_⟩
  obtain ⟨b, o', rfl, hb, h0, h1, h2, h3⟩ := hc k hk
  have hne : B ≠ b := by have := hv b o' none _ _ rfl; omega
  exact ⟨b, o', rfl, by simpa [World.setCell] using hb, by rw [cell_far _ _ _ _ hne]; exact h0, by rw [cell_far _ _ _ _ hne]; exact h1, by rw [cell_far _ _ _ _ hne]; exact h2, by rw [cell_far _ _ _ _ hne]; exact h3⟩

theorem below_cell0 {w w' : World} {B b o : Nat} (h : Below B w w') (hb : b < B) {u : Value} (hc : w.cell? ⟨b, o, none⟩ = some u) : w'.cell? ⟨b, o, none⟩ = some u := (h.cell (p := ⟨b, o, none⟩) hb).trans hc
theorem below_frz {w w' : World} {B b o : Nat} (h : Below B w w') (hb : b < B) {u : Bool} (hc : w.frozen? ⟨b, o, none⟩ = u) : w'.frozen? ⟨b, o, none⟩ = u := (h.frozen (p := ⟨b, o, none⟩) hb).trans hc

end Go.Proofs.YtimgafblpmjajaaGreat
namespace Go.Proofs.YtimgafblpmjajaaGreat

open Go.RowKit

theorem set2_same {X : List Value} {n k : Nat} {a b : Value} (hX : X.length = n * 2) (hk : k < n) :
    ((X.set (k * 2) a).set (k * 2 + 1) b)[k * 2]? = some a ∧ ((X.set (k * 2) a).set (k * 2 + 1) b)[k * 2 + 1]? = some b := by
  refine ⟨?_, ?_⟩ <;> simp [List.getElem?_set] <;> omega
theorem set2_other {a b : Value} (X : List Value) {j k : Nat} (h : j ≠ k) (i : Nat) (hi : i < 2) :
    ((X.set (k * 2) a).set (k * 2 + 1) b)[j * 2 + i]? = X[j * 2 + i]? := by
  rw [List.getElem?_set_ne (by omega), List.getElem?_set_ne (by omega)]

theorem own_lt {W : World} {base g n cap size : Nat} {t : TypeId} {X : List Value} (h : W.ownsRow base t size (.slice (some ⟨g, 0, none⟩) n cap) n X) : n ≤ cap ∧ g < W.heap.size := by
  rcases h.2 with ⟨h', _⟩ | ⟨g', cap', cur, h', _, hg, hc, _⟩
  · cases h'
  · cases h'; exact ⟨hc, (Array.getElem?_eq_some_iff.1 hg).1⟩

/-- A slice of modules all of whose rows lie from a block on. -/
def Mdf (base : Nat) (w : World) (v : Value) (M : List Md) : Prop :=
  ∃ a cap, v = .slice a M.length cap ∧ M.length ≤ cap ∧ cap ≤ maxLen ∧ ∀ k, (hk : k < M.length) → ∃ b o s, a = some ⟨b, o, none⟩ ∧ base ≤ b ∧ b < w.heap.size ∧
    w.cell? ⟨b, o + k * 2, none⟩ = some (strV M[k].name) ∧ w.cell? ⟨b, o + k * 2 + 1, none⟩ = some s ∧ Lns w s M[k].lines ∧ vfrom base s

theorem Mdf.mds {base : Nat} {w : World} {v : Value} {M : List Md} (h : Mdf base w v M) : Mds w v M := by
  obtain ⟨a, cap, hv, hcap, hmax, hc⟩ := h
  exact ⟨a, cap, hv, hcap, hmax, fun k hk => by obtain ⟨b, o, s, ha, _, hb, h0, h1, h2, _⟩ := hc k hk; exact ⟨b, o, s, ha, hb, h0, h1, h2⟩⟩
theorem Mdf.slice {base : Nat} {w : World} {v : Value} {M : List Md} (h : Mdf base w v M) : ∃ a cap, v = .slice a M.length cap := h.mds.slice
theorem Mdf.below {base : Nat} {w w' : World} {B : Nat} {v : Value} {L : List Md} (h : Mdf base w v L) (hb : Below B w w') (hB : w.heap.size ≤ B) : Mdf base w' v L := by
  obtain ⟨a, cap, hv, hcap, hmax, hc⟩ := h
  exact ⟨a, cap, hv, hcap, hmax, fun k hk => by
    obtain ⟨b, o, s, ha, hbb, hlt, h0, h1, h2, h3⟩ := hc k hk
    have hl := Nat.lt_of_lt_of_le hlt hB
    exact ⟨b, o, s, ha, hbb, Nat.lt_of_lt_of_le hlt hb.size, (hb.cell (p := ⟨b, o + k * 2, none⟩) hl).trans h0, (hb.cell (p := ⟨b, o + k * 2 + 1, none⟩) hl).trans h1, h2.below hb hB, h3⟩⟩
theorem Mdf.setCell {base : Nat} {w : World} {v : Value} {L : List Md} {B : Nat} (h : Mdf base w v L) (hB : B < base) (o : Nat) (u : Value) : Mdf base (w.setCell ⟨B, o, none⟩ u) v L := by
  obtain ⟨a, cap, rfl, hcap, hmax, hc⟩ := h
  refine ⟨a, cap, rfl, hcap, hmax, fun k hk => ?_⟩
  obtain ⟨b, o', s, rfl, hbb, hb, h0, h1, h2, h3⟩ := hc k hk
  have hne : B ≠ b := by omega
  exact ⟨b, o', s, rfl, hbb, by simpa [World.setCell] using hb, by rw [cell_far _ _ _ _ hne]; exact h0, by rw [cell_far _ _ _ _ hne]; exact h1, h2.setCell (h3.mono hB) _ _, h3⟩
theorem Nums.setCell {w : World} {v : Value} {L : List Int} {B : Nat} (h : Nums w v L) (hv : vfrom (B + 1) v) (o : Nat) (u : Value) : Nums (w.setCell ⟨B, o, none⟩ u) v L := by
  obtain ⟨a, cap, rfl, hcap, hmax, hc⟩ := h
  refine ⟨a, cap, rfl, hcap, hmax, fun k hk => ?_⟩
  obtain ⟨b, o', rfl, hb, h0⟩ := hc k hk
  have hne : B ≠ b := by have := hv b o' none _ _ rfl; omega
  exact ⟨b, o', rfl, by simpa [World.setCell] using hb, by rw [cell_far _ _ _ _ hne]; exact h0⟩
theorem Strs.setCell {w : World} {v : Value} {L : List (List UInt8)} {B : Nat} (h : Strs w v L) (hv : vfrom (B + 1) v) (o : Nat) (u : Value) : Strs (w.setCell ⟨B, o, none⟩ u) v L := by
  obtain ⟨a, cap, rfl, hcap, hmax, hc⟩ := h
  refine ⟨a, cap, rfl, hcap, hmax, fun k hk => ?_⟩
  obtain ⟨b, o', rfl, hb, h0⟩ := hc k hk
  have hne : B ≠ b := by have := hv b o' none _ _ rfl; omega
  exact ⟨b, o', rfl, by simpa [World.setCell] using hb, by rw [cell_far _ _ _ _ hne]; exact h0⟩
theorem vfrom_row {w : World} {base : Nat} {e : TypeId} {size : Nat} {v : Value} {n : Nat} {xs : List Value} (h : w.ownsRow base e size v n xs) : vfrom base v := by
  intro b o s m c hv
  rcases h.2 with ⟨h', _⟩ | ⟨g', cap', cur, h', hb, _⟩
  · rw [h'] at hv; cases hv
  · rw [h'] at hv; cases hv; exact hb

theorem mdf_of_row {W : World} {base g n : Nat} {X : List Value} {L : List Md} (h : W.ownsRow base 39 2 (.slice (some ⟨g, 0, none⟩) L.length n) L.length X) (hn : n ≤ maxLen) (hbg : base ≤ g)
    (hX : ∀ j (hj : j < L.length), ∃ s, X[j * 2]? = some (strV L[j].name) ∧ X[j * 2 + 1]? = some s ∧ Lns W s L[j].lines ∧ vfrom (g + 1) s) :
    Mdf base W (.slice (some ⟨g, 0, none⟩) L.length n) L := by
  have hc := h.cellAt
  have hg := own_lt h
  refine ⟨_, n, rfl, hg.1, hn, fun k hk => ?_⟩
  obtain ⟨s, h0, h1, h2, h3⟩ := hX k hk
  refine ⟨g, 0, s, rfl, hbg, hg.2, ?_, ?_, h2, h3.mono (by omega)⟩
  all_goals rw [Nat.zero_add, hc _ (by omega)]
  · exact h0
  · exact h1

theorem nums_of_row {W : World} {base g n : Nat} {X : List Value} {L : List Int} (h : W.ownsRow base 3 1 (.slice (some ⟨g, 0, none⟩) L.length n) L.length X) (hn : n ≤ maxLen)
    (hX : ∀ j (hj : j < L.length), X[j]? = some (.int .i64 L[j])) : Nums W (.slice (some ⟨g, 0, none⟩) L.length n) L := by
  have hc := h.cellAt
  have hg := own_lt h
  refine ⟨_, n, rfl, hg.1, hn, fun k hk => ⟨g, 0, rfl, hg.2, ?_⟩⟩
  rw [Nat.zero_add, hc _ (by omega)]
  exact hX k hk

end Go.Proofs.YtimgafblpmjajaaGreat
namespace Go.Proofs.YtimgafblpmjajaaGreat

open Go.RowKit

theorem Strs.grow {w w' : World} {v : Value} {L : List (List UInt8)} (h : Strs w v L) (hb : Below w.heap.size w w') : Strs w' v L := h.below hb (Nat.le_refl _)

theorem mem_le_sum : ∀ (L : List Nat) (x : Nat), x ∈ L → x ≤ L.sum
  | [], _, h => by cases h
  | y :: r, x, h => by
    rw [List.sum_cons]
    rcases List.mem_cons.1 h with rfl | h
    · omega
    · have := mem_le_sum r x h; omega

/-- A cell of a block that a step has not touched. -/
theorem set_far {w : World} {b o b' o' : Nat} {u v : Value} (h : w.cell? ⟨b', o', none⟩ = some v) (hne : b ≠ b' ∨ o ≠ o') : (w.setCell ⟨b, o, none⟩ u).cell? ⟨b', o', none⟩ = some v := by
  rw [World.cell?_setCell_other w _ _ _ (fun e => by cases e; rcases hne with h | h <;> exact h rfl)]; exact h
theorem set_at {w : World} {b o : Nat} {u v : Value} (h : w.cell? ⟨b, o, none⟩ = some v) : (w.setCell ⟨b, o, none⟩ u).cell? ⟨b, o, none⟩ = some u := World.cell?_setCell_same' _ _ _ (by rw [h]; rfl)

/-- What holds of a value as long as nothing below is touched stays so behind a store at a new block. -/
theorem below_set {w w' : World} {b o : Nat} (u : Value) (hb : Below w.heap.size w w') (h : w.heap.size ≤ b) : Below w.heap.size w (w'.setCell ⟨b, o, none⟩ u) := hb.setCell (p := ⟨b, o, none⟩) h u

theorem Lns.set {w : World} {v : Value} {L : List Ln} {B o : Nat} {u : Value} (W : World) (h : Lns W v L) (hb : Below W.heap.size W w) (hB : W.heap.size ≤ B) : Lns (w.setCell ⟨B, o, none⟩ u) v L := h.below (hb.setCell (p := ⟨B, o, none⟩) hB u) (Nat.le_refl _)

end Go.Proofs.YtimgafblpmjajaaGreat
namespace Go.Proofs.YtimgafblpmjajaaGreat

open Go.RowKit
end Go.Proofs.YtimgafblpmjajaaGreat
namespace Go.Proofs.YtimgafblpmjajaaGreat

open Go.RowKit
theorem below_drewN {B : Nat} {w w' : World} (h : Below B w w') (n : Nat) : Below B w (w'.drewN n) := h.trans ⟨rfl, rfl, rfl, Nat.le_refl _, fun _ _ => rfl⟩

/-- A fault as a value. -/
def wrongV (r : Int × Int × Int) : Value := .agg #[.int .i64 r.1, .int .i64 r.2.1, .int .i64 r.2.2]

end Go.Proofs.YtimgafblpmjajaaGreat
namespace Go.Proofs.YtimgafblpmjajaaGreat

open Go.RowKit

/-- A line as the table says, the i-th of n. -/
def okLn (n i : Nat) (l : Ln) : Bool :=
  if l.op = 1 ∨ l.op = 2 ∨ l.op = 6 then decide (l.name = []) && decide (l.skip = 0)
  else if l.op = 3 ∨ l.op = 4 ∨ l.op = 5 then decide (l.num = 0) && decide (l.name.length ≤ 120) && decide (l.skip = 0)
  else if l.op = 7 then decide (l.num = 0) && decide (l.name.length ≤ 120) && decide (0 ≤ l.skip) && decide (l.skip ≤ (n : Int) - 1 - i)
  else false

theorem str_empty (s : ByteArray) (l : List UInt8) (h : s = ⟨l.toArray⟩) : s.toList.isEmpty = decide (l = []) := by
  rw [h, Go.ByteArray.toList_eq]; cases l <;> simp

theorem toList_nil (s : ByteArray) : s.toList = [] → s.size = 0 := by
  rw [Go.ByteArray.toList_eq]; intro h; rw [size_data, h]; rfl

set_option maxHeartbeats 4000000 in
set_option maxRecDepth 100000 in
theorem l2line_any (n : List UInt8) (a : Option Addr) (N cap i : Nat) (l : Ln) (w : World) (hN : N ≤ 1048576) (hi : i ≤ 1048576) (hl : l.name.length ≤ 1048576) :
    Calls Tryz.prog 49 #[mdV n (.slice a N cap), lnV l, .int .i64 i] w fun e w' => e = .returned (.bool (okLn N i l)) ∧ Below w.heap.size w w' := by
  unfold mdV lnV
  obtain ⟨m, hm⟩ := strV_of n
  rw [hm]
  clear hm
  obtain ⟨s, hs⟩ : ∃ s : ByteArray, s = ⟨l.name.toArray⟩ := ⟨_, rfl⟩
  have hsv : strV l.name = .string s := by rw [hs]; rfl
  have hsz : s.size = l.name.length := by rw [hs]; simp [ByteArray.size]
  have hse := str_empty s l.name hs
  rw [hsv]
  obtain ⟨op, name, num, skip⟩ := l
  simp only [] at *
  clear hs hsv
  obtain ⟨r, hr⟩ : ∃ r, r = okLn N i ⟨op, name, num, skip⟩ := ⟨_, rfl⟩
  rw [← hr]
  by_cases h1 : op = 1
  · subst h1
    simp (config := { decide := true }) only [okLn, if_true, if_false, ← hse, ← hsz] at hr
    have HR : Hid (r = (s.toList.isEmpty && decide (skip = 0))) := hr
    clear hr hse hsz
    go_enter Tryz.func49, Tryz.ntmps49
    go_wp2
    all_goals go_ret
    all_goals refine ⟨ret_bool ?_, below_alloc2 _ _⟩
    all_goals rw [HR.out]
    all_goals (have hE := toList_nil s; simp_all)
    all_goals (first | omega | (rw [Bool.eq_iff_iff]; simp; done) | (rw [Bool.eq_iff_iff]; simp [show s.size ≤ 120 by omega]; done))
  by_cases h2 : op = 2
  · subst h2
    simp (config := { decide := true }) only [okLn, if_true, if_false, ← hse, ← hsz] at hr
    have HR : Hid (r = (s.toList.isEmpty && decide (skip = 0))) := hr
    clear hr hse hsz
    go_enter Tryz.func49, Tryz.ntmps49
    go_wp2
    all_goals go_ret
    all_goals refine ⟨ret_bool ?_, below_alloc2 _ _⟩
    all_goals rw [HR.out]
    all_goals (have hE := toList_nil s; simp_all)
    all_goals (first | omega | (rw [Bool.eq_iff_iff]; simp; done) | (rw [Bool.eq_iff_iff]; simp [show s.size ≤ 120 by omega]; done))
  by_cases h6 : op = 6
  · subst h6
    simp (config := { decide := true }) only [okLn, if_true, if_false, ← hse, ← hsz] at hr
    have HR : Hid (r = (s.toList.isEmpty && decide (skip = 0))) := hr
    clear hr hse hsz
    go_enter Tryz.func49, Tryz.ntmps49
    go_wp2
    all_goals go_ret
    all_goals refine ⟨ret_bool ?_, below_alloc2 _ _⟩
    all_goals rw [HR.out]
    all_goals (have hE := toList_nil s; simp_all)
    all_goals (first | omega | (rw [Bool.eq_iff_iff]; simp; done) | (rw [Bool.eq_iff_iff]; simp [show s.size ≤ 120 by omega]; done))
  by_cases h3 : op = 3
  · subst h3
    simp (config := { decide := true }) only [okLn, if_true, if_false, ← hse, ← hsz] at hr
    have HR : Hid (r = (decide (num = 0) && decide (s.size ≤ 120) && decide (skip = 0))) := hr
    clear hr hse hsz
    go_enter Tryz.func49, Tryz.ntmps49
    go_wp2
    all_goals go_ret
    all_goals refine ⟨ret_bool ?_, below_alloc2 _ _⟩
    all_goals rw [HR.out]
    all_goals (have hE := toList_nil s; simp_all)
    all_goals (first | omega | (rw [Bool.eq_iff_iff]; simp; done) | (rw [Bool.eq_iff_iff]; simp [show s.size ≤ 120 by omega]; done))
  by_cases h4 : op = 4
  · subst h4
    simp (config := { decide := true }) only [okLn, if_true, if_false, ← hse, ← hsz] at hr
    have HR : Hid (r = (decide (num = 0) && decide (s.size ≤ 120) && decide (skip = 0))) := hr
    clear hr hse hsz
    go_enter Tryz.func49, Tryz.ntmps49
    go_wp2
    all_goals go_ret
    all_goals refine ⟨ret_bool ?_, below_alloc2 _ _⟩
    all_goals rw [HR.out]
    all_goals (have hE := toList_nil s; simp_all)
    all_goals (first | omega | (rw [Bool.eq_iff_iff]; simp; done) | (rw [Bool.eq_iff_iff]; simp [show s.size ≤ 120 by omega]; done))
  by_cases h5 : op = 5
  · subst h5
    simp (config := { decide := true }) only [okLn, if_true, if_false, ← hse, ← hsz] at hr
    have HR : Hid (r = (decide (num = 0) && decide (s.size ≤ 120) && decide (skip = 0))) := hr
    clear hr hse hsz
    go_enter Tryz.func49, Tryz.ntmps49
    go_wp2
    all_goals go_ret
    all_goals refine ⟨ret_bool ?_, below_alloc2 _ _⟩
    all_goals rw [HR.out]
    all_goals (have hE := toList_nil s; simp_all)
    all_goals (first | omega | (rw [Bool.eq_iff_iff]; simp; done) | (rw [Bool.eq_iff_iff]; simp [show s.size ≤ 120 by omega]; done))
  by_cases h7 : op = 7
  · subst h7
    simp (config := { decide := true }) only [okLn, if_true, if_false, ← hse, ← hsz] at hr
    have HR : Hid (r = (decide (num = 0) && decide (s.size ≤ 120) && decide (0 ≤ skip) && decide (skip ≤ (N : Int) - 1 - i))) := hr
    clear hr hse hsz
    go_enter Tryz.func49, Tryz.ntmps49
    go_wp2
    all_goals go_ret
    all_goals refine ⟨ret_bool ?_, below_alloc2 _ _⟩
    all_goals rw [HR.out]
    all_goals (have hE := toList_nil s; simp_all)
    all_goals (first | omega | (rw [Bool.eq_iff_iff]; simp; done) | (rw [Bool.eq_iff_iff]; simp [show s.size ≤ 120 by omega]; done))
  have hrf : r = false := by rw [hr, okLn, if_neg (by simp only []; omega), if_neg (by simp only []; omega), if_neg (by simp only []; omega)]
  subst hrf
  have n1 : (op == 1) = false := by simpa using h1
  have n2 : (op == 2) = false := by simpa using h2
  have n3 : (op == 3) = false := by simpa using h3
  have n4 : (op == 4) = false := by simpa using h4
  have n5 : (op == 5) = false := by simpa using h5
  have n6 : (op == 6) = false := by simpa using h6
  have n7 : (op == 7) = false := by simpa using h7
  clear hr hse hsz
  by_cases hlo : op < 1
  · clear h1 h2 h3 h4 h5 h6 h7
    go_enter Tryz.func49, Tryz.ntmps49
    go_wp2
    all_goals go_ret
    all_goals exact ⟨rfl, below_alloc2 _ _⟩
  · have hhi : 7 < op := by omega
    clear h1 h2 h3 h4 h5 h6 h7
    go_enter Tryz.func49, Tryz.ntmps49
    go_wp2
    all_goals go_ret
    all_goals exact ⟨rfl, below_alloc2 _ _⟩

end Go.Proofs.YtimgafblpmjajaaGreat
namespace Go.Proofs.YtimgafblpmjajaaGreat

open Go.RowKit

/-- The first i from 0 on, below n, at which p says yes; n for none. -/
def firstN (p : Nat → Bool) : Nat → Nat → Nat
  | 0, i => i
  | f + 1, i => if p i then i else firstN p f (i + 1)
theorem firstN_skip (p : Nat → Bool) : ∀ (d f i : Nat), (∀ j, i ≤ j → j < i + d → p j = false) → firstN p (d + f) i = firstN p f (i + d)
  | 0, f, i, _ => by rw [Nat.zero_add, Nat.add_zero]
  | d + 1, f, i, h => by
    rw [Nat.succ_add, firstN, h i (Nat.le_refl _) (by omega), if_neg (by decide), firstN_skip p d f (i + 1) (fun j h1 h2 => h j (by omega) (by omega)), Nat.add_right_comm, Nat.add_assoc]
theorem firstN_hit {p : Nat → Bool} {n k : Nat} (hk : k < n) (hall : ∀ j, j < k → p j = false) (hp : p k = true) : firstN p n 0 = k := by
  obtain ⟨f, rfl⟩ : ∃ f, n = k + (f + 1) := ⟨n - k - 1, by omega⟩
  rw [firstN_skip p k (f + 1) 0 (fun j _ h => hall j (by omega)), Nat.zero_add, firstN, if_pos hp]
theorem firstN_none {p : Nat → Bool} {n : Nat} (hall : ∀ j, j < n → p j = false) : firstN p n 0 = n := by
  have := firstN_skip p n 0 0 (fun j _ h => hall j (by omega))
  rw [Nat.add_zero] at this
  rw [this, Nat.zero_add, firstN]

/-- A name in its one form. -/
def isN (s : List UInt8) : Bool := decide ((Pl.nm [] s).1 = 0) && decide ((Pl.nm [] s).2 = s)
theorem nm_code (s : List UInt8) (h : (Pl.nm [] s).1 ≠ 0) : (Pl.nm [] s).2 = [] := by
  unfold Pl.nm at h ⊢
  split
  · rfl
  · rename_i h60
    rw [if_neg h60] at h
    unfold Pl.fin at h ⊢
    split
    · rename_i h0
      rw [if_pos h0] at h
      split
      · rfl
      · rename_i hj
        rw [if_neg hj] at h
        split
        · rfl
        · rename_i h6
          rw [if_neg h6] at h
          exact absurd rfl h
    · rfl
def oddRoot (r : List UInt8) : Bool := decide (r ≠ []) && !isN r
theorem oddRoot_spec (r : List UInt8) : oddRoot r = (decide (r ≠ []) && decide ((Pl.nm [] r).2 ≠ r)) := by
  unfold oddRoot isN
  by_cases hr : r = []
  · simp [hr]
  · by_cases hc : (Pl.nm [] r).1 = 0
    · simp [hc]
    · have := nm_code r hc
      rw [this]
      simp [hc, hr]

/-- Faults that ascend behind 'last', below 400. -/
def asc : Int → List Int → Bool
  | _, [] => true
  | last, f :: r => if f ≤ last ∨ 400 ≤ f then false else asc f r
def ascTo (L : List Int) (k : Nat) : Option Int := if asc (-1) (L.take k) then some (if k = 0 then -1 else (L[k - 1]?).getD 0) else none

/-- The i-th module is none that may stand there. -/
def badMd (M : List Md) (i : Nat) : Bool :=
  match M[i]? with
  | none => false
  | some m => !isN m.name || decide (60 < m.lines.length) || (M.take i).any (fun k => decide (k.name = m.name))
def badLn (L : List Ln) (i : Nat) : Bool :=
  match L[i]? with
  | none => false
  | some l => !okLn L.length i l
def badLns (M : List Md) (i : Nat) : Bool :=
  match M[i]? with
  | none => false
  | some m => decide (firstN (badLn m.lines) m.lines.length 0 < m.lines.length)
/-- The first fault of a world. -/
def wok (D : Wd) : Int × Int × Int :=
  if 60 < D.mods.length ∨ 8 < D.roots.length ∨ 400 < D.faults.length then (1, 0, 0)
  else if D.roots.any oddRoot then (2, 0, 0)
  else if !asc (-1) D.faults then (3, 0, 0)
  else if firstN (badMd D.mods) D.mods.length 0 < D.mods.length then (4, (firstN (badMd D.mods) D.mods.length 0 : Nat), 0)
  else match D.mods[firstN (badLns D.mods) D.mods.length 0]? with
    | none => (0, 0, 0)
    | some m => (5, (firstN (badLns D.mods) D.mods.length 0 : Nat), (firstN (badLn m.lines) m.lines.length 0 : Nat))

theorem badMd_at {M : List Md} {i : Nat} (hi : i < M.length) : badMd M i = (!isN M[i].name || decide (60 < M[i].lines.length) || (M.take i).any (fun k => decide (k.name = M[i].name))) := by
  unfold badMd; rw [List.getElem?_eq_getElem hi]
theorem badLn_at {L : List Ln} {i : Nat} (hi : i < L.length) : badLn L i = !okLn L.length i L[i] := by
  unfold badLn; rw [List.getElem?_eq_getElem hi]
theorem badLns_at {M : List Md} {i : Nat} (hi : i < M.length) : badLns M i = decide (firstN (badLn M[i].lines) M[i].lines.length 0 < M[i].lines.length) := by
  unfold badLns; rw [List.getElem?_eq_getElem hi]

theorem wok_1 {D : Wd} (h : 60 < D.mods.length ∨ 8 < D.roots.length ∨ 400 < D.faults.length) : wok D = (1, 0, 0) := by unfold wok; rw [if_pos h]
theorem wok_2 {D : Wd} (h : ¬ (60 < D.mods.length ∨ 8 < D.roots.length ∨ 400 < D.faults.length)) (h2 : D.roots.any oddRoot = true) : wok D = (2, 0, 0) := by unfold wok; rw [if_neg h, if_pos h2]
theorem wok_3 {D : Wd} (h : ¬ (60 < D.mods.length ∨ 8 < D.roots.length ∨ 400 < D.faults.length)) (h2 : D.roots.any oddRoot = false) (h3 : asc (-1) D.faults = false) : wok D = (3, 0, 0) := by
  unfold wok; rw [if_neg h, if_neg (by rw [h2]; decide), if_pos (by rw [h3]; rfl)]
theorem wok_4 {D : Wd} (h : ¬ (60 < D.mods.length ∨ 8 < D.roots.length ∨ 400 < D.faults.length)) (h2 : D.roots.any oddRoot = false) (h3 : asc (-1) D.faults = true) {k : Nat} (hk : k < D.mods.length) (hf : firstN (badMd D.mods) D.mods.length 0 = k) : wok D = (4, (k : Int), 0) := by
  unfold wok; rw [if_neg h, if_neg (by rw [h2]; decide), if_neg (by rw [h3]; decide), hf, if_pos hk]
theorem wok_5 {D : Wd} (h : ¬ (60 < D.mods.length ∨ 8 < D.roots.length ∨ 400 < D.faults.length)) (h2 : D.roots.any oddRoot = false) (h3 : asc (-1) D.faults = true) (h4 : firstN (badMd D.mods) D.mods.length 0 = D.mods.length)
    {k : Nat} (hk : k < D.mods.length) (hf : firstN (badLns D.mods) D.mods.length 0 = k) : wok D = (5, (k : Int), ((firstN (badLn D.mods[k].lines) D.mods[k].lines.length 0 : Nat) : Int)) := by
  unfold wok; rw [if_neg h, if_neg (by rw [h2]; decide), if_neg (by rw [h3]; decide), h4, if_neg (by omega), hf, List.getElem?_eq_getElem hk]
theorem wok_0 {D : Wd} (h : ¬ (60 < D.mods.length ∨ 8 < D.roots.length ∨ 400 < D.faults.length)) (h2 : D.roots.any oddRoot = false) (h3 : asc (-1) D.faults = true) (h4 : firstN (badMd D.mods) D.mods.length 0 = D.mods.length)
    (h5 : firstN (badLns D.mods) D.mods.length 0 = D.mods.length) : wok D = (0, 0, 0) := by
  unfold wok; rw [if_neg h, if_neg (by rw [h2]; decide), if_neg (by rw [h3]; decide), h4, if_neg (by omega), h5, List.getElem?_eq_none (Nat.le_refl _)]

/-- Faults, round by round. -/
theorem asc_snoc (last : Int) (L : List Int) (f : Int) (hlast : asc last L = true) : asc last (L ++ [f]) = if f ≤ (L.getLastD last) ∨ 400 ≤ f then false else true := by
  induction L generalizing last with
  | nil => simp [asc]
  | cons x r ih =>
    simp only [asc] at hlast
    split at hlast
    · cases hlast
    · rename_i hx
      rw [List.cons_append, asc, if_neg hx, ih x hlast]
      simp only [List.getLastD_cons]
theorem asc_append_false (last : Int) (L R : List Int) (h : asc last L = false) : asc last (L ++ R) = false := by
  induction L generalizing last with
  | nil => simp [asc] at h
  | cons x r ih =>
    simp only [asc] at h
    rw [List.cons_append, asc]
    split
    · rfl
    · rename_i hx; rw [if_neg hx] at h; exact ih x h
end Go.Proofs.YtimgafblpmjajaaGreat
namespace Go.Proofs.YtimgafblpmjajaaGreat

open Go.RowKit

/-- The argument in its box, the answer's cells at their zeros. -/
structure Bx (n : Nat) (w : World) (vr vm vf : Value) : Prop where
  p0 : w.cell? ⟨n, 0, none⟩ = some vr
  p1 : w.cell? ⟨n, 1, none⟩ = some vm
  p2 : w.cell? ⟨n, 2, none⟩ = some vf
  r0 : w.cell? ⟨n + 1, 0, none⟩ = some (.int .i64 0)
  r1 : w.cell? ⟨n + 1, 1, none⟩ = some (.int .i64 0)
  r2 : w.cell? ⟨n + 1, 2, none⟩ = some (.int .i64 0)
  f0 : w.frozen? ⟨n + 1, 0, none⟩ = false
  f1 : w.frozen? ⟨n + 1, 1, none⟩ = false
  f2 : w.frozen? ⟨n + 1, 2, none⟩ = false
theorem Bx.below {n B : Nat} {w w' : World} {vr vm vf : Value} (h : Bx n w vr vm vf) (hb : Below B w w') (hB : n + 2 ≤ B) : Bx n w' vr vm vf :=
  ⟨below_cell0 hb (by omega) h.p0, below_cell0 hb (by omega) h.p1, below_cell0 hb (by omega) h.p2, below_cell0 hb (by omega) h.r0, below_cell0 hb (by omega) h.r1, below_cell0 hb (by omega) h.r2, below_frz hb (by omega) h.f0, below_frz hb (by omega) h.f1, below_frz hb (by omega) h.f2⟩

theorem str_ne {s t : ByteArray} {a b : List UInt8} (hs : s.data.toList = a) (ht : t.data.toList = b) (h : a ≠ b) : s ≠ t := fun e => h (by rw [← hs, ← ht, e])
theorem str_eq {s t : ByteArray} {a : List UInt8} (hs : s.data.toList = a) (ht : t.data.toList = a) : s = t := by
  cases s; cases t; congr 1; exact Array.toList_inj.1 (hs.trans ht.symm)
theorem str_beq {s t : ByteArray} {a b : List UInt8} (hs : s.data.toList = a) (ht : t.data.toList = b) : (s.toList == t.toList) = decide (a = b) := by
  rw [Go.ByteArray.toList_eq, Go.ByteArray.toList_eq, hs, ht, Bool.eq_iff_iff]; simp
theorem below_ret {w W w1 : World} (hWB : Below w.heap.size w W) (hB1 : Below (w.heap.size + 2) W w1) (a b c : Value) :
    Below w.heap.size w (((w1.setCell ⟨w.heap.size + 1, 0, none⟩ a).setCell ⟨w.heap.size + 1, 1, none⟩ b).setCell ⟨w.heap.size + 1, 2, none⟩ c) :=
  (((hWB.trans (hB1.mono (by omega))).setCell (p := ⟨w.heap.size + 1, 0, none⟩) (by simp only []; omega) _).setCell (p := ⟨w.heap.size + 1, 1, none⟩) (by simp only []; omega) _).setCell (p := ⟨w.heap.size + 1, 2, none⟩) (by simp only []; omega) _
theorem sz3 (w1 : World) (p q r : Addr) (a b c : Value) : (((w1.setCell p a).setCell q b).setCell r c).heap.size = w1.heap.size := by simp [World.setCell]

theorem str_emp {s : ByteArray} {a : List UInt8} (hs : s.data.toList = a) : s.toList.isEmpty = decide (a = []) := by
  rw [Go.ByteArray.toList_eq, hs]; cases a <;> simp

theorem take_snoc_last (L : List Int) (k : Nat) (hk : k < L.length) (d : Int) : (L.take (k + 1)).getLastD d = L[k] := by
  rw [List.take_succ_eq_append_getElem hk, List.getLastD_eq_getLast?, List.getLast?_concat]; rfl
theorem asc_take (L : List Int) (k : Nat) (hk : k < L.length) (h : asc (-1) (L.take k) = true) : asc (-1) (L.take (k + 1)) = if L[k] ≤ (L.take k).getLastD (-1) ∨ 400 ≤ L[k] then false else true := by
  rw [List.take_succ_eq_append_getElem hk, asc_snoc _ _ _ h]
theorem asc_of_take (L : List Int) (k : Nat) (h : asc (-1) (L.take k) = false) : asc (-1) L = false := by
  have := asc_append_false (-1) (L.take k) (L.drop k) h
  rwa [List.take_append_drop] at this
/-- A module's name is small. -/
theorem Md.small {m : Md} (h : m.t ≤ 1048576) : m.name.length ≤ 1048576 ∧ m.lines.length ≤ 1048576 ∧ ∀ l ∈ m.lines, l.name.length ≤ 1048576 := by
  unfold Md.t lnsT at h
  refine ⟨by omega, by omega, fun l hl => ?_⟩
  have : l.t ≤ (m.lines.map Ln.t).sum := mem_le_sum _ _ (List.mem_map.2 ⟨l, hl, rfl⟩)
  have h2 : l.t = l.name.length := rfl
  omega

set_option maxHeartbeats 8000000 in
set_option maxRecDepth 100000 in
theorem specWorldOk_any (v : Value) (D : Wd) (w : World) (h : Wds w v D) (hD : D.t ≤ 1048576) :
    Calls Tryz.prog 35 #[v] w fun e w' => e = .returned (wrongV (wok D)) ∧ Below w.heap.size w w' := by
  obtain ⟨vr, vm, vf, rfl, h1, h2, h3⟩ := h
  have hr0 : Pl.total D.roots ≤ 1048576 := by unfold Wd.t at hD; omega
  have hr1 : D.roots.length ≤ 1048576 := by have : D.roots.length ≤ Pl.total D.roots := by unfold Pl.total; omega
                                            omega
  have hm1 : D.mods.length ≤ 1048576 := by unfold Wd.t mdsT at hD; omega
  have hm2 : ∀ m ∈ D.mods, m.t ≤ 1048576 := fun m hm => by
    have h1 : m.t ≤ (D.mods.map Md.t).sum := mem_le_sum _ _ (List.mem_map.2 ⟨m, hm, rfl⟩)
    unfold Wd.t mdsT at hD; omega
  have hf1 : D.faults.length ≤ 1048576 := by unfold Wd.t at hD; omega
  obtain ⟨R, hR⟩ : ∃ R, R = wok D := ⟨_, rfl⟩
  rw [← hR]
  have HR : Hid (R = wok D) := hR
  clear hR
  obtain ⟨a1, k1, rfl, hk1, hx1, hc1⟩ := h1
  obtain ⟨a2, k2, rfl, hk2, hx2, hc2⟩ := h2
  obtain ⟨a3, k3, rfl, hk3, hx3, hc3⟩ := h3
  have HC1 : Hid (∀ k, (hk : k < D.roots.length) → ∃ b o, a1 = some ⟨b, o, none⟩ ∧ b < w.heap.size ∧ w.cell? ⟨b, o + k, none⟩ = some (strV D.roots[k])) := hc1
  have HC2 : Hid (∀ k, (hk : k < D.mods.length) → ∃ b o s, a2 = some ⟨b, o, none⟩ ∧ b < w.heap.size ∧
    w.cell? ⟨b, o + k * 2, none⟩ = some (strV D.mods[k].name) ∧ w.cell? ⟨b, o + k * 2 + 1, none⟩ = some s ∧ Lns w s D.mods[k].lines) := hc2
  have HC3 : Hid (∀ k, (hk : k < D.faults.length) → ∃ b o, a3 = some ⟨b, o, none⟩ ∧ b < w.heap.size ∧ w.cell? ⟨b, o + k, none⟩ = some (.int .i64 D.faults[k])) := hc3
  clear hc1 hc2 hc3 hx1 hx2 hx3 hD
  obtain ⟨W, hW⟩ : ∃ W, W = (w.alloc (.cells #[.slice a1 D.roots.length k1, .slice a2 D.mods.length k2, .slice a3 D.faults.length k3] 27)).alloc (.cells #[.int .i64 0, .int .i64 0, .int .i64 0] 77) := ⟨_, rfl⟩
  have hWB : Below w.heap.size w W := by rw [hW]; exact below_alloc2 _ _
  have hWs : W.heap.size = w.heap.size + 2 := by rw [hW]; simp
  have hBx : Bx w.heap.size W (.slice a1 D.roots.length k1) (.slice a2 D.mods.length k2) (.slice a3 D.faults.length k3) := by
    rw [hW]; constructor <;> simp [go_sem]
  have HW : Hid (W = (w.alloc (.cells #[.slice a1 D.roots.length k1, .slice a2 D.mods.length k2, .slice a3 D.faults.length k3] 27)).alloc (.cells #[.int .i64 0, .int .i64 0, .int .i64 0] 77)) := hW
  clear hW
  by_cases hbig : 60 < D.mods.length ∨ 8 < D.roots.length ∨ 400 < D.faults.length
  · have hR1 : R = (1, 0, 0) := by rw [HR.out, wok_1 hbig]
    subst hR1
    go_enter Tryz.func35, Tryz.ntmps35
    go_wp2
    all_goals exact bodyPost_ret (v := wrongV (1, 0, 0)) (by simp [results, Tryz.results35, go_sem, wrongV]) rfl ⟨rfl, below_alloc2 _ _⟩
  · have HR2 : Hid (D.roots.any oddRoot = true → R = (2, 0, 0)) := fun h => by rw [HR.out, wok_2 hbig h]
    have hb1 : ¬ 60 < D.mods.length := fun h => hbig (.inl h)
    have hb2 : ¬ 8 < D.roots.length := fun h => hbig (.inr (.inl h))
    have hb3 : ¬ 400 < D.faults.length := fun h => hbig (.inr (.inr h))
    have HBIG : Hid (¬ (60 < D.mods.length ∨ 8 < D.roots.length ∨ 400 < D.faults.length)) := hbig
    have HM2 : Hid (∀ m ∈ D.mods, m.t ≤ 1048576) := hm2
    clear hbig hm2
    go_enter Tryz.func35, Tryz.ntmps35
    go_wp2
    rw [← HW.out]
    go_loopw [37] (fun i wr => ∃ k : Nat, k ≤ D.roots.length ∧ i = .int .i64 k ∧ (∀ j (hj : j < D.roots.length), j < k → oddRoot D.roots[j] = false) ∧ Below (w.heap.size + 2) W wr) (fun i _ => D.roots.length - (intOf i).toNat)
    case atStart => exact ⟨0, Nat.zero_le _, rfl, fun j _ h => absurd h (by omega), Below.refl _ _⟩
    case round =>
      obtain ⟨k, hk, rfl, hodd, hB⟩ := hrel
      have HODD : Hid (∀ j (hj : j < D.roots.length), j < k → oddRoot D.roots[j] = false) := hodd
      clear hodd
      by_cases hlt : k < D.roots.length
      · obtain ⟨b, o, rfl, hb, h0⟩ := HC1.out k hlt
        have c0 := (hB.cell (p := ⟨b, o + k, none⟩) (by simp only []; omega)).trans ((hWB.cell (p := ⟨b, o + k, none⟩) hb).trans h0)
        obtain ⟨s, hs⟩ : ∃ s : ByteArray, s = ⟨D.roots[k].toArray⟩ := ⟨_, rfl⟩
        have hsl : s.data.toList = D.roots[k] := by rw [hs]
        have hsv : strV D.roots[k] = .string s := by rw [hs]; rfl
        have hsm : s.size ≤ 1048576 := by
          have h1 : D.roots[k].length ≤ Lib.lens D.roots := mem_le_sum _ _ (List.mem_map.2 ⟨_, List.getElem_mem hlt, rfl⟩)
          have h2 : Lib.lens D.roots ≤ Pl.total D.roots := by unfold Pl.total; omega
          rw [size_data, hsl]; omega
        rw [hsv] at c0
        clear h0 hs
        have hBxr := hBx.below hB (Nat.le_refl _)
        obtain ⟨p0, p1, p2, q0, q1, q2, f0, f1, f2⟩ := hBxr
        go_wp2_with fail
        refine (specClean_any s _ hsm).mono ?_
        rw [hsl]
        obtain ⟨c, x, hn⟩ : ∃ c x, Pl.nm [] D.roots[k] = (c, x) := ⟨_, _, rfl⟩
        obtain ⟨t, ht⟩ : ∃ t : ByteArray, t.data.toList = x := ⟨⟨x.toArray⟩, by simp⟩
        have htv : strV x = .string t := by rw [← ht, strV_data]
        rw [hn]
        unfold namedV
        rw [htv]
        clear htv
        have hod : oddRoot D.roots[k] = (decide (D.roots[k] ≠ []) && decide (x ≠ D.roots[k])) := by rw [oddRoot_spec, hn]
        have HN : Hid (Pl.nm [] D.roots[k] = (c, x)) := hn
        have hse := str_emp hsl
        have hBr : w.heap.size + 2 ≤ wr.heap.size := by have := hB.size; omega
        rintro e w1 ⟨rfl, hb4⟩
        have hB1 : Below (w.heap.size + 2) W w1 := hB.trans (hb4.mono hBr)
        have hBxr1 := hBx.below hB1 (Nat.le_refl _)
        obtain ⟨p0, p1, p2, q0, q1, q2, f0, f1, f2⟩ := hBxr1
        have hz1 : w.heap.size < w1.heap.size := by have := hB1.size; omega
        have hz2 : w.heap.size + 1 < w1.heap.size := by have := hB1.size; omega
        have HSL : Hid (s.data.toList = D.roots[k]) := hsl
        clear hn hsm hsl
        by_cases he : D.roots[k] = []
        · have hod' : oddRoot D.roots[k] = false := by rw [hod]; simp [he]
          have HOD : Hid (oddRoot D.roots[k] = false) := hod'
          have hse' : s.toList.isEmpty = true := by rw [hse]; simpa using he
          clear hod hod' hse he ht
          go_wp2
          go_roundw
          case rel => exact ⟨k + 1, by omega, by go_num, fun j hj hjk => by
            by_cases hjk' : j = k
            · subst hjk'; exact HOD.out
            · exact HODD.out j hj (by omega), hB1.alloc (by omega) _⟩
          case measure => simp [intOf]; omega
        · have hse' : s.toList.isEmpty = false := by rw [hse]; simpa using he
          by_cases hx : x = D.roots[k]
          · have hod' : oddRoot D.roots[k] = false := by rw [hod]; simp [hx]
            have HOD : Hid (oddRoot D.roots[k] = false) := hod'
            obtain rfl : t = s := str_eq (ht.trans hx) HSL.out
            clear hod hod' hse he ht hx
            go_wp2
            go_roundw
            case rel => exact ⟨k + 1, by omega, by go_num, fun j hj hjk => by
              by_cases hjk' : j = k
              · subst hjk'; exact HOD.out
              · exact HODD.out j hj (by omega), hB1.alloc (by omega) _⟩
            case measure => simp [intOf]; omega
          · have hod' : oddRoot D.roots[k] = true := by rw [hod]; simp [hx, he]
            have hR2 : R = (2, 0, 0) := HR2.out (List.any_eq_true.2 ⟨_, List.getElem_mem hlt, hod'⟩)
            subst hR2
            have hne : (t.toList == s.toList) = false := by rw [str_beq ht HSL.out]; simpa using hx
            clear hod hod' hse he ht hx
            go_wp2
            exact bodyPost_ret (v := wrongV (2, 0, 0)) (by simp [results, Tryz.results35, go_sem, wrongV, *]) rfl ⟨rfl, (below_ret hWB hB1 _ _ _).alloc (by rw [sz3]; omega) _⟩
      · have hroot : D.roots.any oddRoot = false := by
          rw [List.any_eq_false]
          intro r hr
          obtain ⟨j, hj, rfl⟩ := List.getElem_of_mem hr
          rw [HODD.out j hj (by omega)]; decide
        have HR3 : Hid (asc (-1) D.faults = false → R = (3, 0, 0)) := fun h => by rw [HR.out, wok_3 HBIG.out hroot h]
        have HROOT : Hid (D.roots.any oddRoot = false) := hroot
        clear hroot HR2 HODD HC1
        obtain ⟨p0, p1, p2, q0, q1, q2, f0, f1, f2⟩ := hBx.below hB (Nat.le_refl _)
        have hBr : w.heap.size + 2 ≤ wr.heap.size := by have := hB.size; omega
        go_wp2
        obtain ⟨W1, hW1⟩ : ∃ W1, W1 = wr := ⟨_, rfl⟩
        rw [← hW1] at hB p0 p1 p2 q0 q1 q2 f0 f1 f2 hBr ⊢
        clear hW1
        go_loopw [6, 56] (fun l i wr => ∃ k : Nat, k ≤ D.faults.length ∧ i = .int .i64 k ∧ l = .int .i64 ((D.faults.take k).getLastD (-1)) ∧ asc (-1) (D.faults.take k) = true ∧ Below (w.heap.size + 2) W wr) (fun _ i _ => D.faults.length - (intOf i).toNat)
        case atStart => exact ⟨0, Nat.zero_le _, rfl, rfl, rfl, hB⟩
        case round =>
          obtain ⟨k, hk, rfl, rfl, hasc, hB2⟩ := hrel
          obtain ⟨lst, hlst⟩ : ∃ lst, lst = (D.faults.take k).getLastD (-1) := ⟨_, rfl⟩
          rw [← hlst]
          have HL : Hid (lst = (D.faults.take k).getLastD (-1)) := hlst
          have HASC : Hid (asc (-1) (D.faults.take k) = true) := hasc
          clear hlst hasc hB p0 p1 p2 q0 q1 q2 f0 f1 f2
          obtain ⟨p0, p1, p2, q0, q1, q2, f0, f1, f2⟩ := hBx.below hB2 (Nat.le_refl _)
          have hBr2 : w.heap.size + 2 ≤ wr.heap.size := by have := hB2.size; omega
          by_cases hlt : k < D.faults.length
          · obtain ⟨b, o, rfl, hb, h0⟩ := HC3.out k hlt
            have c0 := (hB2.cell (p := ⟨b, o + k, none⟩) (by simp only []; omega)).trans ((hWB.cell (p := ⟨b, o + k, none⟩) hb).trans h0)
            have hstep := asc_take D.faults k hlt HASC.out
            rw [← HL.out] at hstep
            have hlast := take_snoc_last D.faults k hlt (-1)
            obtain ⟨f, hf⟩ : ∃ f, f = D.faults[k] := ⟨_, rfl⟩
            rw [← hf] at c0 hstep hlast
            clear h0 hf
            by_cases hx1 : f ≤ lst
            · have hR3 : R = (3, 0, 0) := HR3.out (asc_of_take _ (k + 1) (by rw [hstep, if_pos (.inl hx1)]))
              subst hR3
              clear hstep hlast
              go_wp2
              exact bodyPost_ret (v := wrongV (3, 0, 0)) (by simp [results, Tryz.results35, go_sem, wrongV, *]) rfl ⟨rfl, below_ret hWB hB2 _ _ _⟩
            · by_cases hx2 : 400 ≤ f
              · have hR3 : R = (3, 0, 0) := HR3.out (asc_of_take _ (k + 1) (by rw [hstep, if_pos (.inr hx2)]))
                subst hR3
                clear hstep hlast
                go_wp2
                exact bodyPost_ret (v := wrongV (3, 0, 0)) (by simp [results, Tryz.results35, go_sem, wrongV, *]) rfl ⟨rfl, below_ret hWB hB2 _ _ _⟩
              · rw [if_neg (by omega)] at hstep
                have HST : Hid (asc (-1) (D.faults.take (k + 1)) = true ∧ (D.faults.take (k + 1)).getLastD (-1) = f) := ⟨hstep, hlast⟩
                clear hstep hlast
                go_wp2
                go_roundw
                case rel => exact ⟨k + 1, by omega, by go_num, by rw [HST.out.2], HST.out.1, hB2⟩
                case measure => simp [intOf]; omega
          · have hasc : asc (-1) D.faults = true := by have := HASC.out; rwa [List.take_of_length_le (by omega)] at this
            have HR4 : Hid (∀ k, k < D.mods.length → firstN (badMd D.mods) D.mods.length 0 = k → R = (4, (k : Int), 0)) := fun k hk h => by rw [HR.out, wok_4 HBIG.out HROOT.out hasc hk h]
            have HASC' : Hid (asc (-1) D.faults = true) := hasc
            clear hasc HR3 HC3 HL HASC
            go_wp2
            obtain ⟨W2, hW2⟩ : ∃ W2, W2 = wr := ⟨_, rfl⟩
            rw [← hW2] at hB2 p0 p1 p2 q0 q1 q2 f0 f1 f2 hBr2 ⊢
            clear hW2
            go_loopw [73] (fun i wr => ∃ k : Nat, k ≤ D.mods.length ∧ i = .int .i64 k ∧ (∀ j, j < k → badMd D.mods j = false) ∧ Below (w.heap.size + 2) W wr) (fun i _ => D.mods.length - (intOf i).toNat)
            case atStart => exact ⟨0, Nat.zero_le _, rfl, fun j h => absurd h (by omega), hB2⟩
            case round =>
              obtain ⟨k, hk, rfl, hbad, hB3⟩ := hrel
              have HBAD : Hid (∀ j, j < k → badMd D.mods j = false) := hbad
              clear hbad hB2 p0 p1 p2 q0 q1 q2 f0 f1 f2
              have hBr3 : w.heap.size + 2 ≤ wr.heap.size := by have := hB3.size; omega
              by_cases hlt : k < D.mods.length
              · obtain ⟨b, o, s, rfl, hb, h0, h1, h2⟩ := HC2.out k hlt
                obtain ⟨hs1, hs2, hs3⟩ := Md.small (HM2.out _ (List.getElem_mem hlt))
                obtain ⟨asl, cs, rfl⟩ := h2.slice
                obtain ⟨N, hN⟩ : ∃ N, N = D.mods[k].lines.length := ⟨_, rfl⟩
                obtain ⟨ns, hns⟩ : ∃ ns : ByteArray, ns.data.toList = D.mods[k].name := ⟨⟨D.mods[k].name.toArray⟩, by simp⟩
                have hnv : strV D.mods[k].name = .string ns := by rw [← hns, strV_data]
                rw [hnv] at h0
                rw [← hN] at h1 hs2
                have c0 := (hB3.cell (p := ⟨b, o + k * 2, none⟩) (by simp only []; omega)).trans ((hWB.cell (p := ⟨b, o + k * 2, none⟩) hb).trans h0)
                have c1 := (hB3.cell (p := ⟨b, o + k * 2 + 1, none⟩) (by simp only []; omega)).trans ((hWB.cell (p := ⟨b, o + k * 2 + 1, none⟩) hb).trans h1)
                have hnsm : ns.size ≤ 1048576 := by rw [size_data, hns]; exact hs1
                have hbm := badMd_at hlt
                rw [← hN] at hbm
                have HBM : Hid (badMd D.mods k = (!isN D.mods[k].name || decide (60 < N) || (D.mods.take k).any (fun m => decide (m.name = D.mods[k].name)))) := hbm
                have HNS : Hid (ns.data.toList = D.mods[k].name) := hns
                clear h0 h1 h2 hs3 hs1 hbm hns hnv hN
                go_wp2_with fail
                refine (specClean_any ns _ hnsm).mono ?_
                obtain ⟨c, x, hn⟩ : ∃ c x, Pl.nm [] D.mods[k].name = (c, x) := ⟨_, _, rfl⟩
                obtain ⟨t, ht⟩ : ∃ t : ByteArray, t.data.toList = x := ⟨⟨x.toArray⟩, by simp⟩
                have htv : strV x = .string t := by rw [← ht, strV_data]
                rw [HNS.out, hn]
                unfold namedV
                rw [htv]
                have HIS : Hid (isN D.mods[k].name = (decide (c = 0) && decide (x = D.mods[k].name))) := by unfold Hid; rw [isN, hn]
                have HTX : Hid (t.data.toList = x) := ht
                clear htv ht hn c0 c1
                rintro e w1 ⟨rfl, hb4⟩
                have m0 : w1.cell? ⟨wr.heap.size, 0, none⟩ = some (.string ns) := below_cell0 hb4 (by simp) (by simp [go_sem])
                have m1 : w1.cell? ⟨wr.heap.size, 1, none⟩ = some (.slice asl N cs) := below_cell0 hb4 (by simp) (by simp [go_sem])
                have hB4 : Below (w.heap.size + 2) W w1 := (hB3.alloc hBr3 _).trans (hb4.mono (by simp; omega))
                have hz0 : wr.heap.size < w1.heap.size := by have := hb4.size; simp at this; omega
                have hz1 : w.heap.size < w1.heap.size := by omega
                have hz2 : w.heap.size + 1 < w1.heap.size := by omega
                obtain ⟨p0, p1, p2, q0, q1, q2, f0, f1, f2⟩ := hBx.below hB4 (Nat.le_refl _)
                clear hb4
                by_cases hc0 : c = 0
                · subst hc0
                  by_cases hxn : x = D.mods[k].name
                  · obtain rfl : t = ns := str_eq (HTX.out.trans hxn) HNS.out
                    by_cases h60 : 60 < N
                    · have hR4 : R = (4, (k : Int), 0) := HR4.out k hlt (firstN_hit hlt HBAD.out (by rw [HBM.out]; simp [h60]))
                      subst hR4
                      clear hxn
                      go_wp2
                      exact bodyPost_ret (v := wrongV (4, (k : Int), 0)) (by simp [results, Tryz.results35, go_sem, wrongV, *]) rfl ⟨rfl, (below_ret hWB hB4 _ _ _).alloc (by rw [sz3]; omega) _⟩
                    · have HIN : Hid (isN D.mods[k].name = true) := by unfold Hid; rw [HIS.out, hxn]; simp
                      clear hxn
                      go_wp2
                      obtain ⟨W3, hW3⟩ : ∃ W3, W3 = w1.alloc (Obj.cells #[Value.int IntKind.i64 0, Value.string t] 118) := ⟨_, rfl⟩
                      have hB5 : Below (w.heap.size + 2) W W3 := by rw [hW3]; exact hB4.alloc (by omega) _
                      have m0' : W3.cell? ⟨wr.heap.size, 0, none⟩ = some (.string t) := by rw [hW3, World.cell?_alloc_past _ _ _ hz0]; exact m0
                      have hz5 : wr.heap.size < W3.heap.size := by rw [hW3]; simp; omega
                      rw [← hW3]
                      clear hW3 p0 p1 p2 q0 q1 q2 f0 f1 f2 m0 m1 hz0 hz1 hz2
                      go_loopw [12] (fun i wr' => ∃ k' : Nat, k' ≤ k ∧ i = .int .i64 k' ∧ (∀ j (hj : j < D.mods.length), j < k' → D.mods[j].name ≠ D.mods[k].name) ∧ Below W3.heap.size W3 wr') (fun i _ => k - (intOf i).toNat)
                      case atStart => exact ⟨0, Nat.zero_le _, rfl, fun j _ h => absurd h (by omega), Below.refl _ _⟩
                      case round =>
                        obtain ⟨k', hk', rfl, hnn, hB6⟩ := hrel
                        have HNN : Hid (∀ j (hj : j < D.mods.length), j < k' → D.mods[j].name ≠ D.mods[k].name) := hnn
                        rename World => w6
                        have hB7 : Below (w.heap.size + 2) W w6 := hB5.trans (hB6.mono (by omega))
                        have m0 := below_cell0 hB6 hz5 m0'
                        obtain ⟨p0, p1, p2, q0, q1, q2, f0, f1, f2⟩ := hBx.below hB7 (Nat.le_refl _)
                        clear hnn
                        by_cases hlt' : k' < k
                        · have hlk : k' < D.mods.length := by omega
                          obtain ⟨b', o', s', hbo, hb', h0', _, _⟩ := HC2.out k' hlk
                          cases hbo
                          obtain ⟨ns', hns'⟩ : ∃ ns' : ByteArray, ns'.data.toList = D.mods[k'].name := ⟨⟨D.mods[k'].name.toArray⟩, by simp⟩
                          have hnv' : strV D.mods[k'].name = .string ns' := by rw [← hns', strV_data]
                          rw [hnv'] at h0'
                          have c0' := (hB7.cell (p := ⟨b, o + k' * 2, none⟩) (by simp only []; omega)).trans ((hWB.cell (p := ⟨b, o + k' * 2, none⟩) hb).trans h0')
                          clear h0' hnv'
                          by_cases hnm : D.mods[k'].name = D.mods[k].name
                          · obtain rfl : ns' = t := str_eq (hns'.trans hnm) HNS.out
                            have hR4 : R = (4, (k : Int), 0) := HR4.out k hlt (firstN_hit hlt HBAD.out (by
                              rw [HBM.out]
                              have : (D.mods.take k).any (fun m => decide (m.name = D.mods[k].name)) = true := by
                                rw [List.any_eq_true]
                                exact ⟨D.mods[k'], List.mem_take_iff_getElem.2 ⟨k', by omega, rfl⟩, by simpa using hnm⟩
                              rw [this]; simp))
                            subst hR4
                            clear hnm hns'
                            go_wp2
                            go_region
                            all_goals
                              go_wp2
                              exact bodyPost_ret (v := wrongV (4, (k : Int), 0)) (by simp [results, Tryz.results35, go_sem, wrongV, *]) rfl ⟨rfl, below_ret hWB hB7.drew _ _ _⟩
                          · have hne : (ns'.toList == t.toList) = false := by rw [str_beq hns' HNS.out]; simpa using hnm
                            have HNM : Hid (¬ D.mods[k'].name = D.mods[k].name) := hnm
                            clear hnm hns'
                            go_wp2
                            go_region
                            all_goals
                              go_wp2
                              go_roundw
                              case rel => exact ⟨k' + 1, by omega, by go_num, fun j hj hjk => by
                                by_cases hjk' : j = k'
                                · subst hjk'; exact HNM.out
                                · exact HNN.out j hj (by omega), hB6.drew⟩
                              case measure => simp [intOf]; omega
                        · have HBK : Hid (badMd D.mods k = false) := by
                            unfold Hid
                            rw [HBM.out, HIN.out]
                            have : (D.mods.take k).any (fun m => decide (m.name = D.mods[k].name)) = false := by
                              rw [List.any_eq_false]
                              intro m hm
                              obtain ⟨j, hj, rfl⟩ := List.mem_take_iff_getElem.1 hm
                              have := HNN.out j (by omega) (by omega)
                              simpa using this
                            rw [this]; simp; omega
                          go_wp2
                          go_roundw
                          case rel => exact ⟨k + 1, by omega, by go_num, fun j hjk => by
                            by_cases hjk' : j = k
                            · subst hjk'; exact HBK.out
                            · exact HBAD.out j (by omega), hB7⟩
                          case measure => simp [intOf]; omega
                  · have hR4 : R = (4, (k : Int), 0) := HR4.out k hlt (firstN_hit hlt HBAD.out (by rw [HBM.out, HIS.out]; simp [hxn]))
                    subst hR4
                    have hne : (t.toList == ns.toList) = false := by rw [str_beq HTX.out HNS.out]; simpa using hxn
                    clear hxn
                    go_wp2
                    exact bodyPost_ret (v := wrongV (4, (k : Int), 0)) (by simp [results, Tryz.results35, go_sem, wrongV, *]) rfl ⟨rfl, (below_ret hWB hB4 _ _ _).alloc (by rw [sz3]; omega) _⟩
                · have hR4 : R = (4, (k : Int), 0) := HR4.out k hlt (firstN_hit hlt HBAD.out (by rw [HBM.out, HIS.out]; simp [hc0]))
                  subst hR4
                  have hcb : (c == 0) = false := by simpa using hc0
                  go_wp2
                  exact bodyPost_ret (v := wrongV (4, (k : Int), 0)) (by simp [results, Tryz.results35, go_sem, wrongV, *]) rfl ⟨rfl, (below_ret hWB hB4 _ _ _).alloc (by rw [sz3]; omega) _⟩
              · have hmods : firstN (badMd D.mods) D.mods.length 0 = D.mods.length := firstN_none (fun j hj => HBAD.out j (by omega))
                have HR5 : Hid (∀ k, (hk : k < D.mods.length) → firstN (badLns D.mods) D.mods.length 0 = k → R = (5, (k : Int), ((firstN (badLn D.mods[k].lines) D.mods[k].lines.length 0 : Nat) : Int))) := fun k hk h => by rw [HR.out, wok_5 HBIG.out HROOT.out HASC'.out hmods hk h]
                have HR6 : Hid (firstN (badLns D.mods) D.mods.length 0 = D.mods.length → R = (0, 0, 0)) := fun h => by rw [HR.out, wok_0 HBIG.out HROOT.out HASC'.out hmods h]
                clear hmods HR4 HBAD
                obtain ⟨p0, p1, p2, q0, q1, q2, f0, f1, f2⟩ := hBx.below hB3 (Nat.le_refl _)
                go_wp2
                obtain ⟨W4, hW4⟩ : ∃ W4, W4 = wr := ⟨_, rfl⟩
                rw [← hW4] at hB3 p0 p1 p2 q0 q1 q2 f0 f1 f2 hBr3 ⊢
                clear hW4
                go_loopw [119] (fun i wr => ∃ k : Nat, k ≤ D.mods.length ∧ i = .int .i64 k ∧ (∀ j, j < k → badLns D.mods j = false) ∧ Below (w.heap.size + 2) W wr) (fun i _ => D.mods.length - (intOf i).toNat)
                case atStart => exact ⟨0, Nat.zero_le _, rfl, fun j h => absurd h (by omega), hB3⟩
                case round =>
                  obtain ⟨k, hk, rfl, hbad, hB8⟩ := hrel
                  have HBAD : Hid (∀ j, j < k → badLns D.mods j = false) := hbad
                  clear hbad hB3 p0 p1 p2 q0 q1 q2 f0 f1 f2
                  rename World => w8
                  have hBr8 : w.heap.size + 2 ≤ w8.heap.size := by have := hB8.size; omega
                  obtain ⟨p0, p1, p2, q0, q1, q2, f0, f1, f2⟩ := hBx.below hB8 (Nat.le_refl _)
                  by_cases hlt : k < D.mods.length
                  · obtain ⟨b, o, s, rfl, hb, h0, h1, h2⟩ := HC2.out k hlt
                    obtain ⟨hs1, hs2, hs3⟩ := Md.small (HM2.out _ (List.getElem_mem hlt))
                    obtain ⟨asl, cs, rfl⟩ := h2.slice
                    obtain ⟨N, hN⟩ : ∃ N, N = D.mods[k].lines.length := ⟨_, rfl⟩
                    obtain ⟨ns, hns⟩ : ∃ ns : ByteArray, ns.data.toList = D.mods[k].name := ⟨⟨D.mods[k].name.toArray⟩, by simp⟩
                    have hnv : strV D.mods[k].name = .string ns := by rw [← hns, strV_data]
                    rw [hnv] at h0
                    rw [← hN] at h1 hs2
                    have c0 := (hB8.cell (p := ⟨b, o + k * 2, none⟩) (by simp only []; omega)).trans ((hWB.cell (p := ⟨b, o + k * 2, none⟩) hb).trans h0)
                    have c1 := (hB8.cell (p := ⟨b, o + k * 2 + 1, none⟩) (by simp only []; omega)).trans ((hWB.cell (p := ⟨b, o + k * 2 + 1, none⟩) hb).trans h1)
                    have HLN : Hid (Lns w (.slice asl N cs) D.mods[k].lines ∧ N = D.mods[k].lines.length ∧ ∀ l ∈ D.mods[k].lines, l.name.length ≤ 1048576) := ⟨by rw [hN]; exact h2, hN, hs3⟩
                    have HNV : Hid (strV D.mods[k].name = .string ns) := hnv
                    clear h0 h1 h2 hs3 hs1 hns hnv hN
                    go_wp2
                    obtain ⟨W5, hW5⟩ : ∃ W5, W5 = w8.alloc (Obj.cells #[Value.string ns, Value.slice asl N cs] 39) := ⟨_, rfl⟩
                    have hB9 : Below (w.heap.size + 2) W W5 := by rw [hW5]; exact hB8.alloc (by omega) _
                    have m0' : W5.cell? ⟨w8.heap.size, 0, none⟩ = some (.string ns) := by rw [hW5]; simp [go_sem]
                    have m1' : W5.cell? ⟨w8.heap.size, 1, none⟩ = some (.slice asl N cs) := by rw [hW5]; simp [go_sem]
                    have hz9 : w8.heap.size < W5.heap.size := by rw [hW5]; simp
                    rw [← hW5]
                    clear hW5 p0 p1 p2 q0 q1 q2 f0 f1 f2 c0 c1
                    go_loopw [127] (fun i wr' => ∃ k' : Nat, k' ≤ N ∧ i = .int .i64 k' ∧ (∀ j, j < k' → badLn D.mods[k].lines j = false) ∧ Below W5.heap.size W5 wr') (fun i _ => N - (intOf i).toNat)
                    case atStart => exact ⟨0, Nat.zero_le _, rfl, fun j h => absurd h (by omega), Below.refl _ _⟩
                    case round =>
                      obtain ⟨k', hk', rfl, hnn, hB10⟩ := hrel
                      have HNN : Hid (∀ j, j < k' → badLn D.mods[k].lines j = false) := hnn
                      rename World => w10
                      have hB11 : Below (w.heap.size + 2) W w10 := hB9.trans (hB10.mono (by omega))
                      have m0 := below_cell0 hB10 hz9 m0'
                      have m1 := below_cell0 hB10 hz9 m1'
                      have hz11 : W5.heap.size ≤ w10.heap.size := hB10.size
                      have hz12 : w8.heap.size < w10.heap.size := by omega
                      have hz13 : w.heap.size + 1 < w10.heap.size := by omega
                      have hz14 : w.heap.size < w10.heap.size := by omega
                      obtain ⟨p0, p1, p2, q0, q1, q2, f0, f1, f2⟩ := hBx.below hB11 (Nat.le_refl _)
                      clear hnn
                      by_cases hlt' : k' < N
                      · have hlk : k' < D.mods[k].lines.length := by rw [← HLN.out.2.1]; exact hlt'
                        obtain ⟨al, capl, hsl, _, _, hcl⟩ := HLN.out.1.below (hWB.trans (hB11.mono (by omega))) (Nat.le_refl _)
                        obtain ⟨b', o', hbo, hb', l0, l1, l2, l3⟩ := hcl k' hlk
                        obtain rfl : al = asl := by injection hsl with h1 h2 h3; exact h1.symm
                        subst hbo
                        obtain ⟨ls, hls⟩ := strV_of D.mods[k].lines[k'].name
                        rw [hls] at l1
                        have hok := l2line_any D.mods[k].name (some ⟨b', o', none⟩) N cs k' D.mods[k].lines[k']
                        rw [mdV, HNV.out, lnV, hls] at hok
                        have hbl := badLn_at hlk
                        rw [← HLN.out.2.1] at hbl
                        have HBL : Hid (badLn D.mods[k].lines k' = !okLn N k' D.mods[k].lines[k']) := hbl
                        have HOK : Hid (∀ W, Calls Tryz.prog 49 #[.agg #[.string ns, .slice (some ⟨b', o', none⟩) N cs], .agg #[.int .i64 D.mods[k].lines[k'].op, .string ls, .int .i64 D.mods[k].lines[k'].num, .int .i64 D.mods[k].lines[k'].skip], .int .i64 k'] W fun e w' => e = .returned (.bool (okLn N k' D.mods[k].lines[k'])) ∧ Below W.heap.size W w') :=
                          fun W => hok W (by omega) (by omega) (HLN.out.2.2 _ (List.getElem_mem hlk))
                        clear hls hok hbl hcl hsl
                        go_wp2_with fail
                        refine (HOK.out _).mono ?_
                        obtain ⟨q, hq⟩ : ∃ q, q = okLn N k' D.mods[k].lines[k'] := ⟨_, rfl⟩
                        rw [← hq]
                        have HQ : Hid (q = okLn N k' D.mods[k].lines[k']) := hq
                        clear hq
                        rintro e w12 ⟨rfl, hb12⟩
                        have hz15 : w10.heap.size < w12.heap.size := by have := hb12.size; simp at this; omega
                        have hB12 : Below (w.heap.size + 2) W w12 := (hB11.alloc (by omega) _).trans (hb12.mono (by simp; omega))
                        have hB13 : Below W5.heap.size W5 w12 := (hB10.alloc (by omega) _).trans (hb12.mono (by simp; omega))
                        clear l0 l1 l2 l3 p0 p1 p2 q0 q1 q2 f0 f1 f2 m0 m1 hb12
                        obtain ⟨p0, p1, p2, q0, q1, q2, f0, f1, f2⟩ := hBx.below hB12 (Nat.le_refl _)
                        cases q with
                        | true =>
                          go_wp2
                          go_roundw
                          case rel => exact ⟨k' + 1, by omega, by go_num, fun j hjk => by
                            by_cases hjk' : j = k'
                            · subst hjk'; rw [HBL.out, ← HQ.out]; rfl
                            · exact HNN.out j (by omega), hB13⟩
                          case measure => simp [intOf]; omega
                        | false =>
                          have hlf : firstN (badLn D.mods[k].lines) D.mods[k].lines.length 0 = k' := firstN_hit hlk HNN.out (by rw [HBL.out, ← HQ.out]; rfl)
                          have hR5 : R = (5, (k : Int), (k' : Int)) := by
                            rw [HR5.out k hlt (firstN_hit hlt HBAD.out (by rw [badLns_at hlt, hlf]; simpa using hlk)), hlf]
                          subst hR5
                          clear hlf
                          go_wp2
                          exact bodyPost_ret (v := wrongV (5, (k : Int), (k' : Int))) (by simp [results, Tryz.results35, go_sem, wrongV, *]) rfl ⟨rfl, below_ret hWB hB12 _ _ _⟩
                      · have HBK : Hid (badLns D.mods k = false) := by
                          unfold Hid
                          rw [badLns_at hlt, firstN_none (fun j hj => HNN.out j (by have := HLN.out.2.1; omega))]; simp
                        go_wp2
                        go_roundw
                        case rel => exact ⟨k + 1, by omega, by go_num, fun j hjk => by
                          by_cases hjk' : j = k
                          · subst hjk'; exact HBK.out
                          · exact HBAD.out j (by omega), hB11⟩
                        case measure => simp [intOf]; omega
                  · have hR0 : R = (0, 0, 0) := HR6.out (firstN_none (fun j hj => HBAD.out j (by omega)))
                    subst hR0
                    go_wp2
                    exact bodyPost_ret (v := wrongV (0, 0, 0)) (by simp [results, Tryz.results35, go_sem, wrongV, *]) rfl ⟨rfl, below_ret hWB hB8 _ _ _⟩
end Go.Proofs.YtimgafblpmjajaaGreat
namespace Go.Proofs
open Go.Shelf
def Tryz.lays156_ren : Go.Shelf.Ren := ⟨fun | 156 => 80 | 165 => 85 | 166 => 86 | 169 => 87 | 240 => 92 | 241 => 93 | 276 => 96 | 277 => 97 | n => n, fun | 31 => 23 | 9 => 9 | 3 => 3 | 4 => 4 | 0 => 0 | 20 => 20 | 72 => 165 | 76 => 168 | 70 => 163 | 37 => 22 | 75 => 167 | 127 => 153 | 164 => 174 | 5 => 5 | 80 => 72 | n => n, fun | n => n⟩
theorem Tryz.lays156 : Go.Proofs.Lays.n156 Tryz.prog Tryz.lays156_ren := {
  mixed := by kernel_rfl
  f156 := Tryz.func80.trans (congrArg some (by kernel_rfl))
  f165 := Tryz.func85.trans (congrArg some (by kernel_rfl))
  f166 := Tryz.func86.trans (congrArg some (by kernel_rfl))
  f169 := Tryz.func87.trans (congrArg some (by kernel_rfl))
  f240 := Tryz.func92.trans (congrArg some (by kernel_rfl))
  f241 := Tryz.func93.trans (congrArg some (by kernel_rfl))
  f276 := Tryz.func96.trans (congrArg some (by kernel_rfl))
  f277 := Tryz.func97.trans (congrArg some (by kernel_rfl))
  t0 := Tryz.underlying0
  a0 := Tryz.isAgg0
  z0 := Tryz.sizeOf0
  v0 := Tryz.zeroValue0
  t3 := Tryz.underlying3
  a3 := Tryz.isAgg3
  z3 := Tryz.sizeOf3
  v3 := Tryz.zeroValue3
  t4 := Tryz.underlying4
  a4 := Tryz.isAgg4
  z4 := Tryz.sizeOf4
  v4 := Tryz.zeroValue4
  t9 := Tryz.underlying9
  a9 := Tryz.isAgg9
  z9 := Tryz.sizeOf9
  v9 := Tryz.zeroValue9
  t20 := Tryz.underlying20
  a20 := Tryz.isAgg20
  z20 := Tryz.sizeOf20
  v20 := Tryz.zeroValue20
  t31 := Tryz.underlying23
  a31 := Tryz.isAgg23
  z31 := Tryz.sizeOf23
  v31 := Tryz.zeroValue23
  t37 := Tryz.underlying22
  a37 := Tryz.isAgg22
  z37 := Tryz.sizeOf22
  v37 := Tryz.zeroValue22
  t70 := Tryz.underlying163
  a70 := Tryz.isAgg163
  z70 := Tryz.sizeOf163
  v70 := Tryz.zeroValue163
  t72 := Tryz.underlying165
  a72 := Tryz.isAgg165
  z72 := Tryz.sizeOf165
  v72 := Tryz.zeroValue165
  t75 := Tryz.underlying167
  a75 := Tryz.isAgg167
  z75 := Tryz.sizeOf167
  v75 := Tryz.zeroValue167
  t76 := Tryz.underlying168
  a76 := Tryz.isAgg168
  z76 := Tryz.sizeOf168
  v76 := Tryz.zeroValue168
  t127 := Tryz.underlying153
  a127 := Tryz.isAgg153
  z127 := Tryz.sizeOf153
  v127 := Tryz.zeroValue153
  t164 := Tryz.underlying174
  a164 := Tryz.isAgg174
  z164 := Tryz.sizeOf174
  v164 := Tryz.zeroValue174 }
theorem Tryz.Builder_Extra_156 : Builder.Extra Tryz.prog Tryz.lays156_ren := {
  sizeBuilder := by kernel_rfl
  liesBuilder := by kernel_rfl
  t5 := Tryz.underlying5
  a5 := Tryz.isAgg5
  z5 := Tryz.sizeOf5
  v5 := Tryz.zeroValue5
  infoByte := by kernel_rfl
  cellsByte := by kernel_rfl
  sizeByte := by kernel_rfl
  neB5 := by decide }
open Go.RowKit in
theorem Tryz.strings_Join_none (a : Option Addr) (c : Nat) (sep : ByteArray) (w : World) :
    Calls Tryz.prog 80 #[.slice a 0 c, .string sep] w fun e w' => e = .returned (.string ⟨#[]⟩) ∧ w' = w := Any.strings_Join_none Tryz.lays156 Tryz.Builder_Extra_156 a c sep w
open Go.RowKit in
theorem Tryz.strings_Join (bk o c : Nat) (xs : List ByteArray) (sep : ByteArray) (w : World) (hcells : ∀ (j : Nat) x, xs[j]? = some x → w.cell? ⟨bk, o + j, none⟩ = some (.string x)) (hbk : bk < w.heap.size) (hN : xs.length ≤ 140737488355328) (hcap : xs.length ≤ c) (hlen : (Lib.join (xs.map (·.data.toList)) sep.data.toList).length ≤ 140737488355328) :
    Calls Tryz.prog 80 #[.slice (some ⟨bk, o, none⟩) xs.length c, .string sep] w fun e w' => e = .returned (.string ⟨(Lib.join (xs.map (·.data.toList)) sep.data.toList).toArray⟩) ∧ Below w.heap.size w w' := Any.strings_Join Tryz.lays156 Tryz.Builder_Extra_156 bk o c xs sep w hcells hbk hN hcap hlen
def Tryz.laysM316_ren : Go.Shelf.Ren := ⟨fun | 316 => 57 | n => n, fun | 9 => 9 | 3 => 3 | 4 => 4 | 37 => 22 | 0 => 0 | 127 => 153 | 5 => 5 | n => n, fun | n => n⟩
theorem Tryz.laysM316 : Go.Proofs.LaysM.n316 Tryz.prog Tryz.laysM316_ren := {
  mixed := by kernel_rfl
  f316 := Tryz.func57.trans (congrArg some (by kernel_rfl))
  t0 := Tryz.underlying0
  a0 := Tryz.isAgg0
  z0 := Tryz.sizeOf0
  v0 := Tryz.zeroValue0
  t3 := Tryz.underlying3
  a3 := Tryz.isAgg3
  z3 := Tryz.sizeOf3
  v3 := Tryz.zeroValue3
  t4 := Tryz.underlying4
  a4 := Tryz.isAgg4
  z4 := Tryz.sizeOf4
  v4 := Tryz.zeroValue4
  t9 := Tryz.underlying9
  a9 := Tryz.isAgg9
  z9 := Tryz.sizeOf9
  v9 := Tryz.zeroValue9
  t37 := Tryz.underlying22
  a37 := Tryz.isAgg22
  z37 := Tryz.sizeOf22
  v37 := Tryz.zeroValue22
  t127 := Tryz.underlying153
  a127 := Tryz.isAgg153
  z127 := Tryz.sizeOf153
  v127 := Tryz.zeroValue153
  t5 := Tryz.underlying5
  a5 := Tryz.isAgg5
  z5 := Tryz.sizeOf5
  v5 := Tryz.zeroValue5
  i0 := by kernel_rfl
  i3 := by kernel_rfl
  i4 := by kernel_rfl
  i5 := by kernel_rfl
  i9 := by kernel_rfl
  i37 := by kernel_rfl
  i127 := by kernel_rfl }
open Go.RowKit in
theorem Tryz.stringslite_Clone (s : ByteArray) (w : World) (hlim : s.size ≤ 281474976710656) :
    Calls Tryz.prog 57 #[.string s] w fun e w' => e = .returned (.string s) ∧ Below w.heap.size w w' := Any.stringslite_Clone Tryz.laysM316 s w hlim
def Tryz.lays219_ren : Go.Shelf.Ren := ⟨fun | 219 => 83 | 217 => 88 | 225 => 89 | 224 => 90 | 267 => 91 | 266 => 94 | 314 => 95 | n => n, fun | 9 => 9 | 3 => 3 | 4 => 4 | 5 => 5 | 46 => 138 | 146 => 172 | 51 => 171 | n => n, fun | 1 => 0 | n => n⟩
theorem Tryz.lays219 : Go.Proofs.Lays.n219 Tryz.prog Tryz.lays219_ren := {
  mixed := by kernel_rfl
  f217 := Tryz.func88.trans (congrArg some (by kernel_rfl))
  f219 := Tryz.func83.trans (congrArg some (by kernel_rfl))
  f224 := Tryz.func90.trans (congrArg some (by kernel_rfl))
  f225 := Tryz.func89.trans (congrArg some (by kernel_rfl))
  f266 := Tryz.func94.trans (congrArg some (by kernel_rfl))
  f267 := Tryz.func91.trans (congrArg some (by kernel_rfl))
  f314 := Tryz.func95.trans (congrArg some (by kernel_rfl))
  t3 := Tryz.underlying3
  a3 := Tryz.isAgg3
  z3 := Tryz.sizeOf3
  v3 := Tryz.zeroValue3
  t4 := Tryz.underlying4
  a4 := Tryz.isAgg4
  z4 := Tryz.sizeOf4
  v4 := Tryz.zeroValue4
  t5 := Tryz.underlying5
  a5 := Tryz.isAgg5
  z5 := Tryz.sizeOf5
  v5 := Tryz.zeroValue5
  t9 := Tryz.underlying9
  a9 := Tryz.isAgg9
  z9 := Tryz.sizeOf9
  v9 := Tryz.zeroValue9
  t46 := Tryz.underlying138
  a46 := Tryz.isAgg138
  z46 := Tryz.sizeOf138
  v46 := Tryz.zeroValue138
  t51 := Tryz.underlying171
  a51 := Tryz.isAgg171
  z51 := Tryz.sizeOf171
  v51 := Tryz.zeroValue171
  t146 := Tryz.underlying172
  a146 := Tryz.isAgg172
  z146 := Tryz.sizeOf172
  v146 := Tryz.zeroValue172
  g1 := by kernel_rfl }
open Go.RowKit Go.Lib in
theorem Tryz.stringslite_Index_one (s : ByteArray) (c : UInt8) (w : World) :
    Calls Tryz.prog 83 #[.string s, .string ⟨#[c]⟩] w fun e w' => e = .returned (.int .i64 (Lib.indexByte s.data.toList c)) ∧ w' = w := Any.stringslite_Index_one Tryz.lays219 s c w
end Go.Proofs
