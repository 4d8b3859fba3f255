
import Derived.Lib.Join

namespace Go.Proofs.YtimgafblpmjajabGreat.Pl

/-- A byte that may stand in a plain part. -/
def okB (c : UInt8) : Bool := ((97 ≤ c && c ≤ 122) || (48 ≤ c && c ≤ 57)) || c == 95 || c == 45
/-- A plain part: one or more such bytes. -/
def plainP (p : List UInt8) : Bool := !p.isEmpty && p.all okB

/-- What stands between the slashes, 'cur' being what has come of the first part. -/
def splitTo : List UInt8 → List UInt8 → List (List UInt8)
  | cur, [] => [cur]
  | cur, c :: r => if c = 47 then cur :: splitTo [] r else splitTo (cur ++ [c]) r
def split (s : List UInt8) : List (List UInt8) := splitTo [] s

/-- One part walked. -/
def stepW (row : List (List UInt8)) (p : List UInt8) : List (List UInt8) × Int :=
  if p = [46] then (row, 0) else if p = [46, 46] then (if row = [] then ([], 2) else (row.dropLast, 0)) else if plainP p then (row ++ [p], 0) else ([], 1)
/-- All parts walked; the row, or a code. -/
def walkP : List (List UInt8) → List (List UInt8) → List (List UInt8) × Int
  | row, [] => (row, 0)
  | row, p :: ps => if (stepW row p).2 = 0 then walkP (stepW row p).1 ps else ([], (stepW row p).2)

/-- With slashes between. -/
def joinS (xs : List (List UInt8)) : List UInt8 := Lib.join xs [47]

/-- The answer out of what the walk came to. -/
def fin (r : List (List UInt8) × Int) : Int × List UInt8 :=
  if r.2 = 0 then (if joinS r.1 = [] then (1, []) else if 60 < (joinS r.1).length then (3, []) else (0, joinS r.1)) else (r.2, [])
def nm (row : List (List UInt8)) (s : List UInt8) : Int × List UInt8 := if 60 < s.length then (3, []) else fin (walkP row (split s))

theorem splitTo_ne (cur s : List UInt8) : splitTo cur s ≠ [] := by
  cases s with
  | nil => simp [splitTo]
  | cons c r => by_cases h : c = 47
                · simp [splitTo, h]
                · simp only [splitTo, h, if_false]
                  exact splitTo_ne _ _

theorem walkP_append (row : List (List UInt8)) (a b : List (List UInt8)) :
    walkP row (a ++ b) = if (walkP row a).2 = 0 then walkP (walkP row a).1 b else walkP row a := by
  induction a generalizing row with
  | nil => simp [walkP]
  | cons p ps ih =>
    simp only [List.cons_append, walkP]
    by_cases h : (stepW row p).2 = 0
    · simp only [h, if_true]; exact ih _
    · simp [h]

theorem joinS_nil : joinS [] = [] := rfl
theorem joinS_one (p : List UInt8) : joinS [p] = p := Lib.join_one p [47]
theorem joinS_snoc (xs : List (List UInt8)) (p : List UInt8) (h : xs ≠ []) : joinS (xs ++ [p]) = joinS xs ++ [47] ++ p := by
  cases xs with
  | nil => exact absurd rfl h
  | cons x r =>
    unfold joinS
    rw [List.cons_append, Lib.join_cons, Lib.join_cons]
    simp [Lib.joinTail, List.append_assoc]

/-- How long a walked row may get. -/
def total (xs : List (List UInt8)) : Nat := Lib.lens xs + xs.length

theorem total_snoc (xs : List (List UInt8)) (p : List UInt8) : total (xs ++ [p]) = total xs + p.length + 1 := by
  simp [total, Lib.lens]; omega
theorem total_dropLast (xs : List (List UInt8)) : total xs.dropLast ≤ total xs := by
  rw [List.dropLast_eq_take]
  have := Lib.lens_take_le xs (xs.length - 1)
  simp only [total, List.length_take]; omega
theorem total_stepW (row : List (List UInt8)) (p : List UInt8) : total (stepW row p).1 ≤ total row + p.length + 1 := by
  unfold stepW
  split
  · simp only; omega
  · split
    · split
      · simp [total, Lib.lens]
      · have := total_dropLast row; simp only; omega
    · split
      · simp only; rw [total_snoc]; omega
      · simp [total, Lib.lens]
theorem total_walkP (row ps : List (List UInt8)) : total (walkP row ps).1 ≤ total row + total ps := by
  induction ps generalizing row with
  | nil => simp [walkP, total, Lib.lens]
  | cons p ps ih =>
    have h1 := total_stepW row p
    have h2 : total (p :: ps) = p.length + 1 + total ps := by simp [total, Lib.lens]; omega
    simp only [walkP]
    split
    · have := ih (stepW row p).1; omega
    · simp [total, Lib.lens]
theorem total_splitTo (cur s : List UInt8) : total (splitTo cur s) = cur.length + s.length + 1 := by
  induction s generalizing cur with
  | nil => simp [splitTo, total, Lib.lens]
  | cons c r ih =>
    unfold splitTo
    split
    · have h := ih []
      have h2 : total (cur :: splitTo [] r) = cur.length + 1 + total (splitTo [] r) := by simp [total, Lib.lens]; omega
      rw [h2, h]; simp; omega
    · rw [ih]; simp; omega
theorem total_split (s : List UInt8) : total (split s) = s.length + 1 := by
  unfold split; rw [total_splitTo]; simp
theorem length_split (s : List UInt8) : (split s).length ≤ s.length + 1 := by
  have := total_split s; unfold total at this; omega

end Go.Proofs.YtimgafblpmjajabGreat.Pl
