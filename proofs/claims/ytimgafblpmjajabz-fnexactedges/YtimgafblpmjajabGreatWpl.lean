
import Derived.Test.YtimgafblpmjajabGreatWln

namespace Go.Proofs.YtimgafblpmjajabGreat

open Go.RowKit

/-- The first i from 0 on, below n, at which p says yes; n for none. -/
def firstN (p : Nat → Bool) : Nat → Nat → Nat
  | 0, i => i
  | f + 1, i => if p i then i else firstN p f (i + 1)
theorem firstN_skip (p : Nat → Bool) : ∀ (d f i : Nat), (∀ j, i ≤ j → j < i + d → p j = false) → firstN p (d + f) i = firstN p f (i + d)
  | 0, f, i, _ => by rw [Nat.zero_add, Nat.add_zero]
  | d + 1, f, i, h => by
    rw [Nat.succ_add, firstN, h i (Nat.le_refl _) (by omega), if_neg (by decide), firstN_skip p d f (i + 1) (fun j h1 h2 => h j (by omega) (by omega)), Nat.add_right_comm, Nat.add_assoc]
theorem firstN_hit {p : Nat → Bool} {n k : Nat} (hk : k < n) (hall : ∀ j, j < k → p j = false) (hp : p k = true) : firstN p n 0 = k := by
  obtain ⟨f, rfl⟩ : ∃ f, n = k + (f + 1) := ⟨n - k - 1, by omega⟩
  rw [firstN_skip p k (f + 1) 0 (fun j _ h => hall j (by omega)), Nat.zero_add, firstN, if_pos hp]
theorem firstN_none {p : Nat → Bool} {n : Nat} (hall : ∀ j, j < n → p j = false) : firstN p n 0 = n := by
  have := firstN_skip p n 0 0 (fun j _ h => hall j (by omega))
  rw [Nat.add_zero] at this
  rw [this, Nat.zero_add, firstN]

/-- A name in its one form. -/
def isN (s : List UInt8) : Bool := decide ((Pl.nm [] s).1 = 0) && decide ((Pl.nm [] s).2 = s)
theorem nm_code (s : List UInt8) (h : (Pl.nm [] s).1 ≠ 0) : (Pl.nm [] s).2 = [] := by
  unfold Pl.nm at h ⊢
  split
  · rfl
  · rename_i h60
    rw [if_neg h60] at h
    unfold Pl.fin at h ⊢
    split
    · rename_i h0
      rw [if_pos h0] at h
      split
      · rfl
      · rename_i hj
        rw [if_neg hj] at h
        split
        · rfl
        · rename_i h6
          rw [if_neg h6] at h
          exact absurd rfl h
    · rfl
def oddRoot (r : List UInt8) : Bool := decide (r ≠ []) && !isN r
theorem oddRoot_spec (r : List UInt8) : oddRoot r = (decide (r ≠ []) && decide ((Pl.nm [] r).2 ≠ r)) := by
  unfold oddRoot isN
  by_cases hr : r = []
  · simp [hr]
  · by_cases hc : (Pl.nm [] r).1 = 0
    · simp [hc]
    · have := nm_code r hc
      rw [this]
      simp [hc, hr]

/-- Faults that ascend behind 'last', below 400. -/
def asc : Int → List Int → Bool
  | _, [] => true
  | last, f :: r => if f ≤ last ∨ 400 ≤ f then false else asc f r
def ascTo (L : List Int) (k : Nat) : Option Int := if asc (-1) (L.take k) then some (if k = 0 then -1 else (L[k - 1]?).getD 0) else none

/-- The i-th module is none that may stand there. -/
def badMd (M : List Md) (i : Nat) : Bool :=
  match M[i]? with
  | none => false
  | some m => !isN m.name || decide (60 < m.lines.length) || (M.take i).any (fun k => decide (k.name = m.name))
def badLn (L : List Ln) (i : Nat) : Bool :=
  match L[i]? with
  | none => false
  | some l => !okLn L.length i l
def badLns (M : List Md) (i : Nat) : Bool :=
  match M[i]? with
  | none => false
  | some m => decide (firstN (badLn m.lines) m.lines.length 0 < m.lines.length)
/-- The first fault of a world. -/
def wok (D : Wd) : Int × Int × Int :=
  if 60 < D.mods.length ∨ 8 < D.roots.length ∨ 400 < D.faults.length then (1, 0, 0)
  else if D.roots.any oddRoot then (2, 0, 0)
  else if !asc (-1) D.faults then (3, 0, 0)
  else if firstN (badMd D.mods) D.mods.length 0 < D.mods.length then (4, (firstN (badMd D.mods) D.mods.length 0 : Nat), 0)
  else match D.mods[firstN (badLns D.mods) D.mods.length 0]? with
    | none => (0, 0, 0)
    | some m => (5, (firstN (badLns D.mods) D.mods.length 0 : Nat), (firstN (badLn m.lines) m.lines.length 0 : Nat))

theorem badMd_at {M : List Md} {i : Nat} (hi : i < M.length) : badMd M i = (!isN M[i].name || decide (60 < M[i].lines.length) || (M.take i).any (fun k => decide (k.name = M[i].name))) := by
  unfold badMd; rw [List.getElem?_eq_getElem hi]
theorem badLn_at {L : List Ln} {i : Nat} (hi : i < L.length) : badLn L i = !okLn L.length i L[i] := by
  unfold badLn; rw [List.getElem?_eq_getElem hi]
theorem badLns_at {M : List Md} {i : Nat} (hi : i < M.length) : badLns M i = decide (firstN (badLn M[i].lines) M[i].lines.length 0 < M[i].lines.length) := by
  unfold badLns; rw [List.getElem?_eq_getElem hi]

theorem wok_1 {D : Wd} (h : 60 < D.mods.length ∨ 8 < D.roots.length ∨ 400 < D.faults.length) : wok D = (1, 0, 0) := by unfold wok; rw [if_pos h]
theorem wok_2 {D : Wd} (h : ¬ (60 < D.mods.length ∨ 8 < D.roots.length ∨ 400 < D.faults.length)) (h2 : D.roots.any oddRoot = true) : wok D = (2, 0, 0) := by unfold wok; rw [if_neg h, if_pos h2]
theorem wok_3 {D : Wd} (h : ¬ (60 < D.mods.length ∨ 8 < D.roots.length ∨ 400 < D.faults.length)) (h2 : D.roots.any oddRoot = false) (h3 : asc (-1) D.faults = false) : wok D = (3, 0, 0) := by
  unfold wok; rw [if_neg h, if_neg (by rw [h2]; decide), if_pos (by rw [h3]; rfl)]
theorem wok_4 {D : Wd} (h : ¬ (60 < D.mods.length ∨ 8 < D.roots.length ∨ 400 < D.faults.length)) (h2 : D.roots.any oddRoot = false) (h3 : asc (-1) D.faults = true) {k : Nat} (hk : k < D.mods.length) (hf : firstN (badMd D.mods) D.mods.length 0 = k) : wok D = (4, (k : Int), 0) := by
  unfold wok; rw [if_neg h, if_neg (by rw [h2]; decide), if_neg (by rw [h3]; decide), hf, if_pos hk]
theorem wok_5 {D : Wd} (h : ¬ (60 < D.mods.length ∨ 8 < D.roots.length ∨ 400 < D.faults.length)) (h2 : D.roots.any oddRoot = false) (h3 : asc (-1) D.faults = true) (h4 : firstN (badMd D.mods) D.mods.length 0 = D.mods.length)
    {k : Nat} (hk : k < D.mods.length) (hf : firstN (badLns D.mods) D.mods.length 0 = k) : wok D = (5, (k : Int), ((firstN (badLn D.mods[k].lines) D.mods[k].lines.length 0 : Nat) : Int)) := by
  unfold wok; rw [if_neg h, if_neg (by rw [h2]; decide), if_neg (by rw [h3]; decide), h4, if_neg (by omega), hf, List.getElem?_eq_getElem hk]
theorem wok_0 {D : Wd} (h : ¬ (60 < D.mods.length ∨ 8 < D.roots.length ∨ 400 < D.faults.length)) (h2 : D.roots.any oddRoot = false) (h3 : asc (-1) D.faults = true) (h4 : firstN (badMd D.mods) D.mods.length 0 = D.mods.length)
    (h5 : firstN (badLns D.mods) D.mods.length 0 = D.mods.length) : wok D = (0, 0, 0) := by
  unfold wok; rw [if_neg h, if_neg (by rw [h2]; decide), if_neg (by rw [h3]; decide), h4, if_neg (by omega), h5, List.getElem?_eq_none (Nat.le_refl _)]

/-- Faults, round by round. -/
theorem asc_snoc (last : Int) (L : List Int) (f : Int) (hlast : asc last L = true) : asc last (L ++ [f]) = if f ≤ (L.getLastD last) ∨ 400 ≤ f then false else true := by
  induction L generalizing last with
  | nil => simp [asc]
  | cons x r ih =>
    simp only [asc] at hlast
    split at hlast
    · cases hlast
    · rename_i hx
      rw [List.cons_append, asc, if_neg hx, ih x hlast]
      simp only [List.getLastD_cons]
theorem asc_append_false (last : Int) (L R : List Int) (h : asc last L = false) : asc last (L ++ R) = false := by
  induction L generalizing last with
  | nil => simp [asc] at h
  | cons x r ih =>
    simp only [asc] at h
    rw [List.cons_append, asc]
    split
    · rfl
    · rename_i hx; rw [if_neg hx] at h; exact ih x h
end Go.Proofs.YtimgafblpmjajabGreat
