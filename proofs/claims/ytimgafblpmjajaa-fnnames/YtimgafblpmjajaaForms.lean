import Derived.Test.YtimgafblpmjajaaNear
import Derived.Test.YtimgafblpmjajaaTriesI
namespace Go.Proofs.Ytimgafblpmjajaa.Pl

theorem mem_dropLast {α : Type} {x : α} {l : List α} (h : x ∈ l.dropLast) : x ∈ l := by
  rw [List.dropLast_eq_take] at h; exact List.mem_of_mem_take h

def AllPlain (row : List (List UInt8)) : Prop := ∀ p ∈ row, plainP p = true

theorem plain_ok {p : List UInt8} (h : plainP p = true) : p ≠ [] ∧ ∀ c ∈ p, okB c = true := by
  unfold plainP at h
  rw [Bool.and_eq_true] at h
  refine ⟨?_, List.all_eq_true.1 h.2⟩
  intro e; rw [e] at h; simp at h
theorem plain_47 {p : List UInt8} (h : plainP p = true) : ∀ c ∈ p, c ≠ 47 := fun c hc e => by
  have := (plain_ok h).2 c hc; rw [e] at this; revert this; decide
theorem plain_dot {p : List UInt8} (h : plainP p = true) : p ≠ [46] ∧ p ≠ [46, 46] := by
  constructor
  · intro e; have := (plain_ok h).2 46 (by rw [e]; simp); revert this; decide
  · intro e; have := (plain_ok h).2 46 (by rw [e]; simp); revert this; decide

theorem stepW_plain (row : List (List UInt8)) (p : List UInt8) (h : AllPlain row) : AllPlain (stepW row p).1 := by
  unfold stepW
  split
  · exact h
  · split
    · split
      · intro q hq; simp at hq
      · intro q hq; exact h q (mem_dropLast hq)
    · split
      · intro q hq
        rcases List.mem_append.1 hq with h1 | h1
        · exact h q h1
        · simp at h1; subst h1; assumption
      · intro q hq; simp at hq
theorem walkP_plain (row ps : List (List UInt8)) (h : AllPlain row) : AllPlain (walkP row ps).1 := by
  induction ps generalizing row with
  | nil => exact h
  | cons p ps ih =>
    simp only [walkP]
    split
    · exact ih _ (stepW_plain row p h)
    · intro q hq; simp at hq

theorem walkP_self (pre row : List (List UInt8)) (h : AllPlain row) : walkP pre row = (pre ++ row, 0) := by
  induction row generalizing pre with
  | nil => simp [walkP]
  | cons p r ih =>
    have hp := h p (by simp)
    have hs : stepW pre p = (pre ++ [p], 0) := by
      unfold stepW; rw [if_neg (plain_dot hp).1, if_neg (plain_dot hp).2, if_pos hp]
    simp only [walkP, hs, if_true]
    rw [ih _ (fun q hq => h q (by simp [hq]))]
    simp

theorem splitTo_plain (cur p : List UInt8) (h : ∀ c ∈ p, c ≠ 47) (rest : List UInt8) : splitTo cur (p ++ rest) = splitTo (cur ++ p) rest := by
  induction p generalizing cur with
  | nil => simp
  | cons c r ih =>
    have hc := h c (by simp)
    simp only [List.cons_append, splitTo, hc, if_false]
    rw [ih _ (fun d hd => h d (by simp [hd]))]
    simp
theorem split_joinS (row : List (List UInt8)) (hne : row ≠ []) (h : AllPlain row) : split (joinS row) = row := by
  cases row with
  | nil => exact absurd rfl hne
  | cons p r =>
    unfold joinS
    rw [Lib.join_cons]
    have key : ∀ (r : List (List UInt8)) (p : List UInt8), AllPlain (p :: r) → splitTo [] (p ++ Lib.joinTail [47] r) = p :: r := by
      intro r
      induction r with
      | nil =>
        intro p h
        have := splitTo_plain [] p (plain_47 (h p (by simp))) []
        rw [show Lib.joinTail [47] [] = [] from rfl, this]; simp [splitTo]
      | cons q r ih =>
        intro p h
        rw [show Lib.joinTail [47] (q :: r) = 47 :: (q ++ Lib.joinTail [47] r) by simp [Lib.joinTail], splitTo_plain [] p (plain_47 (h p (by simp)))]
        simp only [splitTo, if_true, List.nil_append]
        rw [ih q (fun x hx => h x (List.mem_cons_of_mem _ hx))]
    exact key r p h

/-- What comes out with code 0 is in its one form. -/
theorem nm_form (R : List (List UInt8)) (s x : List UInt8) (hR : AllPlain R) (h : nm R s = (0, x)) : ∃ row, AllPlain row ∧ row ≠ [] ∧ x = joinS row ∧ nm [] x = (0, x) := by
  unfold nm at h
  split at h
  · simp at h
  · unfold fin at h
    split at h
    · split at h
      · simp at h
      · split at h
        · simp at h
        · rename_i h60 h0 hj hl
          have hx : joinS (walkP R (split s)).1 = x := by simpa using h
          have hp := walkP_plain R (split s) hR
          have hne : (walkP R (split s)).1 ≠ [] := fun e => hj (by rw [e]; rfl)
          refine ⟨_, hp, hne, hx.symm, ?_⟩
          rw [hx] at hj hl
          unfold nm fin
          rw [if_neg hl]
          have hsx : split x = (walkP R (split s)).1 := by rw [← hx]; exact split_joinS _ hne hp
          rw [hsx, walkP_self [] _ hp]
          simp only [List.nil_append, if_true]
          rw [hx, if_neg hj, if_neg hl]
    · rename_i h60 hc
      have : (walkP R (split s)).2 = 0 := by simpa using congrArg Prod.fst h
      exact absurd this hc

theorem nm_idem (s x : List UInt8) (h : nm [] s = (0, x)) : nm [] x = (0, x) := by
  obtain ⟨_, _, _, _, h'⟩ := nm_form [] s x (fun p hp => by simp at hp) h
  exact h'

theorem nm_code (R : List (List UInt8)) (s : List UInt8) : (nm R s).1 ≠ 4 := by
  have hw : ∀ (R ps : List (List UInt8)), (walkP R ps).2 = 0 ∨ (walkP R ps).2 = 1 ∨ (walkP R ps).2 = 2 := by
    intro R ps
    induction ps generalizing R with
    | nil => left; rfl
    | cons p ps ih =>
      simp only [walkP]
      split
      · exact ih _
      · unfold stepW
        split
        · left; rfl
        · split
          · split
            · right; right; rfl
            · left; rfl
          · split
            · left; rfl
            · right; left; rfl
  unfold nm
  split
  · decide
  · unfold fin
    split
    · split
      · decide
      · split
        · decide
        · show (0 : Int) ≠ 4; decide
    · rcases hw R (split s) with h | h | h <;> rw [h] <;> decide

theorem wn_code (f s : List UInt8) : (wn f s).1 = 4 ↔ (nm [] f).1 ≠ 0 := by
  unfold wn
  split
  · rename_i h; exact ⟨fun e => absurd e (nm_code _ _), fun e => absurd h e⟩
  · rename_i h; exact ⟨fun _ => h, fun _ => rfl⟩

theorem wn_idem (f s x : List UInt8) (h : wn f s = (0, x)) : nm [] x = (0, x) := by
  unfold wn at h
  split at h
  · rename_i h0
    have hR : AllPlain (split (nm [] f).2).dropLast := by
      obtain ⟨c, y, hy⟩ : ∃ c y, nm [] f = (c, y) := ⟨_, _, rfl⟩
      rw [hy] at h0 ⊢
      simp only at h0
      subst h0
      obtain ⟨row, hp, hne, hj, _⟩ := nm_form [] f y (fun p hp => by simp at hp) hy
      simp only
      rw [hj, split_joinS row hne hp]
      intro p hp'; exact hp p (mem_dropLast hp')
    obtain ⟨_, _, _, _, h'⟩ := nm_form _ s x hR h
    exact h'
  · simp at h

/-- Every try is in its one form. -/
theorem under_clean (L : List (List UInt8)) (n : List UInt8) : (∀ t ∈ under L n, nm [] t = (0, t)) ∧ (under L n).Nodup := by
  have key : ∀ k, k ≤ L.length → (∀ t ∈ under (L.take k) n, nm [] t = (0, t)) ∧ (under (L.take k) n).Nodup := by
    intro k
    induction k with
    | zero => intro _; exact ⟨fun t ht => by simp [under] at ht, by simp [under]⟩
    | succ k ih =>
      intro hk
      obtain ⟨h1, h2⟩ := ih (by omega)
      rw [under_succ L n k (by omega)]
      obtain ⟨c, x, hx⟩ : ∃ c x, nm [] (rooted L[k] n) = (c, x) := ⟨_, _, rfl⟩
      rw [hx]
      unfold addTry
      split
      · rename_i hc
        simp only at hc
        subst hc
        split
        · exact ⟨h1, h2⟩
        · rename_i hm
          refine ⟨fun t ht => ?_, ?_⟩
          · rcases List.mem_append.1 ht with h | h
            · exact h1 t h
            · simp at h; subst h; exact nm_idem _ _ hx
          · rw [List.nodup_append]
            refine ⟨h2, by simp, fun a ha b hb e => ?_⟩
            simp at hb; subst hb; subst e; exact hm ha
      · exact ⟨h1, h2⟩
  have := key L.length (Nat.le_refl _)
  rwa [List.take_of_length_le (Nat.le_refl _)] at this

theorem tries_clean (L : List (List UInt8)) (f s : List UInt8) : (∀ t ∈ tries L f s, nm [] t = (0, t)) ∧ (tries L f s).Nodup := by
  unfold tries
  split
  · exact ⟨fun t ht => by simp at ht, by simp⟩
  · split
    · split
      · rename_i h
        refine ⟨fun t ht => ?_, by simp⟩
        simp at ht
        exact wn_idem f s t (by rw [ht, ← h])
      · exact ⟨fun t ht => by simp at ht, by simp⟩
    · split
      · exact under_clean _ _
      · exact ⟨fun t ht => by simp at ht, by simp⟩

end Go.Proofs.Ytimgafblpmjajaa.Pl
