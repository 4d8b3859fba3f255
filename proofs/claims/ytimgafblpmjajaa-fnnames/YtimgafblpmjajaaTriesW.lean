import Derived.Test.YtimgafblpmjajaaTriesS
namespace Go.Proofs.Ytimgafblpmjajaa
open Go.RowKit

theorem tries_len (L : List (List UInt8)) (f s : List UInt8) : (Pl.tries L f s).length ≤ 1048576 := by
  unfold Pl.tries
  split
  · simp
  · rename_i h8
    split
    · split <;> simp
    · split
      · have h := under_len L (Pl.nm [] s).2 L.length (Nat.le_refl _)
        rw [List.take_of_length_le (Nat.le_refl _)] at h; omega
      · simp

theorem apart_of_lt {w w' : World} {b1 b2 : Nat} {e1 e2 : TypeId} {s1 s2 n1 n2 : Nat} {v1 v2 : Value} {x1 x2 : List Value} (h1 : w.ownsRow b1 e1 s1 v1 n1 x1) (h2 : w'.ownsRow b2 e2 s2 v2 n2 x2) (hle : w.heap.size ≤ b2) : Apart v2 v1 ∧ Apart v1 v2 := by
  have key : ∀ g, v1.ownBlock = some g → v2.ownBlock = some g → False := fun g e1 e2 => by
    have a1 := (h1.lt g e1).2
    have a2 := (h2.lt g e2).1
    omega
  constructor
  · cases hv : v1.ownBlock with
    | none => exact .inl hv
    | some g => exact .inr (fun e => key g hv (by rw [← e]; exact hv))
  · cases hv : v2.ownBlock with
    | none => exact .inl hv
    | some g => exact .inr (fun e => key g (by rw [← e]; exact hv) hv)

theorem own_drewN {w : World} {base : Nat} {e : TypeId} {size : Nat} {v : Value} {n : Nat} {xs : List Value} (h : w.ownsRow base e size v n xs) (m : Nat) : (w.drewN m).ownsRow base e size v n xs := h

set_option maxHeartbeats 4000000 in
set_option maxRecDepth 100000 in
theorem lawTries (v0 : Value) (L : List (List UInt8)) (f s : ByteArray) (w : World) (hv : Strs w v0 L) (hl : Pl.total L ≤ 1048576) (hL : ∀ l ∈ L, l.length ≤ maxLen) (hf : f.size ≤ 1048576) (hs : s.size ≤ 1048576) :
    Calls Try.prog 6 #[v0, .string f, .string s] w fun e w' => e = .returned (.bool true) ∧ Below w.heap.size w w' := by
  have hTl := tries_len L f.data.toList s.data.toList
  have hsz := sz_any v0 L w hv hL
  rw [if_pos hl] at hsz
  have hspec : ∀ (v : Value) (W : World), Strs W v L → Calls Try.prog 13 #[v, .string f, .string s] W fun e w' => ∃ v', e = .returned v' ∧ w'.ownsRow W.heap.size 9 1 v' (Pl.tries L f.data.toList s.data.toList).length ((Pl.tries L f.data.toList s.data.toList).map strV) ∧ Below W.heap.size W w' := fun v W h => specTries_any v L f s W h hl hf hs
  have himpl : ∀ (v : Value) (W : World), Strs W v L → Calls Try.prog 11 #[v, .string f, .string s] W fun e w' => ∃ v', e = .returned v' ∧ w'.ownsRow W.heap.size 9 1 v' (Pl.tries L f.data.toList s.data.toList).length ((Pl.tries L f.data.toList s.data.toList).map strV) ∧ Below W.heap.size W w' := fun v W h => implTries_any v L f s W h hl hs
  have hll : L.length ≤ 1048576 := by unfold Pl.total at hl; omega
  obtain ⟨tot, htot⟩ : ∃ tot, tot = Pl.total L := ⟨_, rfl⟩
  rw [← htot] at hsz hl
  generalize Pl.tries L f.data.toList s.data.toList = T at *
  have HS : Hid (∀ (v : Value) (W : World), Strs W v L → Calls Try.prog 13 #[v, .string f, .string s] W fun e w' => ∃ v', e = .returned v' ∧ w'.ownsRow W.heap.size 9 1 v' T.length (T.map strV) ∧ Below W.heap.size W w') := hspec
  have HI : Hid (∀ (v : Value) (W : World), Strs W v L → Calls Try.prog 11 #[v, .string f, .string s] W fun e w' => ∃ v', e = .returned v' ∧ w'.ownsRow W.heap.size 9 1 v' T.length (T.map strV) ∧ Below W.heap.size W w') := himpl
  have HV : Hid (Strs w v0 L) := hv
  clear hspec himpl htot hL hv
  go_enter Try.func6, Try.ntmps6
  go_wp2_with fail
  refine hsz.mono ?_
  rintro e w' ⟨rfl, rfl⟩
  go_wp2_with fail
  -- toStringS(aRoots)
  refine (toS_any v0 L _ HV.out hll).mono ?_
  rintro e w1 ⟨va, rfl, ra, hb1⟩
  go_wp2_with fail
  -- spec.Tries
  refine (HS.out va w1 (Strs.of_row ra)).mono ?_
  rintro e w2 ⟨vw, rfl, rw2, hb2⟩
  have B2 : Below w'.heap.size w' w2 := hb1.trans (hb2.mono hb1.size)
  go_wp2_with fail
  refine (toS_any v0 L _ (HV.out.below B2 (Nat.le_refl _)) hll).mono ?_
  rintro e w3 ⟨vx, rfl, rx3, hb3⟩
  have B3 : Below w'.heap.size w' w3 := B2.trans (hb3.mono B2.size)
  have rw3 := own_below rw2 hb3 (Nat.le_refl _)
  have apwx := apart_of_lt rw2 rx3 (Nat.le_refl _)
  go_wp2_with fail
  refine (HI.out vx w3 (Strs.of_row rx3)).mono ?_
  rintro e w4 ⟨vg, rfl, rg4, hb4⟩
  have B4 : Below w'.heap.size w' w4 := B3.trans (hb4.mono B3.size)
  have rw4 := own_below rw3 hb4 (Nat.le_refl _)
  have rx4 := own_below rx3 hb4 (Nat.le_refl _)
  have apwg := apart_of_lt rw3 rg4 (Nat.le_refl _)
  have apxg := apart_of_lt rx3 rg4 (Nat.le_refl _)
  have z2 := B2.size
  have z3 := B3.size
  clear hb1 hb2 hb3 hb4 ra rw2 rx3 rw3 B2
  go_wp2_with fail
  refine (eqS_any vg vw T w4 (Strs.of_row rg4) (Strs.of_row rw4) hTl).mono ?_
  rintro e w5 ⟨rfl, n1, rfl⟩
  go_wp2_with fail
  refine (toS_any v0 L _ (HV.out.below (below_drewN B4 n1) (Nat.le_refl _)) hll).mono ?_
  rintro e w5 ⟨vy, rfl, ry5, hb5⟩
  have B5 : Below w'.heap.size w' w5 := (below_drewN B4 n1).trans (hb5.mono B4.size)
  have rw5 := own_below (own_drewN rw4 n1) hb5 (Nat.le_refl _)
  have rx5 := own_below (own_drewN rx4 n1) hb5 (Nat.le_refl _)
  have rg5 := own_below (own_drewN rg4 n1) hb5 (Nat.le_refl _)
  have z45 : w4.heap.size ≤ w5.heap.size := hb5.size
  clear rw4 rx4 hb5
  go_wp2_with fail
  refine (eqS_any vx vy L w5 (Strs.of_row rx5) (Strs.of_row ry5) hll).mono ?_
  rintro e w6 ⟨rfl, n2, rfl⟩
  go_wp2_with fail
  refine (mark_any _ vx L.length _ _ (own_drewN rx5 n2) hll).mono ?_
  rintro e w6 ⟨rfl, rx6, hg6⟩
  have rw6 := (own_drewN rw5 n2).kept hg6 apwx.1
  have rg6 := (own_drewN rg5 n2).kept hg6 apxg.2
  have B6 : Below w'.heap.size w' w6 := (below_drewN B5 n2).grown hg6 B5.size (fun k e => Nat.le_trans z2 (rx6.lt k e).1)
  clear hg6 rw5 rx5 rg5 ry5
  go_wp2_with fail
  refine (eqS_any vg vw T w6 (Strs.of_row rg6) (Strs.of_row rw6) hTl).mono ?_
  rintro e w7 ⟨rfl, n3, rfl⟩
  go_wp2_with fail
  refine (mark_any _ vg T.length _ _ (own_drewN rg6 n3) hTl).mono ?_
  rintro e w7 ⟨rfl, rg7, hg7⟩
  have rw7 := (own_drewN rw6 n3).kept hg7 apwg.1
  have B7 : Below w'.heap.size w' w7 := (below_drewN B6 n3).grown hg7 B6.size (fun k e => Nat.le_trans z3 (rg7.lt k e).1)
  clear hg7 rw6 rg6 rx6
  go_wp2_with fail
  refine (held_any _ vg T.length _ rg7 hTl).mono ?_
  rintro e w8 ⟨rfl, hb8⟩
  have rw8 := own_below rw7 hb8 (Nat.le_refl _)
  have rg8 := own_below rg7 hb8 (Nat.le_refl _)
  have B8 : Below w'.heap.size w' w8 := B7.trans (hb8.mono B7.size)
  clear rw7 rg7 hb8
  go_wp2_with fail
  refine (toS_any v0 L _ (HV.out.below B8 (Nat.le_refl _)) hll).mono ?_
  rintro e w9 ⟨vz, rfl, rz9, hb9⟩
  have rw9 := own_below rw8 hb9 (Nat.le_refl _)
  have rg9 := own_below rg8 hb9 (Nat.le_refl _)
  have B9 : Below w'.heap.size w' w9 := B8.trans (hb9.mono B8.size)
  clear rw8 rg8 hb9
  go_wp2_with fail
  refine (HI.out vz w9 (Strs.of_row rz9)).mono ?_
  rintro e w10 ⟨vh, rfl, rh10, hb10⟩
  have rw10 := own_below rw9 hb10 (Nat.le_refl _)
  have rg10 := own_below rg9 hb10 (Nat.le_refl _)
  have B10 : Below w'.heap.size w' w10 := B9.trans (hb10.mono B9.size)
  clear rw9 rg9 hb10
  go_wp2_with fail
  refine (eqS_any vh vw T w10 (Strs.of_row rh10) (Strs.of_row rw10) hTl).mono ?_
  rintro e w11 ⟨rfl, n4, rfl⟩
  go_wp2_with fail
  refine (held_any _ vg T.length _ (own_drewN rg10 n4) hTl).mono ?_
  rintro e w12 ⟨rfl, hb12⟩
  have B12 : Below w'.heap.size w' w12 := (below_drewN B10 n4).trans (hb12.mono B10.size)
  go_wp2
  go_ret
  exact ⟨rfl, B12⟩

end Go.Proofs.Ytimgafblpmjajaa
