import Derived.Test.YtimgafblpmjajaaTries
namespace Go.Proofs.Ytimgafblpmjajaa
open Go.RowKit

theorem lit_one (W : World) (B : Nat) (x : List UInt8) (hB : B ≤ W.heap.size) : (W.alloc (.cells #[strV x] 9)).ownsRow B 9 1 (.slice (some ⟨W.heap.size, 0, none⟩) 1 1) [x].length ([x].map strV) :=
  World.ownsRow_lit W #[strV x] 1 hB (by decide) rfl

theorem lit_one49 (W : World) (B : Nat) (x : List UInt8) (hB : B ≤ W.heap.size) : (W.alloc (.cells #[strV x] 49)).ownsRow B 49 1 (.slice (some ⟨W.heap.size, 0, none⟩) 1 1) [x].length ([x].map strV) :=
  World.ownsRow_lit W #[strV x] 1 hB (by decide) rfl

set_option maxHeartbeats 1000000 in
set_option maxRecDepth 100000 in
theorem formsToTry_any (vr : Value) (L : List (List UInt8)) (f s : ByteArray) (w : World) (hv : Strs w vr L) (hl : Pl.total L ≤ 1048576) (hs : s.size ≤ 1048576) :
    Calls Try.prog 31 #[vr, .string f, .string s] w fun e w' => ∃ v, e = .returned v ∧ w'.ownsRow w.heap.size 49 1 v (Pl.tries L f.data.toList s.data.toList).length ((Pl.tries L f.data.toList s.data.toList).map strV) ∧ Below w.heap.size w w' := by
  have hv0 := hv
  obtain ⟨a, cap, rfl, hcap, hmax, hcell⟩ := hv
  clear hcell
  by_cases h8 : 8 < L.length
  · have hT : Pl.tries L f.data.toList s.data.toList = [] := by unfold Pl.tries; rw [if_pos h8]
    rw [hT]
    clear hT hv0
    go_enter Try.func31, Try.ntmps31
    go_wp2
    go_ret
    exact ⟨_, rfl, World.ownsRow_nil _ _ _ _, Below.refl _ _⟩
  · cases hnear : Pl.near s.data.toList with
    | true =>
      obtain ⟨c, x, hn⟩ : ∃ c x, Pl.wn f.data.toList s.data.toList = (c, x) := ⟨_, _, rfl⟩
      have hT : Pl.tries L f.data.toList s.data.toList = if c = 0 then [x] else [] := by unfold Pl.tries; rw [if_neg h8, hnear, if_pos rfl, hn]
      have hrel := isRelative_any s w hs
      rw [hnear] at hrel
      have HN : Hid (Pl.wn f.data.toList s.data.toList = (c, x)) := hn
      obtain ⟨t, htx⟩ : ∃ t : ByteArray, strV x = .string t := ⟨_, rfl⟩
      have HTX : Hid (strV x = .string t) := htx
      rw [hT]
      clear hT hn hnear hv0 htx
      by_cases hc0 : c = 0
      · rw [if_pos hc0]
        have hb0 : (c == 0) = true := by simpa using hc0
        have hb0' : (c != 0) = false := by simpa using hc0
        clear hc0
        go_enter Try.func31, Try.ntmps31
        go_wp2_with fail
        refine hrel.mono ?_
        rintro e w1 ⟨rfl, hb1⟩
        go_wp2_with fail
        refine (within_any f s _).mono ?_
        rw [HN.out]
        unfold formV
        rw [HTX.out]
        rintro e w2 ⟨rfl, hb2⟩
        have hb12 : Below w.heap.size w w2 := hb1.trans (hb2.mono hb1.size)
        have hz := hb12.size
        have hL : ((w2.alloc (.cells #[.string t] 49)).alloc (.cells #[.string t] 49)).ownsRow w.heap.size 49 1 (.slice (some ⟨(w2.alloc (.cells #[.string t] 49)).heap.size, 0, none⟩) 1 1) [x].length ([x].map strV) := by
          have := lit_one49 (w2.alloc (.cells #[.string t] 49)) w.heap.size x (by simp; omega)
          rw [HTX.out] at this; exact this
        go_wp2
        go_ret
        exact ⟨_, rfl, by simpa using hL, (hb12.alloc hz _).alloc (by simp; omega) _⟩
      · rw [if_neg hc0]
        have hb0 : (c == 0) = false := by simpa using hc0
        have hb0' : (c != 0) = true := by simpa using hc0
        clear hc0
        go_enter Try.func31, Try.ntmps31
        go_wp2_with fail
        refine hrel.mono ?_
        rintro e w1 ⟨rfl, hb1⟩
        go_wp2_with fail
        refine (within_any f s _).mono ?_
        rw [HN.out]
        unfold formV
        rw [HTX.out]
        rintro e w2 ⟨rfl, hb2⟩
        have hb12 : Below w.heap.size w w2 := hb1.trans (hb2.mono hb1.size)
        have hz := hb12.size
        go_wp2
        go_ret
        exact ⟨_, rfl, World.ownsRow_nil _ _ _ _, hb12.alloc hz _⟩
    | false =>
      obtain ⟨c, x, hn⟩ : ∃ c x, Pl.nm [] s.data.toList = (c, x) := ⟨_, _, rfl⟩
      have hT : Pl.tries L f.data.toList s.data.toList = if c = 0 then Pl.under L x else [] := by unfold Pl.tries; rw [if_neg h8, hnear, if_neg (by decide), hn]
      have hx60 : x.length ≤ 60 := by have := Pl.nm_len [] s.data.toList; rw [hn] at this; exact this
      have hrel := isRelative_any s w hs
      rw [hnear] at hrel
      have HN : Hid (Pl.nm [] s.data.toList = (c, x)) := hn
      obtain ⟨t, htx⟩ : ∃ t : ByteArray, t = ⟨x.toArray⟩ := ⟨_, rfl⟩
      have HTX : Hid (strV x = .string t) := by unfold Hid; rw [htx]; rfl
      have htd : t.data.toList = x := by rw [htx]
      have hts : t.size ≤ 60 := by rw [size_data, htd]; exact hx60
      have HTD : Hid (t.data.toList = x) := htd
      rw [hT]
      clear hT hn hnear htx htd
      have HW : Hid (∀ W : World, Calls Try.prog 26 #[.slice none 0 0, .string s] W fun e w' => e = .returned (.tuple #[.agg #[.string t], .int .i64 c]) ∧ Below W.heap.size W w') := fun W => by
        have := walk_any W.heap.size (.slice none 0 0) [] s W (World.ownsRow_nil _ _ _ _) (Nat.le_refl _) (by decide)
        rw [HN.out, formV, HTX.out] at this; exact this
      by_cases hc0 : c = 0
      · rw [if_pos hc0]
        have hb0 : (c == 0) = true := by simpa using hc0
        have hb0' : (c != 0) = false := by simpa using hc0
        clear hc0
        have HV0 : Hid (Strs w (.slice a L.length cap) L) := hv0
        clear hv0
        go_enter Try.func31, Try.ntmps31
        go_wp2_with fail
        refine hrel.mono ?_
        rintro e w1 ⟨rfl, hb1⟩
        go_wp2_with fail
        refine (HW.out _).mono ?_
        rintro e w2 ⟨rfl, hb2⟩
        have hb12 : Below w.heap.size w w2 := hb1.trans (hb2.mono hb1.size)
        have hz := hb12.size
        have hb3 : Below w.heap.size w (w2.alloc (.cells #[.string t] 49)) := hb12.alloc hz _
        go_wp2_with fail
        refine (underRoots_any _ L t _ (HV0.out.below hb3 (Nat.le_refl _)) hl hts).mono ?_
        rw [HTD.out]
        rintro e w3 ⟨v, rfl, hr, hb4⟩
        go_wp2
        go_ret
        exact ⟨_, rfl, own_mono hr (by simp; omega), hb3.trans (hb4.mono (by simp; omega))⟩
      · rw [if_neg hc0]
        have hb0 : (c == 0) = false := by simpa using hc0
        have hb0' : (c != 0) = true := by simpa using hc0
        clear hc0 hv0
        go_enter Try.func31, Try.ntmps31
        go_wp2_with fail
        refine hrel.mono ?_
        rintro e w1 ⟨rfl, hb1⟩
        go_wp2_with fail
        refine (HW.out _).mono ?_
        rintro e w2 ⟨rfl, hb2⟩
        have hb12 : Below w.heap.size w w2 := hb1.trans (hb2.mono hb1.size)
        have hz := hb12.size
        go_wp2
        go_ret
        exact ⟨_, rfl, World.ownsRow_nil _ _ _ _, hb12.alloc hz _⟩

theorem Pl.tries_len (L : List (List UInt8)) (f s : List UInt8) : (Pl.tries L f s).length ≤ 8 := by
  unfold Pl.tries
  split
  · simp
  · split
    · split <;> simp
    · split
      · have := under_len L (Pl.nm [] s).2 L.length (Nat.le_refl _)
        rw [List.take_length] at this
        omega
      · simp

set_option maxHeartbeats 1000000 in
set_option maxRecDepth 100000 in
theorem implTries_any (vr : Value) (L : List (List UInt8)) (f s : ByteArray) (w : World) (hv : Strs w vr L) (hl : Pl.total L ≤ 1048576) (hs : s.size ≤ 1048576) :
    Calls Try.prog 11 #[vr, .string f, .string s] w fun e w' => ∃ v, e = .returned v ∧ w'.ownsRow w.heap.size 9 1 v (Pl.tries L f.data.toList s.data.toList).length ((Pl.tries L f.data.toList s.data.toList).map strV) ∧ Below w.heap.size w w' := by
  obtain ⟨i9, hi, hz0, hz1, hz2⟩ := info_parts Try.info9
  have HCF := formsToTry_any vr L f s w hv hl hs
  obtain ⟨T, hT⟩ : ∃ T, T = Pl.tries L f.data.toList s.data.toList := ⟨_, rfl⟩
  have hT8 : T.length ≤ 8 := by rw [hT]; exact Pl.tries_len _ _ _
  rw [← hT] at HCF ⊢
  clear hT hv hl hs
  go_enter Try.func11, Try.ntmps11
  go_wp2_with fail
  refine HCF.mono ?_
  rintro e w1 ⟨v, rfl, hr, hb1⟩
  have hz1' := hb1.size
  obtain ⟨a, cap, rfl, hcap, hmax, hcell⟩ := row_shape49 hr
  have HC : Hid (∀ k, (hk : k < T.length) → ∃ g, a = some ⟨g, 0, none⟩ ∧ w.heap.size ≤ g ∧ g < w1.heap.size ∧ w1.cell? ⟨g, k, none⟩ = some (strV T[k])) := hcell
  clear hcell hmax hr
  go_wp2
  go_loopw [7, 15] (fun vt i wr => ∃ k : Nat, k ≤ T.length ∧ i = .int .i64 k ∧ wr.ownsRow w1.heap.size 9 1 vt (T.take k).length ((T.take k).map strV) ∧ Below w1.heap.size w1 wr) (fun _ i _ => T.length - (intOf i).toNat)
  case atStart => exact ⟨0, Nat.zero_le _, rfl, World.ownsRow_nil _ _ _ _, Below.refl _ _⟩
  case round =>
    obtain ⟨k, hk, rfl, ht, hB⟩ := hrel
    have hsz := hB.size
    by_cases hlt : k < T.length
    · obtain ⟨g, rfl, hg0, hg, hc⟩ := HC.out k hlt
      obtain ⟨q, hq⟩ : ∃ q : ByteArray, q = ⟨T[k].toArray⟩ := ⟨_, rfl⟩
      have hcq : wr.cell? ⟨g, k, none⟩ = some (.string q) := by rw [hB.cell (p := ⟨g, k, none⟩) hg, hc, hq]; rfl
      obtain ⟨U, hU⟩ : ∃ U, U = T.take k := ⟨_, rfl⟩
      have HF : Hid (T.take (k + 1) = U ++ [T[k]]) := by unfold Hid; rw [List.take_succ_eq_append_getElem hlt, hU]
      have HQ : Hid (Value.string q = strV T[k]) := by unfold Hid; rw [hq]; rfl
      have hul : U.length ≤ 8 := by rw [hU, List.length_take]; omega
      rw [← hU] at ht
      obtain ⟨at', capt, rfl, hcapt, _, _⟩ := row_shape ht
      have ht2 := ht.alloc (.cells #[.string q] 49)
      have hB2 : Below w1.heap.size w1 (wr.alloc (.cells #[.string q] 49)) := hB.alloc hsz _
      have hzz := hB2.size
      clear hc hq ht hB hU
      go_wp2_with (at_builtin; refine wpList_app1 _ rfl (.tmp 19) (.tmp 22) 27 rfl w1.heap.size 9 i9 (.string ByteArray.empty) 16 Try.underlying27 hi hz0 hz1 hz2 rfl _ _ _ rfl (ht2.alloc _) ⟨_, 0, none⟩ 1 (.string q) rfl (by have h := cell_one_new (wr.alloc (.cells #[.string q] 49)) (.string q) 9; rw [World.size_alloc] at h; exact h) (by simp [Value.oneCell']) (by unfold maxLen; omega) (by omega) (by simp; omega) ?_; intro vt' w4 ht4 hg4 hs4; have hB4 := below_append hB2 hzz ht2 hg4; clear ht2 hg4 hs4 hB2)
      rw [HQ.out] at ht4
      go_roundw
      case rel => exact ⟨k + 1, by omega, by go_num, by rw [HF.out]; simpa using ht4, hB4⟩
      case measure => simp [intOf]; omega
    · have hkL : T.take k = T := List.take_of_length_le (by omega)
      rw [hkL] at ht
      clear hkL
      go_wp2
      go_ret
      exact ⟨_, rfl, own_mono ht hz1', hb1.trans (hB.mono hz1')⟩

end Go.Proofs.Ytimgafblpmjajaa
