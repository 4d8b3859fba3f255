
import Derived.Test.YtimgafblpmjajabGreatTries

namespace Go.Proofs.YtimgafblpmjajabGreat

open Go.RowKit

theorem lit_one (W : World) (B : Nat) (x : List UInt8) (hB : B ≤ W.heap.size) : (W.alloc (.cells #[strV x] 9)).ownsRow B 9 1 (.slice (some ⟨W.heap.size, 0, none⟩) 1 1) [x].length ([x].map strV) :=
  World.ownsRow_lit W #[strV x] 1 hB (by decide) rfl

theorem lit_one49 (W : World) (B : Nat) (x : List UInt8) (hB : B ≤ W.heap.size) : (W.alloc (.cells #[strV x] 106)).ownsRow B 106 1 (.slice (some ⟨W.heap.size, 0, none⟩) 1 1) [x].length ([x].map strV) :=
  World.ownsRow_lit W #[strV x] 1 hB (by decide) rfl

set_option maxHeartbeats 1000000 in
set_option maxRecDepth 100000 in
theorem formsToTry_any (vr : Value) (L : List (List UInt8)) (f s : ByteArray) (w : World) (hv : Strs w vr L) (hl : Pl.total L ≤ 1048576) (hs : s.size ≤ 1048576) :
    Calls Tryz.prog 57 #[vr, .string f, .string s] w fun e w' => ∃ v, e = .returned v ∧ w'.ownsRow w.heap.size 106 1 v (Pl.tries L f.data.toList s.data.toList).length ((Pl.tries L f.data.toList s.data.toList).map strV) ∧ Below w.heap.size w w' := by
  have hv0 := hv
  obtain ⟨a, cap, rfl, hcap, hmax, hcell⟩ := hv
  clear hcell
  by_cases h8 : 8 < L.length
  · have hT : Pl.tries L f.data.toList s.data.toList = [] := by unfold Pl.tries; rw [if_pos h8]
    rw [hT]
    clear hT hv0
    go_enter Tryz.func57, Tryz.ntmps57
    go_wp2
    go_ret
    exact ⟨_, rfl, World.ownsRow_nil _ _ _ _, Below.refl _ _⟩
  · cases hnear : Pl.near s.data.toList with
    | true =>
      obtain ⟨c, x, hn⟩ : ∃ c x, Pl.wn f.data.toList s.data.toList = (c, x) := ⟨_, _, rfl⟩
      have hT : Pl.tries L f.data.toList s.data.toList = if c = 0 then [x] else [] := by unfold Pl.tries; rw [if_neg h8, hnear, if_pos rfl, hn]
      have hrel := isRelative_any s w hs
      rw [hnear] at hrel
      have HN : Hid (Pl.wn f.data.toList s.data.toList = (c, x)) := hn
      obtain ⟨t, htx⟩ : ∃ t : ByteArray, strV x = .string t := ⟨_, rfl⟩
      have HTX : Hid (strV x = .string t) := htx
      rw [hT]
      clear hT hn hnear hv0 htx
      by_cases hc0 : c = 0
      · rw [if_pos hc0]
        have hb0 : (c == 0) = true := by simpa using hc0
        have hb0' : (c != 0) = false := by simpa using hc0
        clear hc0
        go_enter Tryz.func57, Tryz.ntmps57
        go_wp2_with fail
        refine hrel.mono ?_
        rintro e w1 ⟨rfl, hb1⟩
        go_wp2_with fail
        refine (within_any f s _).mono ?_
        rw [HN.out]
        unfold formV
        rw [HTX.out]
        rintro e w2 ⟨rfl, hb2⟩
        have hb12 : Below w.heap.size w w2 := hb1.trans (hb2.mono hb1.size)
        have hz := hb12.size
        have hL : ((w2.alloc (.cells #[.string t] 106)).alloc (.cells #[.string t] 106)).ownsRow w.heap.size 106 1 (.slice (some ⟨(w2.alloc (.cells #[.string t] 106)).heap.size, 0, none⟩) 1 1) [x].length ([x].map strV) := by
          have := lit_one49 (w2.alloc (.cells #[.string t] 106)) w.heap.size x (by simp; omega)
          rw [HTX.out] at this; exact this
        go_wp2
        go_ret
        exact ⟨_, rfl, by simpa using hL, (hb12.alloc hz _).alloc (by simp; omega) _⟩
      · rw [if_neg hc0]
        have hb0 : (c == 0) = false := by simpa using hc0
        have hb0' : (c != 0) = true := by simpa using hc0
        clear hc0
        go_enter Tryz.func57, Tryz.ntmps57
        go_wp2_with fail
        refine hrel.mono ?_
        rintro e w1 ⟨rfl, hb1⟩
        go_wp2_with fail
        refine (within_any f s _).mono ?_
        rw [HN.out]
        unfold formV
        rw [HTX.out]
        rintro e w2 ⟨rfl, hb2⟩
        have hb12 : Below w.heap.size w w2 := hb1.trans (hb2.mono hb1.size)
        have hz := hb12.size
        go_wp2
        go_ret
        exact ⟨_, rfl, World.ownsRow_nil _ _ _ _, hb12.alloc hz _⟩
    | false =>
      obtain ⟨c, x, hn⟩ : ∃ c x, Pl.nm [] s.data.toList = (c, x) := ⟨_, _, rfl⟩
      have hT : Pl.tries L f.data.toList s.data.toList = if c = 0 then Pl.under L x else [] := by unfold Pl.tries; rw [if_neg h8, hnear, if_neg (by decide), hn]
      have hx60 : x.length ≤ 60 := by have := Pl.nm_len [] s.data.toList; rw [hn] at this; exact this
      have hrel := isRelative_any s w hs
      rw [hnear] at hrel
      have HN : Hid (Pl.nm [] s.data.toList = (c, x)) := hn
      obtain ⟨t, htx⟩ : ∃ t : ByteArray, t = ⟨x.toArray⟩ := ⟨_, rfl⟩
      have HTX : Hid (strV x = .string t) := by unfold Hid; rw [htx]; rfl
      have htd : t.data.toList = x := by rw [htx]
      have hts : t.size ≤ 60 := by rw [size_data, htd]; exact hx60
      have HTD : Hid (t.data.toList = x) := htd
      rw [hT]
      clear hT hn hnear htx htd
      have HW : Hid (∀ W : World, Calls Tryz.prog 77 #[.slice none 0 0, .string s] W fun e w' => e = .returned (.tuple #[.agg #[.string t], .int .i64 c]) ∧ Below W.heap.size W w') := fun W => by
        have := walk_any W.heap.size (.slice none 0 0) [] s W (World.ownsRow_nil _ _ _ _) (Nat.le_refl _) (by decide)
        rw [HN.out, formV, HTX.out] at this; exact this
      by_cases hc0 : c = 0
      · rw [if_pos hc0]
        have hb0 : (c == 0) = true := by simpa using hc0
        have hb0' : (c != 0) = false := by simpa using hc0
        clear hc0
        have HV0 : Hid (Strs w (.slice a L.length cap) L) := hv0
        clear hv0
        go_enter Tryz.func57, Tryz.ntmps57
        go_wp2_with fail
        refine hrel.mono ?_
        rintro e w1 ⟨rfl, hb1⟩
        go_wp2_with fail
        refine (HW.out _).mono ?_
        rintro e w2 ⟨rfl, hb2⟩
        have hb12 : Below w.heap.size w w2 := hb1.trans (hb2.mono hb1.size)
        have hz := hb12.size
        have hb3 : Below w.heap.size w (w2.alloc (.cells #[.string t] 106)) := hb12.alloc hz _
        go_wp2_with fail
        refine (underRoots_any _ L t _ (HV0.out.below hb3 (Nat.le_refl _)) hl hts).mono ?_
        rw [HTD.out]
        rintro e w3 ⟨v, rfl, hr, hb4⟩
        go_wp2
        go_ret
        exact ⟨_, rfl, own_mono hr (by simp; omega), hb3.trans (hb4.mono (by simp; omega))⟩
      · rw [if_neg hc0]
        have hb0 : (c == 0) = false := by simpa using hc0
        have hb0' : (c != 0) = true := by simpa using hc0
        clear hc0 hv0
        go_enter Tryz.func57, Tryz.ntmps57
        go_wp2_with fail
        refine hrel.mono ?_
        rintro e w1 ⟨rfl, hb1⟩
        go_wp2_with fail
        refine (HW.out _).mono ?_
        rintro e w2 ⟨rfl, hb2⟩
        have hb12 : Below w.heap.size w w2 := hb1.trans (hb2.mono hb1.size)
        have hz := hb12.size
        go_wp2
        go_ret
        exact ⟨_, rfl, World.ownsRow_nil _ _ _ _, hb12.alloc hz _⟩

theorem Pl.tries_len (L : List (List UInt8)) (f s : List UInt8) : (Pl.tries L f s).length ≤ 8 := by
  unfold Pl.tries
  split
  · simp
  · split
    · split <;> simp
    · split
      · have := under_len L (Pl.nm [] s).2 L.length (Nat.le_refl _)
        rw [List.take_length] at this
        omega
      · simp

end Go.Proofs.YtimgafblpmjajabGreat
