
import Derived.Test.YtimgafblpmjajabGreatFolder

namespace Go.Proofs.YtimgafblpmjajabGreat

open Go.RowKit

/-- Walked from where the module stands. -/
def Pl.wn (from' s : List UInt8) : Int × List UInt8 := if (Pl.nm [] from').1 = 0 then Pl.nm (Pl.split (Pl.nm [] from').2).dropLast s else (4, [])

theorem Pl.nm_len (R : List (List UInt8)) (s : List UInt8) : (Pl.nm R s).2.length ≤ 60 := by
  unfold Pl.nm
  split
  · simp
  · unfold Pl.fin
    split
    · split
      · simp
      · split
        · simp
        · simp only; omega
    · simp
theorem Pl.folder_total (x : List UInt8) (h : x.length ≤ 60) : Pl.total (Pl.split x).dropLast ≤ 1048576 := by
  have h1 := Pl.total_dropLast (Pl.split x)
  have h2 := Pl.total_split x
  omega

/-- The answer's two cells, laid first, behind what was laid since. -/
theorem old_two_frozen {w1 w2 : World} {u0 u1 : Value} {t : TypeId} (hb : Below (w1.alloc (.cells #[u0, u1] t)).heap.size (w1.alloc (.cells #[u0, u1] t)) w2) (o' : Obj) :
    (w2.alloc o').frozen? ⟨w1.heap.size, 0, none⟩ = false ∧ (w2.alloc o').frozen? ⟨w1.heap.size, 1, none⟩ = false := by
  have hz : w1.heap.size < w2.heap.size := by have := hb.size; simp at this; omega
  have hb' : Below (w1.alloc (.cells #[u0, u1] t)).heap.size (w1.alloc (.cells #[u0, u1] t)) (w2.alloc o') := hb.trans ((Below.refl _ _).alloc (by simp; omega) o')
  obtain ⟨hc, hf⟩ := bcell hb'
  exact ⟨by rw [hf _ _ (by simp)]; simp, by rw [hf _ _ (by simp)]; simp⟩
theorem old_two_set {w1 w2 : World} {u0 u1 : Value} {t : TypeId} (hb : Below (w1.alloc (.cells #[u0, u1] t)).heap.size (w1.alloc (.cells #[u0, u1] t)) w2) (v0 v1 : Value) (o' : Obj) :
    (((w2.setCell ⟨w1.heap.size, 0, none⟩ v0).setCell ⟨w1.heap.size, 1, none⟩ v1).alloc o').cell? ⟨w1.heap.size, 0, none⟩ = some v0 ∧ (((w2.setCell ⟨w1.heap.size, 0, none⟩ v0).setCell ⟨w1.heap.size, 1, none⟩ v1).alloc o').cell? ⟨w1.heap.size, 1, none⟩ = some v1 := by
  have hz : w1.heap.size < w2.heap.size := by have := hb.size; simp at this; omega
  obtain ⟨hc, hf⟩ := bcell hb
  have e0 : w2.cell? ⟨w1.heap.size, 0, none⟩ = some u0 := by rw [hc _ _ (by simp)]; simp
  have e1 : w2.cell? ⟨w1.heap.size, 1, none⟩ = some u1 := by rw [hc _ _ (by simp)]; simp
  constructor
  · rw [World.cell?_alloc_past _ _ _ (by simp [World.setCell]; omega)]
    simp [go_sem, e0]
  · rw [World.cell?_alloc_past _ _ _ (by simp [World.setCell]; omega)]
    simp [go_sem, e1]

set_option maxRecDepth 100000 in
set_option maxHeartbeats 1000000 in
theorem specWithin_any (f s : ByteArray) (w : World) (hf0 : f.size ≤ 1048576) (hs : s.size ≤ 1048576) :
    Calls Tryz.prog 65 #[.string f, .string s] w fun e w' => e = .returned (namedV (Pl.wn f.data.toList s.data.toList)) ∧ Below w.heap.size w w' := by
  obtain ⟨c, x, hn⟩ : ∃ c x, Pl.nm [] f.data.toList = (c, x) := ⟨_, _, rfl⟩
  have hx : x.length ≤ 60 := by have := Pl.nm_len [] f.data.toList; rw [hn] at this; exact this
  have hwn : Pl.wn f.data.toList s.data.toList = if c = 0 then Pl.nm (Pl.split x).dropLast s.data.toList else (4, []) := by unfold Pl.wn; rw [hn]
  have HN : Hid (Pl.nm [] f.data.toList = (c, x)) := hn
  rw [hwn]
  clear hn hwn
  by_cases hc0 : c = 0
  · rw [if_pos hc0]
    have hb0 : (c == 0) = true := by simpa using hc0
    obtain ⟨c2, x2, hn2⟩ : ∃ c2 x2, Pl.nm (Pl.split x).dropLast s.data.toList = (c2, x2) := ⟨_, _, rfl⟩
    have HN2 : Hid (Pl.nm (Pl.split x).dropLast s.data.toList = (c2, x2)) := hn2
    rw [hn2]
    obtain ⟨t, ht⟩ : ∃ t : ByteArray, t = ⟨x.toArray⟩ := ⟨_, rfl⟩
    have htd : t.data.toList = x := by rw [ht]
    have hts : t.size ≤ 60 := by rw [size_data, htd]; exact hx
    have HT : Hid (strV x = .string t) := by unfold Hid; rw [ht]; rfl
    have HTD : Hid (t.data.toList = x) := htd
    have hsne : Pl.split x ≠ [] := Pl.splitTo_ne _ _
    have hpos : 0 < (Pl.split x).length := List.length_pos_iff.2 hsne
    have hsl : (Pl.split x).length ≤ 61 := by have := Pl.length_split x; omega
    have HNE : Hid (Pl.split x ≠ []) := hsne
    clear hn2 ht htd hsne hc0
    go_enter Tryz.func65, Tryz.ntmps65
    go_wp2_with fail
    refine (specClean_any f _ hf0).mono ?_
    rw [HN.out]
    unfold namedV
    rw [HT.out]
    rintro e w1 ⟨rfl, hb1⟩
    have hz1 : w.heap.size + 1 ≤ w1.heap.size := by have := hb1.size; simp at this; omega
    go_wp2_with fail
    refine (l1parts_any t _ (by omega)).mono ?_
    rw [HTD.out]
    rintro e w2 ⟨v, rfl, hr, hb2⟩
    obtain ⟨g, cap, rfl, hcap, hpop⟩ := pop_row HNE.out hr
    go_wp2_with fail
    refine (l1named_any _ _ _ s _ hpop (Pl.folder_total x hx) hs).mono ?_
    rw [HN2.out]
    unfold namedV strV
    rintro e w3 ⟨rfl, hb3⟩
    have hb12 : Below (w.heap.size + 1) (w.alloc (.cells #[.int .i64 0, .string ⟨#[]⟩] 118)) w3 := ((hb1.mono (by simp)).alloc (by omega) _).trans ((hb2.mono (by simp; omega)).trans (hb3.mono (by have := hb2.size; simp at this; omega)))
    obtain ⟨hc, hf⟩ := bcell (W := w.alloc (.cells #[.int .i64 0, .string ⟨#[]⟩] 118)) (w1 := w3) (by rw [World.size_alloc]; exact hb12)
    go_wp2
    exact bodyPost_ret (v := namedV (c2, x2)) (by simp [results, Tryz.results65, go_sem, namedV, strV, hc]) rfl ⟨rfl, below_set2' (((Below.refl _ w).alloc (Nat.le_refl _) _).trans (hb12.mono (by simp))) (Nat.le_refl _) _ _⟩
  · rw [if_neg hc0]
    have hb0 : (c == 0) = false := by simpa using hc0
    clear hc0
    go_enter Tryz.func65, Tryz.ntmps65
    go_wp2_with fail
    refine (specClean_any f _ hf0).mono ?_
    rw [HN.out]
    unfold namedV strV
    rintro e w1 ⟨rfl, hb1⟩
    have hz1 : w.heap.size + 1 ≤ w1.heap.size := by have := hb1.size; simp at this; omega
    have hA := fun o' => (old_two hb1 o').1
    have hA2 := fun o' => (old_two hb1 o').2
    have hF := fun o' => (old_two_frozen hb1 o').1
    have hF2 := fun o' => (old_two_frozen hb1 o').2
    go_wp2
    exact bodyPost_ret (v := namedV (4, [])) (by simp [results, Tryz.results65, go_sem, namedV, strV, hA, hA2]) rfl ⟨rfl, below_set2' ((below_one hb1).alloc (by omega) _) (Nat.le_refl _) _ _⟩

set_option maxRecDepth 100000 in
set_option maxHeartbeats 1000000 in
theorem within_any (f s : ByteArray) (w : World) :
    Calls Tryz.prog 76 #[.string f, .string s] w fun e w' => e = .returned (formV (Pl.wn f.data.toList s.data.toList)) ∧ Below w.heap.size w w' := by
  obtain ⟨c, x, hn⟩ : ∃ c x, Pl.nm [] f.data.toList = (c, x) := ⟨_, _, rfl⟩
  have hx : x.length ≤ 60 := by have := Pl.nm_len [] f.data.toList; rw [hn] at this; exact this
  have hwn : Pl.wn f.data.toList s.data.toList = if c = 0 then Pl.nm (Pl.split x).dropLast s.data.toList else (4, []) := by unfold Pl.wn; rw [hn]
  have HN : Hid (Pl.nm [] f.data.toList = (c, x)) := hn
  rw [hwn]
  obtain ⟨t, ht⟩ : ∃ t : ByteArray, t = ⟨x.toArray⟩ := ⟨_, rfl⟩
  have htd : t.data.toList = x := by rw [ht]
  have hts : t.size ≤ 60 := by rw [size_data, htd]; exact hx
  have HT : Hid (strV x = .string t) := by unfold Hid; rw [ht]; rfl
  have HTD : Hid (t.data.toList = x) := htd
  clear hn hwn ht htd
  by_cases hc0 : c = 0
  · rw [if_pos hc0]
    have hb0 : (c == 0) = true := by simpa using hc0
    have hb0' : (c != 0) = false := by simpa using hc0
    obtain ⟨c2, x2, hn2⟩ : ∃ c2 x2, Pl.nm (Pl.split x).dropLast s.data.toList = (c2, x2) := ⟨_, _, rfl⟩
    have HN2 : Hid (Pl.nm (Pl.split x).dropLast s.data.toList = (c2, x2)) := hn2
    rw [hn2]
    clear hn2 hc0
    go_enter Tryz.func76, Tryz.ntmps76
    go_wp2_with fail
    refine (walk_any (w.heap.size + 1) (.slice none 0 0) [] f _ (World.ownsRow_nil _ _ _ _) (by simp) (by decide)).mono ?_
    rw [HN.out]
    unfold formV
    rw [HT.out]
    rintro e w1 ⟨rfl, hb1⟩
    have hz1 : w.heap.size + 1 ≤ w1.heap.size := by have := hb1.size; simp at this; omega
    go_wp2_with fail
    refine (folder_any t _ hts).mono ?_
    rw [HTD.out]
    rintro e w2 ⟨v, rfl, hr, hb2⟩
    have hz2 : w1.heap.size + 1 ≤ w2.heap.size := by have := hb2.size; simp at this; omega
    go_wp2_with fail
    refine (walk_any (w1.heap.size + 1) v _ s _ (own_mono hr (by simp)) hz2 (Pl.folder_total x hx)).mono ?_
    rw [HN2.out]
    unfold formV strV
    rintro e w3 ⟨rfl, hb3⟩
    have hz3 := hb3.size
    have hb13 : Below (w.heap.size + 1) (w.alloc (.cells #[.string ⟨#[]⟩] 106)) w3 := (hb1.alloc (by omega) _).trans ((hb2.mono (by simp; omega)).trans (hb3.mono (by omega)))
    obtain ⟨hc, hf⟩ := bcell (W := w.alloc (.cells #[.string ⟨#[]⟩] 106)) (w1 := w3) (by rw [World.size_alloc]; exact hb13)
    go_wp2
    exact bodyPost_ret (v := formV (c2, x2)) (by simp [results, Tryz.results76, go_sem, formV, strV, hc]) rfl ⟨rfl, ((((Below.refl _ w).alloc (Nat.le_refl _) _).trans (hb13.mono (by simp)))).setCell (p := ⟨w.heap.size, 0, none⟩) (Nat.le_refl _) _⟩
  · rw [if_neg hc0]
    have hb0 : (c == 0) = false := by simpa using hc0
    have hb0' : (c != 0) = true := by simpa using hc0
    clear hc0
    go_enter Tryz.func76, Tryz.ntmps76
    go_wp2_with fail
    refine (walk_any (w.heap.size + 1) (.slice none 0 0) [] f _ (World.ownsRow_nil _ _ _ _) (by simp) (by decide)).mono ?_
    rw [HN.out]
    unfold formV
    rw [HT.out]
    rintro e w1 ⟨rfl, hb1⟩
    have hz1 : w.heap.size + 1 ≤ w1.heap.size := by have := hb1.size; simp at this; omega
    have hb1' : Below (w.alloc (.cells #[.string ⟨#[]⟩] 106)).heap.size (w.alloc (.cells #[.string ⟨#[]⟩] 106)) w1 := by rw [World.size_alloc]; exact hb1
    have hA := fun o' => (old_cell rfl hb1' o').1
    have hF := fun o' => (old_cell rfl hb1' o').2
    go_wp2
    exact bodyPost_ret (v := formV (4, [])) (by simp [results, Tryz.results76, go_sem, formV, strV, hA]) rfl ⟨rfl, ((below_one hb1').alloc (by omega) _).setCell (p := ⟨w.heap.size, 0, none⟩) (Nat.le_refl _) _⟩

end Go.Proofs.YtimgafblpmjajabGreat
