import Derived.Test.YtimgafblpmjajaaImpl
namespace Go.Proofs.Ytimgafblpmjajaa
open Go.RowKit

theorem below_set2' {B : Nat} {w w1 : World} (hb : Below B w w1) (hB : B ≤ w.heap.size) (u0 u1 : Value) : Below B w ((w1.setCell ⟨w.heap.size, 0, none⟩ u0).setCell ⟨w.heap.size, 1, none⟩ u1) :=
  (hb.setCell (p := ⟨w.heap.size, 0, none⟩) hB _).setCell (p := ⟨w.heap.size, 1, none⟩) hB _

/-- A struct of two cells that was laid first, behind what was laid since. -/
theorem old_two {w1 w2 : World} {u0 u1 : Value} {t : TypeId} (hb : Below (w1.alloc (.cells #[u0, u1] t)).heap.size (w1.alloc (.cells #[u0, u1] t)) w2) (o' : Obj) :
    (w2.alloc o').cell? ⟨w1.heap.size, 0, none⟩ = some u0 ∧ (w2.alloc o').cell? ⟨w1.heap.size, 1, none⟩ = some u1 := by
  have hz : w1.heap.size < w2.heap.size := by have := hb.size; simp at this; omega
  have hb' : Below (w1.alloc (.cells #[u0, u1] t)).heap.size (w1.alloc (.cells #[u0, u1] t)) (w2.alloc o') := hb.trans ((Below.refl _ _).alloc (by simp; omega) o')
  obtain ⟨hc, hf⟩ := bcell hb'
  exact ⟨by rw [hc _ _ (by simp)]; simp, by rw [hc _ _ (by simp)]; simp⟩

set_option maxRecDepth 100000 in
set_option maxHeartbeats 1000000 in
theorem named_any (t : ByteArray) (c : Int) (w : World) :
    Calls Try.prog 25 #[.agg #[.string t], .int .i64 c] w fun e w' => e = .returned (.agg #[.int .i64 c, .string t]) ∧ Below w.heap.size w w' := by
  go_enter Try.func25, Try.ntmps25
  go_wp2
  exact bodyPost_ret (v := .agg #[.int .i64 c, .string t]) (by simp [results, Try.results25, go_sem]) rfl ⟨rfl, ((Below.refl _ w).alloc (Nat.le_refl _) _).alloc (by simp) _⟩

set_option maxRecDepth 100000 in
set_option maxHeartbeats 1000000 in
theorem implClean_any (s : ByteArray) (w : World) :
    Calls Try.prog 8 #[.string s] w fun e w' => e = .returned (namedV (Pl.nm [] s.data.toList)) ∧ Below w.heap.size w w' := by
  obtain ⟨c, x, hn⟩ : ∃ c x, Pl.nm [] s.data.toList = (c, x) := ⟨_, _, rfl⟩
  have HN : Hid (Pl.nm [] s.data.toList = (c, x)) := hn
  rw [hn]
  clear hn
  go_enter Try.func8, Try.ntmps8
  go_wp2_with fail
  refine (walk_any (w.heap.size + 1) (.slice none 0 0) [] s _ (World.ownsRow_nil _ _ _ _) (by simp) (by decide)).mono ?_
  rw [HN.out]
  rintro e w1 ⟨rfl, hb⟩
  unfold formV strV
  go_wp2_with fail
  refine (named_any _ _ _).mono ?_
  rintro e w2 ⟨rfl, hb2⟩
  have hb3 : Below (w.heap.size + 1) (w.alloc (.cells #[.int .i64 0, .string ⟨#[]⟩] 25)) w2 := hb.trans (hb2.mono (by have := hb.size; simp at this; omega))
  obtain ⟨hc, hf⟩ := bcell (W := w.alloc (.cells #[.int .i64 0, .string ⟨#[]⟩] 25)) (w1 := w2) (by rw [World.size_alloc]; exact hb3)
  go_wp2
  exact bodyPost_ret (v := namedV (c, x)) (by simp [results, Try.results8, go_sem, namedV, strV, hc]) rfl ⟨rfl, below_set2' (((Below.refl _ w).alloc (Nat.le_refl _) _).trans (hb3.mono (by simp))) (Nat.le_refl _) _ _⟩

set_option maxRecDepth 100000 in
set_option maxHeartbeats 1000000 in
theorem eqNamed_any (r : Int × List UInt8) (w : World) :
    Calls Try.prog 16 #[namedV r, namedV r] w fun e w' => e = .returned (.bool true) ∧ Below w.heap.size w w' := by
  obtain ⟨c, x⟩ := r
  unfold namedV strV
  go_enter Try.func16, Try.ntmps16
  go_wp2
  go_ret
  exact ⟨rfl, ((Below.refl _ w).alloc (Nat.le_refl _) _).alloc (by simp) _⟩

end Go.Proofs.Ytimgafblpmjajaa
