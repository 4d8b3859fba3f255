
import Derived.Test.YtimgafblpmjajabGreatWalk

namespace Go.Proofs.YtimgafblpmjajabGreat

open Go.RowKit

theorem bcell {W w1 : World} (hb : Below W.heap.size W w1) : (∀ b o, b < W.heap.size → w1.cell? ⟨b, o, none⟩ = W.cell? ⟨b, o, none⟩) ∧ (∀ b o, b < W.heap.size → w1.frozen? ⟨b, o, none⟩ = W.frozen? ⟨b, o, none⟩) :=
  ⟨fun b o h => hb.cell (p := ⟨b, o, none⟩) h, fun b o h => hb.frozen (p := ⟨b, o, none⟩) h⟩

theorem below_one {w w1 : World} {o : Obj} (hb : Below (w.alloc o).heap.size (w.alloc o) w1) : Below w.heap.size w w1 :=
  ((Below.refl _ _).alloc (Nat.le_refl _) _).trans (hb.mono (by simp))
theorem below_set2 {w w1 : World} {o : Obj} (hb : Below (w.alloc o).heap.size (w.alloc o) w1) (u0 u1 : Value) : Below w.heap.size w ((w1.setCell ⟨w.heap.size, 0, none⟩ u0).setCell ⟨w.heap.size, 1, none⟩ u1) :=
  ((below_one hb).setCell (p := ⟨w.heap.size, 0, none⟩) (Nat.le_refl _) _).setCell (p := ⟨w.heap.size, 1, none⟩) (Nat.le_refl _) _

/-- A name's answer as a value. -/
def namedV (r : Int × List UInt8) : Value := .agg #[.int .i64 r.1, strV r.2]

set_option maxHeartbeats 1000000 in
set_option maxRecDepth 100000 in
theorem l1named_any (base : Nat) (v0 : Value) (R : List (List UInt8)) (s : ByteArray) (w : World) (hrow : w.ownsRow base 9 1 v0 R.length (R.map strV)) (hR : Pl.total R ≤ 1048576) (hs : s.size ≤ 1048576) :
    Calls Tryz.prog 84 #[v0, .string s] w fun e w' => e = .returned (namedV (Pl.nm R s.data.toList)) ∧ Below w.heap.size w w' := by
  by_cases h60 : 60 < s.size
  · have hn : Pl.nm R s.data.toList = (3, []) := by unfold Pl.nm; rw [if_pos (by rw [← size_data]; exact h60)]
    rw [hn]
    clear hn hrow
    go_enter Tryz.func84, Tryz.ntmps84
    go_wp2
    exact bodyPost_ret (v := namedV (3, [])) (by simp [results, Tryz.results84, go_sem, namedV, strV]) rfl ⟨rfl, (Below.refl _ _).alloc (Nat.le_refl _) _⟩
  · have hn : Pl.nm R s.data.toList = Pl.fin (Pl.walkP R (Pl.split s.data.toList)) := by unfold Pl.nm; rw [if_neg (by rw [← size_data]; exact h60)]
    have ht := Pl.total_walkP R (Pl.split s.data.toList)
    have hts := Pl.total_split s.data.toList
    rw [← size_data] at hts
    obtain ⟨r, hr⟩ : ∃ r, r = Pl.walkP R (Pl.split s.data.toList) := ⟨_, rfl⟩
    rw [hn, ← hr]
    rw [← hr] at ht
    have hrt : Pl.total r.1 ≤ 4194304 := by omega
    have HR : Hid (r = Pl.walkP R (Pl.split s.data.toList)) := hr
    have hrow1 := hrow.alloc (.cells #[.int .i64 0, .string ⟨#[]⟩] 118)
    clear hn ht hr hrow hts
    by_cases hr0 : r.2 = 0
    · obtain ⟨t, ht⟩ : ∃ t : ByteArray, t.data.toList = Pl.joinS r.1 := ⟨⟨(Pl.joinS r.1).toArray⟩, by simp⟩
      have HT : Hid (strV (Pl.joinS r.1) = .string t) := by unfold Hid; rw [← ht, strV_data]
      have hts : t.size ≤ 4194304 := by rw [size_data, ht]; have := joinS_len r.1; omega
      have hb0 : (r.2 == 0) = true := by simpa using hr0
      by_cases hj : Pl.joinS r.1 = []
      · have hfin : Pl.fin r = (1, []) := by unfold Pl.fin; rw [if_pos hr0, if_pos hj]
        have hte : t.toList.isEmpty = true := by rw [Go.ByteArray.toList_eq, ht, hj]; rfl
        rw [hfin]
        clear hfin ht hj
        go_enter Tryz.func84, Tryz.ntmps84
        go_wp2_with fail
        refine (l1walk_any base v0 R s _ hrow1 hR hs).mono ?_
        rw [← HR.out]
        rintro e w1 ⟨v, rfl, hown, hb⟩
        obtain ⟨hc, hf⟩ := bcell hb
        have hz : w.heap.size + 1 ≤ w1.heap.size := by have := hb.size; simp at this; omega
        go_wp2_with (go_at_call 99; refine (l1joined_any _ v r.1 _ hown hrt).mono ?_; rw [HT.out]; rintro e w' ⟨rfl, rfl⟩)
        exact bodyPost_ret (v := namedV (1, [])) (by simp [results, Tryz.results84, go_sem, namedV, strV, hc]) rfl ⟨rfl, below_set2 hb _ _⟩
      · have hte : t.toList.isEmpty = false := by rw [Go.ByteArray.toList_eq, ht]; simpa using hj
        by_cases hl' : 60 < (Pl.joinS r.1).length
        · have hfin : Pl.fin r = (3, []) := by unfold Pl.fin; rw [if_pos hr0, if_neg hj, if_pos hl']
          have htl : 60 < t.size := by rw [size_data, ht]; exact hl'
          rw [hfin]
          clear hfin ht hj hl'
          go_enter Tryz.func84, Tryz.ntmps84
          go_wp2_with fail
          refine (l1walk_any base v0 R s _ hrow1 hR hs).mono ?_
          rw [← HR.out]
          rintro e w1 ⟨v, rfl, hown, hb⟩
          obtain ⟨hc, hf⟩ := bcell hb
          have hz : w.heap.size + 1 ≤ w1.heap.size := by have := hb.size; simp at this; omega
          go_wp2_with (go_at_call 99; refine (l1joined_any _ v r.1 _ hown hrt).mono ?_; rw [HT.out]; rintro e w' ⟨rfl, rfl⟩)
          exact bodyPost_ret (v := namedV (3, [])) (by simp [results, Tryz.results84, go_sem, namedV, strV, hc]) rfl ⟨rfl, below_set2 hb _ _⟩
        · have hfin : Pl.fin r = (0, Pl.joinS r.1) := by unfold Pl.fin; rw [if_pos hr0, if_neg hj, if_neg hl']
          have htl : ¬ 60 < t.size := by rw [size_data, ht]; exact hl'
          rw [hfin]
          clear hfin ht hj hl'
          go_enter Tryz.func84, Tryz.ntmps84
          go_wp2_with fail
          refine (l1walk_any base v0 R s _ hrow1 hR hs).mono ?_
          rw [← HR.out]
          rintro e w1 ⟨v, rfl, hown, hb⟩
          obtain ⟨hc, hf⟩ := bcell hb
          have hz : w.heap.size + 1 ≤ w1.heap.size := by have := hb.size; simp at this; omega
          go_wp2_with (go_at_call 99; refine (l1joined_any _ v r.1 _ hown hrt).mono ?_; rw [HT.out]; rintro e w' ⟨rfl, rfl⟩)
          exact bodyPost_ret (v := namedV (0, Pl.joinS r.1)) (by simp [results, Tryz.results84, go_sem, namedV, HT.out, hc]) rfl ⟨rfl, below_set2 hb _ _⟩
    · have hfin : Pl.fin r = (r.2, []) := by unfold Pl.fin; rw [if_neg hr0]
      have hb0 : (r.2 == 0) = false := by simpa using hr0
      rw [hfin]
      clear hfin
      go_enter Tryz.func84, Tryz.ntmps84
      go_wp2_with fail
      refine (l1walk_any base v0 R s _ hrow1 hR hs).mono ?_
      rw [← HR.out]
      rintro e w1 ⟨v, rfl, hown, hb⟩
      obtain ⟨hc, hf⟩ := bcell hb
      have hz : w.heap.size + 1 ≤ w1.heap.size := by have := hb.size; simp at this; omega
      go_wp2
      exact bodyPost_ret (v := namedV (r.2, [])) (by simp [results, Tryz.results84, go_sem, namedV, strV, hc]) rfl ⟨rfl, below_set2 hb _ _⟩

set_option maxHeartbeats 1000000 in
set_option maxRecDepth 100000 in
theorem specClean_any (s : ByteArray) (w : World) (hs : s.size ≤ 1048576) :
    Calls Tryz.prog 62 #[.string s] w fun e w' => e = .returned (namedV (Pl.nm [] s.data.toList)) ∧ Below w.heap.size w w' := by
  obtain ⟨c, x, hn⟩ : ∃ c x, Pl.nm [] s.data.toList = (c, x) := ⟨_, _, rfl⟩
  have HN : Hid (Pl.nm [] s.data.toList = (c, x)) := hn
  rw [hn]
  clear hn
  go_enter Tryz.func62, Tryz.ntmps62
  go_wp2_with fail
  refine (l1named_any 0 (.slice none 0 0) [] s _ (World.ownsRow_nil _ _ _ _) (by decide) hs).mono ?_
  rw [HN.out]
  rintro e w1 ⟨rfl, hb⟩
  obtain ⟨hc, hf⟩ := bcell hb
  unfold namedV strV
  go_wp2
  exact bodyPost_ret (v := namedV (c, x)) (by simp [results, Tryz.results62, go_sem, namedV, strV, hc]) rfl ⟨rfl, below_set2 hb _ _⟩

end Go.Proofs.YtimgafblpmjajabGreat
