
import Derived.Test.YtimgafblpmjajabGreatTriesI

namespace Go.Proofs.YtimgafblpmjajabGreat

open Go.RowKit

set_option maxHeartbeats 1000000 in
set_option maxRecDepth 100000 in
theorem l1rooted_any (r n : ByteArray) (w : World) (hr : r.size ≤ 4194304) (hn : n.size ≤ 4194304) :
    Calls Tryz.prog 66 #[.string r, .string n] w fun e w' => e = .returned (namedV (Pl.nm [] (Pl.rooted r.data.toList n.data.toList))) ∧ Below w.heap.size w w' := by
  obtain ⟨c, x, hnm⟩ : ∃ c x, Pl.nm [] (Pl.rooted r.data.toList n.data.toList) = (c, x) := ⟨_, _, rfl⟩
  rw [hnm]
  by_cases h : r.data.toList = []
  · have hr0 : Pl.rooted r.data.toList n.data.toList = n.data.toList := by unfold Pl.rooted; rw [if_pos h]
    rw [hr0] at hnm
    have HN : Hid (Pl.nm [] n.data.toList = (c, x)) := hnm
    have he : r.toList.isEmpty = true := by rw [Go.ByteArray.toList_eq, h]; rfl
    clear hr0 h hnm
    go_enter Tryz.func66, Tryz.ntmps66
    go_wp2_with fail
    refine (specClean_all n _).mono ?_
    rw [HN.out]
    unfold namedV strV
    rintro e w1 ⟨rfl, hb⟩
    obtain ⟨hc, hf⟩ := bcell hb
    go_wp2
    exact bodyPost_ret (v := namedV (c, x)) (by simp [results, Tryz.results66, go_sem, namedV, strV, hc]) rfl ⟨rfl, below_set2 hb _ _⟩
  · have hr0 : Pl.rooted r.data.toList n.data.toList = (r ++ ⟨#[47]⟩ ++ n).data.toList := by
      unfold Pl.rooted; rw [if_neg h, ByteArray.data_append, ByteArray.data_append, Array.toList_append, Array.toList_append]
    rw [hr0] at hnm
    have HN : Hid (Pl.nm [] (r ++ ⟨#[47]⟩ ++ n).data.toList = (c, x)) := hnm
    have he : r.toList.isEmpty = false := by rw [Go.ByteArray.toList_eq]; simpa using h
    clear hr0 h hnm
    go_enter Tryz.func66, Tryz.ntmps66
    go_wp2_with fail
    refine (specClean_all _ _).mono ?_
    rw [HN.out]
    unfold namedV strV
    rintro e w1 ⟨rfl, hb⟩
    obtain ⟨hc, hf⟩ := bcell hb
    go_wp2
    exact bodyPost_ret (v := namedV (c, x)) (by simp [results, Tryz.results66, go_sem, namedV, strV, hc]) rfl ⟨rfl, below_set2 hb _ _⟩

set_option maxHeartbeats 1000000 in
set_option maxRecDepth 100000 in
theorem specTries_near (vr : Value) (L : List (List UInt8)) (f s : ByteArray) (w : World) (hv : Strs w vr L) (h8 : ¬ 8 < L.length) (hf : f.size ≤ 1048576) (hs : s.size ≤ 1048576) (hnear : Pl.near s.data.toList = true) :
    Calls Tryz.prog 47 #[vr, .string f, .string s] w fun e w' => ∃ v, e = .returned v ∧ w'.ownsRow w.heap.size 9 1 v (Pl.tries L f.data.toList s.data.toList).length ((Pl.tries L f.data.toList s.data.toList).map strV) ∧ Below w.heap.size w w' := by
  obtain ⟨a, cap, rfl, hcap, hmax, hcell⟩ := hv
  clear hcell
  obtain ⟨c, x, hn⟩ : ∃ c x, Pl.wn f.data.toList s.data.toList = (c, x) := ⟨_, _, rfl⟩
  have hT : Pl.tries L f.data.toList s.data.toList = if c = 0 then [x] else [] := by unfold Pl.tries; rw [if_neg h8, hnear, if_pos rfl, hn]
  have hrel := l1near_any s w hs
  rw [hnear] at hrel
  have HN : Hid (Pl.wn f.data.toList s.data.toList = (c, x)) := hn
  obtain ⟨t, htx⟩ : ∃ t : ByteArray, strV x = .string t := ⟨_, rfl⟩
  have HTX : Hid (strV x = .string t) := htx
  rw [hT]
  clear hT hn hnear htx
  by_cases hc0 : c = 0
  · rw [if_pos hc0]
    have hb0 : (c == 0) = true := by simpa using hc0
    have hb0' : (c != 0) = false := by simpa using hc0
    clear hc0
    go_enter Tryz.func47, Tryz.ntmps47
    go_wp2_with fail
    refine hrel.mono ?_
    rintro e w1 ⟨rfl, hb1⟩
    go_wp2_with fail
    refine (specWithin_any f s _ hf hs).mono ?_
    rw [HN.out]
    unfold namedV
    rw [HTX.out]
    rintro e w2 ⟨rfl, hb2⟩
    have hb12 : Below w.heap.size w w2 := hb1.trans (hb2.mono hb1.size)
    have hz := hb12.size
    go_wp2
    go_ret
    refine ⟨_, rfl, ?_, (hb12.alloc hz _).alloc (by simp; omega) _⟩
    have := lit_one (w2.alloc (.cells #[.int .i64 c, .string t] 118)) w.heap.size x (by simp; omega)
    rw [HTX.out] at this
    simpa [HTX.out] using this
  · rw [if_neg hc0]
    have hb0 : (c == 0) = false := by simpa using hc0
    have hb0' : (c != 0) = true := by simpa using hc0
    clear hc0
    go_enter Tryz.func47, Tryz.ntmps47
    go_wp2_with fail
    refine hrel.mono ?_
    rintro e w1 ⟨rfl, hb1⟩
    go_wp2_with fail
    refine (specWithin_any f s _ hf hs).mono ?_
    rw [HN.out]
    unfold namedV
    rw [HTX.out]
    rintro e w2 ⟨rfl, hb2⟩
    have hb12 : Below w.heap.size w w2 := hb1.trans (hb2.mono hb1.size)
    have hz := hb12.size
    go_wp2
    go_ret
    exact ⟨_, rfl, World.ownsRow_nil _ _ _ _, hb12.alloc hz _⟩

set_option maxHeartbeats 2000000 in
set_option maxRecDepth 100000 in
theorem specTries_far (vr : Value) (L : List (List UInt8)) (f s : ByteArray) (w : World) (hv : Strs w vr L) (hl : Pl.total L ≤ 1048576) (h8 : ¬ 8 < L.length) (hs : s.size ≤ 1048576) (hnear : Pl.near s.data.toList = false) :
    Calls Tryz.prog 47 #[vr, .string f, .string s] w fun e w' => ∃ v, e = .returned v ∧ w'.ownsRow w.heap.size 9 1 v (Pl.tries L f.data.toList s.data.toList).length ((Pl.tries L f.data.toList s.data.toList).map strV) ∧ Below w.heap.size w w' := by
  obtain ⟨i9, hi, hz0, hz1, hz2⟩ := info_parts Tryz.info9
  have HV0 : Hid (Strs w vr L) := hv
  obtain ⟨a, cap, rfl, hcap, hmax, hcell⟩ := hv
  have hll : L.length ≤ 1048576 := by unfold Pl.total at hl; omega
  have HLE : Hid (∀ k, (hk : k < L.length) → L[k].length ≤ 1048576) := fun k hk => by have := len_le_total L k hk; omega
  clear hcell hmax hl
  obtain ⟨c, x, hn⟩ : ∃ c x, Pl.nm [] s.data.toList = (c, x) := ⟨_, _, rfl⟩
  have hT : Pl.tries L f.data.toList s.data.toList = if c = 0 then Pl.under L x else [] := by unfold Pl.tries; rw [if_neg h8, hnear, if_neg (by decide), hn]
  have hx60 : x.length ≤ 60 := by have := Pl.nm_len [] s.data.toList; rw [hn] at this; exact this
  have hrel := l1near_any s w hs
  rw [hnear] at hrel
  have HN : Hid (Pl.nm [] s.data.toList = (c, x)) := hn
  obtain ⟨t, htx⟩ : ∃ t : ByteArray, t = ⟨x.toArray⟩ := ⟨_, rfl⟩
  have HTX : Hid (strV x = .string t) := by unfold Hid; rw [htx]; rfl
  have htd : t.data.toList = x := by rw [htx]
  have hts : t.size ≤ 60 := by rw [size_data, htd]; exact hx60
  have HTD : Hid (t.data.toList = x) := htd
  have HUL : Hid (∀ k, k ≤ L.length → (Pl.under (L.take k) x).length ≤ k) := fun k hk => under_len L _ k hk
  rw [hT]
  clear hT hn hnear htx htd
  by_cases hc0 : c = 0
  · rw [if_pos hc0]
    have hb0 : (c == 0) = true := by simpa using hc0
    have hb0' : (c != 0) = false := by simpa using hc0
    clear hc0
    go_enter Tryz.func47, Tryz.ntmps47
    go_wp2_with fail
    refine hrel.mono ?_
    rintro e w1 ⟨rfl, hb1⟩
    go_wp2_with fail
    refine (specClean_any s _ hs).mono ?_
    rw [HN.out]
    unfold namedV
    rw [HTX.out]
    rintro e w2 ⟨rfl, hb2⟩
    have hb12 : Below w.heap.size w w2 := hb1.trans (hb2.mono hb1.size)
    have hz := hb12.size
    have hb3 : Below w.heap.size w (w2.alloc (.cells #[.int .i64 c, .string t] 118)) := hb12.alloc hz _
    have hstr := HV0.out.below hb3 (Nat.le_refl _)
    obtain ⟨a', cap', hve, hcap', _, hcell⟩ := hstr
    cases hve
    have HC : Hid (∀ k, (hk : k < L.length) → ∃ b o, a = some ⟨b, o, none⟩ ∧ b < (w2.alloc (.cells #[.int .i64 c, .string t] 118)).heap.size ∧ (w2.alloc (.cells #[.int .i64 c, .string t] 118)).cell? ⟨b, o + k, none⟩ = some (strV L[k])) := hcell
    have hnc : (w2.alloc (.cells #[.int .i64 c, .string t] 118)).cell? ⟨w2.heap.size, 1, none⟩ = some (.string t) := by simp
    clear hcell
    go_wp2
    obtain ⟨W0, hW0⟩ : ∃ W0, W0 = w2.alloc (.cells #[.int .i64 c, .string t] 118) := ⟨_, rfl⟩
    have hN0 : w2.heap.size < W0.heap.size := by rw [hW0]; simp
    rw [← hW0] at HC hnc hb3 ⊢
    have HW0 : Hid (W0 = w2.alloc (.cells #[.int .i64 c, .string t] 118)) := hW0
    clear hW0
    go_loopw [9, 37] (fun v i wr => ∃ k : Nat, k ≤ L.length ∧ i = .int .i64 k ∧ wr.ownsRow W0.heap.size 9 1 v (Pl.under (L.take k) x).length ((Pl.under (L.take k) x).map strV) ∧ Below W0.heap.size W0 wr) (fun _ i _ => L.length - (intOf i).toNat)
    case atStart => exact ⟨0, Nat.zero_le _, rfl, World.ownsRow_nil _ _ _ _, Below.refl _ _⟩
    case round =>
      obtain ⟨k, hk, rfl, ht, hB⟩ := hrel
      have hsz := hB.size
      by_cases hlt : k < L.length
      · obtain ⟨b, o, rfl, hb, hc⟩ := HC.out k hlt
        obtain ⟨q, hq⟩ : ∃ q : ByteArray, q = ⟨L[k].toArray⟩ := ⟨_, rfl⟩
        have hqd : q.data.toList = L[k] := by rw [hq]
        have hqs : q.size ≤ 4194304 := by rw [size_data, hqd]; have := HLE.out k hlt; omega
        have hcq : wr.cell? ⟨b, o + k, none⟩ = some (.string q) := by rw [hB.cell (p := ⟨b, o + k, none⟩) hb, hc, hq]; rfl
        have hnc2 : wr.cell? ⟨w2.heap.size, 1, none⟩ = some (.string t) := (hB.cell (p := ⟨w2.heap.size, 1, none⟩) hN0).trans hnc
        have hroot := l1rooted_any q t wr hqs (by omega)
        rw [HTD.out] at hroot
        obtain ⟨c2, x2, hn'⟩ : ∃ c2 x2, Pl.nm [] (Pl.rooted q.data.toList x) = (c2, x2) := ⟨_, _, rfl⟩
        have hU := under_succ L x k hlt
        rw [← hqd, hn'] at hU
        have hul := HUL.out k (by omega)
        obtain ⟨T, hT⟩ : ∃ T, T = Pl.under (L.take k) x := ⟨_, rfl⟩
        rw [← hT] at ht hU hul
        obtain ⟨t2, ht2⟩ : ∃ t2 : ByteArray, t2 = ⟨x2.toArray⟩ := ⟨_, rfl⟩
        have ht2d : t2.data.toList = x2 := by rw [ht2]
        have HT2D : Hid (t2.data.toList = x2) := ht2d
        rw [hn', namedV, show strV x2 = .string t2 by rw [ht2]; rfl] at hroot
        have HU : Hid (Pl.under (L.take (k + 1)) x = Pl.addTry T (c2, x2)) := hU
        obtain ⟨at', capt, rfl, hcapt, _, _⟩ := row_shape ht
        clear hU hT hn' hq hqd hc ht2 ht2d
        by_cases hc2 : c2 = 0
        · have hd0 : (c2 == 0) = true := by simpa using hc2
          have hd0' : (c2 != 0) = false := by simpa using hc2
          have HA : Hid (x2 ∈ T → Pl.under (L.take (k + 1)) x = T) := fun h => by rw [HU.out]; unfold Pl.addTry; rw [if_pos hc2, if_pos h]
          have HA2 : Hid (x2 ∉ T → Pl.under (L.take (k + 1)) x = T ++ [x2]) := fun h => by rw [HU.out]; unfold Pl.addTry; rw [if_pos hc2, if_neg h]
          clear hc2
          go_wp2_with fail
          refine hroot.mono ?_
          rintro e w3 ⟨rfl, hb3'⟩
          have hz3 := hb3'.size
          have ht3 := (own_below ht hb3' (Nat.le_refl _)).alloc (.cells #[.int .i64 c2, .string t2] 118)
          have hB3 : Below W0.heap.size W0 (w3.alloc (.cells #[.int .i64 c2, .string t2] 118)) := (hB.trans (hb3'.mono hsz)).alloc (by omega) _
          have hxc : (w3.alloc (.cells #[.int .i64 c2, .string t2] 118)).cell? ⟨w3.heap.size, 1, none⟩ = some (.string t2) := by simp
          obtain ⟨_, _, hvt, _, _, hcellt⟩ := row_shape ht3
          cases hvt
          have HCT : Hid (∀ j, (hj : j < T.length) → ∃ g, at' = some ⟨g, 0, none⟩ ∧ W0.heap.size ≤ g ∧ g < (w3.alloc (.cells #[.int .i64 c2, .string t2] 118)).heap.size ∧ (w3.alloc (.cells #[.int .i64 c2, .string t2] 118)).cell? ⟨g, j, none⟩ = some (strV T[j])) := hcellt
          clear hcellt ht hB
          go_wp2
          obtain ⟨W3, hW3⟩ : ∃ W3, W3 = w3.alloc (.cells #[.int .i64 c2, .string t2] 118) := ⟨_, rfl⟩
          rw [← hW3] at HCT hxc ht3 hB3 ⊢
          clear hW3
          go_loop [13, 50] (fun m i => ∃ (j : Nat) (d : Bool), j ≤ T.length ∧ i = .int .i64 j ∧ m = .bool d ∧ Hid (d = decide (x2 ∈ T.take j))) (fun _ i => T.length - (intOf i).toNat)
          case atStart => exact ⟨0, false, Nat.zero_le _, rfl, rfl, by unfold Hid; simp⟩
          case round =>
            obtain ⟨j, d, hj, rfl, rfl, hd⟩ := hrel
            by_cases hjt : j < T.length
            · obtain ⟨g, rfl, _, _, hcg⟩ := HCT.out j hjt
              obtain ⟨y, hy⟩ : ∃ y : ByteArray, y = ⟨T[j].toArray⟩ := ⟨_, rfl⟩
              have hyd : y.data.toList = T[j] := by rw [hy]
              have hcy : W3.cell? ⟨g, j, none⟩ = some (.string y) := by rw [hcg, hy]; rfl
              have HS : Hid (decide (x2 ∈ T.take (j + 1)) = (d || (y.toList == t2.toList))) := by
                unfold Hid
                rw [hd.out, List.take_succ_eq_append_getElem hjt, Go.ByteArray.toList_eq, Go.ByteArray.toList_eq, hyd, HT2D.out, Bool.eq_iff_iff]
                simp only [decide_eq_true_eq, Bool.or_eq_true, beq_iff_eq, List.mem_append, List.mem_singleton]
                exact or_congr Iff.rfl eq_comm
              clear hcg hy hyd
              cases d with
              | true =>
                rw [Bool.true_or] at HS
                go_wp2
                go_round
                case rel => exact ⟨j + 1, true, by omega, by go_num, rfl, HS.out.symm⟩
                case measure => simp [intOf]; omega
              | false =>
                rw [Bool.false_or] at HS
                go_wp2
                go_round
                case rel => exact ⟨j + 1, _, by omega, by go_num, rfl, HS.out.symm⟩
                case measure => simp [intOf]; omega
            · have hd2 : d = decide (x2 ∈ T) := by rw [hd.out, List.take_of_length_le (by omega)]
              cases d with
              | true =>
                have HF : Hid (Pl.under (L.take (k + 1)) x = T) := HA.out (by simpa using hd2.symm)
                clear hd2 hd
                go_wp2
                go_roundw
                case rel => exact ⟨k + 1, by omega, by go_num, by rw [HF.out]; exact ht3, hB3⟩
                case measure => simp [intOf]; omega
              | false =>
                have HF : Hid (Pl.under (L.take (k + 1)) x = T ++ [x2]) := HA2.out (by simpa using hd2.symm)
                have HTX2 : Hid (Value.string t2 = strV x2) := by unfold Hid; rw [← strV_data, HT2D.out]
                have hz4 := hB3.size
                clear hd2 hd
                go_wp2_with (at_builtin; refine wpList_append_own _ rfl _ _ 22 rfl W0.heap.size 9 i9 (.string ByteArray.empty) 1 16 Tryz.underlying22 hi hz0 hz1 hz2 rfl (by decide) _ _ _ rfl (ht3.alloc _) ⟨_, 0, none⟩ 1 1 [.string t2] rfl rfl (cell_one_new _ _ _) (by simp [Value.oneCell']) (by unfold maxLen; omega) (by omega) (by simp; omega) ?_; intro v' w4 hown' hgrow _; have hb4 := below_append hB3 hz4 ht3 hgrow; have ho := row_snoc (p := x2) HTX2.out hown'; clear hown' hgrow)
                go_roundw
                case rel => exact ⟨k + 1, by omega, by go_num, by rw [HF.out]; exact ho, hb4⟩
                case measure => simp [intOf]; omega
        · have hd0 : (c2 == 0) = false := by simpa using hc2
          have hd0' : (c2 != 0) = true := by simpa using hc2
          have HF : Hid (Pl.under (L.take (k + 1)) x = T) := by unfold Hid; rw [HU.out]; unfold Pl.addTry; rw [if_neg hc2]
          clear hc2
          go_wp2_with fail
          refine hroot.mono ?_
          rintro e w3 ⟨rfl, hb3'⟩
          have hz3 := hb3'.size
          go_wp2
          go_roundw
          case rel => exact ⟨k + 1, by omega, by go_num, by rw [HF.out]; exact (own_below ht hb3' (Nat.le_refl _)).alloc _, (hB.trans (hb3'.mono hsz)).alloc (by omega) _⟩
          case measure => simp [intOf]; omega
      · have hkL : L.take k = L := List.take_of_length_le (by omega)
        rw [hkL] at ht
        clear hkL
        go_wp2
        go_ret
        exact ⟨_, rfl, own_mono ht hb3.size, hb3.trans (hB.mono hb3.size)⟩
  · rw [if_neg hc0]
    have hb0 : (c == 0) = false := by simpa using hc0
    have hb0' : (c != 0) = true := by simpa using hc0
    clear hc0
    go_enter Tryz.func47, Tryz.ntmps47
    go_wp2_with fail
    refine hrel.mono ?_
    rintro e w1 ⟨rfl, hb1⟩
    go_wp2_with fail
    refine (specClean_any s _ hs).mono ?_
    rw [HN.out]
    unfold namedV
    rw [HTX.out]
    rintro e w2 ⟨rfl, hb2⟩
    have hb12 : Below w.heap.size w w2 := hb1.trans (hb2.mono hb1.size)
    have hz := hb12.size
    go_wp2
    go_ret
    exact ⟨_, rfl, World.ownsRow_nil _ _ _ _, hb12.alloc hz _⟩

set_option maxHeartbeats 1000000 in
set_option maxRecDepth 100000 in
theorem specTries_any (vr : Value) (L : List (List UInt8)) (f s : ByteArray) (w : World) (hv : Strs w vr L) (hl : Pl.total L ≤ 1048576) (hf : f.size ≤ 1048576) (hs : s.size ≤ 1048576) :
    Calls Tryz.prog 47 #[vr, .string f, .string s] w fun e w' => ∃ v, e = .returned v ∧ w'.ownsRow w.heap.size 9 1 v (Pl.tries L f.data.toList s.data.toList).length ((Pl.tries L f.data.toList s.data.toList).map strV) ∧ Below w.heap.size w w' := by
  by_cases h8 : 8 < L.length
  · have hT : Pl.tries L f.data.toList s.data.toList = [] := by unfold Pl.tries; rw [if_pos h8]
    rw [hT]
    obtain ⟨a, cap, rfl, hcap, hmax, hcell⟩ := hv
    clear hT hcell
    go_enter Tryz.func47, Tryz.ntmps47
    go_wp2
    go_ret
    exact ⟨_, rfl, World.ownsRow_nil _ _ _ _, Below.refl _ _⟩
  · cases hnear : Pl.near s.data.toList with
    | true => exact specTries_near vr L f s w hv h8 hf hs hnear
    | false => exact specTries_far vr L f s w hv hl h8 hs hnear

end Go.Proofs.YtimgafblpmjajabGreat
