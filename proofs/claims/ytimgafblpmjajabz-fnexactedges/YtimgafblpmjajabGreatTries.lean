
import Derived.Test.YtimgafblpmjajabGreatUnder

namespace Go.Proofs.YtimgafblpmjajabGreat

open Go.RowKit

set_option maxHeartbeats 1000000 in
set_option maxRecDepth 100000 in
theorem contains_any (base : Nat) (v : Value) (M : List (List UInt8)) (t : ByteArray) (w : World) (hrow : w.ownsRow base 106 1 v M.length (M.map strV)) (hM : M.length ≤ 1048576) :
    Calls Tryz.prog 96 #[v, .agg #[.string t]] w fun e w' => e = .returned (.bool (decide (t.data.toList ∈ M))) ∧ Below w.heap.size w w' := by
  obtain ⟨d, hd⟩ : ∃ d, d = decide (t.data.toList ∈ M) := ⟨_, rfl⟩
  rw [← hd]
  have HD : Hid (d = decide (t.data.toList ∈ M)) := hd
  clear hd
  go_enter Tryz.func96, Tryz.ntmps96
  go_wp2_with fail
  refine (index_any base v M t _ (hrow.alloc _) hM).mono ?_
  rintro e w1 ⟨i, rfl, hi, hb⟩
  have HI : Hid (decide (0 ≤ i) = d) := by
    unfold Hid; rw [HD.out]; exact decide_eq_decide.2 hi
  clear hi
  go_wp2
  go_ret
  exact ⟨ret_bool HI.out, below_one hb⟩

set_option maxHeartbeats 1000000 in
set_option maxRecDepth 100000 in
theorem rooted_any (r n : ByteArray) (w : World) (hr : r.size ≤ 4194304) (hn : n.size ≤ 4194304) :
    Calls Tryz.prog 95 #[.string r, .string n] w fun e w' => e = .returned (strV (Pl.rooted r.data.toList n.data.toList)) ∧ w' = w := by
  by_cases h : r.data.toList = []
  · have hr0 : Pl.rooted r.data.toList n.data.toList = n.data.toList := by unfold Pl.rooted; rw [if_pos h]
    rw [hr0, strV_data]
    have he : r.toList.isEmpty = true := by rw [Go.ByteArray.toList_eq, h]; rfl
    clear hr0 h
    go_enter Tryz.func95, Tryz.ntmps95
    go_wp2
    go_ret
    exact ⟨rfl, rfl⟩
  · have hr0 : strV (Pl.rooted r.data.toList n.data.toList) = .string (r ++ ⟨#[47]⟩ ++ n) := by
      unfold Pl.rooted; rw [if_neg h, ← strV_data, ByteArray.data_append, ByteArray.data_append, Array.toList_append, Array.toList_append]
    rw [hr0]
    have he : r.toList.isEmpty = false := by rw [Go.ByteArray.toList_eq]; simpa using h
    clear hr0 h
    go_enter Tryz.func95, Tryz.ntmps95
    go_wp2
    go_ret
    exact ⟨rfl, rfl⟩

theorem under_succ (L : List (List UInt8)) (n : List UInt8) (k : Nat) (hk : k < L.length) : Pl.under (L.take (k + 1)) n = Pl.addTry (Pl.under (L.take k) n) (Pl.nm [] (Pl.rooted L[k] n)) := by
  unfold Pl.under; rw [List.take_succ_eq_append_getElem hk, List.foldl_append]; rfl
theorem addTry_len (out : List (List UInt8)) (x : Int × List UInt8) : (Pl.addTry out x).length ≤ out.length + 1 := by
  unfold Pl.addTry; split
  · split
    · omega
    · simp
  · omega
theorem under_len (L : List (List UInt8)) (n : List UInt8) (k : Nat) (hk : k ≤ L.length) : (Pl.under (L.take k) n).length ≤ k := by
  induction k with
  | zero => simp [Pl.under]
  | succ k ih =>
    rw [under_succ L n k (by omega)]
    have := addTry_len (Pl.under (L.take k) n) (Pl.nm [] (Pl.rooted L[k] n))
    have := ih (by omega); omega

set_option maxHeartbeats 2000000 in
set_option maxRecDepth 100000 in
theorem underRoots_any (vr : Value) (L : List (List UInt8)) (n : ByteArray) (w : World) (hv : Strs w vr L) (hl : Pl.total L ≤ 1048576) (hn : n.size ≤ 60) :
    Calls Tryz.prog 78 #[vr, .string n] w fun e w' => ∃ v, e = .returned v ∧ w'.ownsRow w.heap.size 106 1 v (Pl.under L n.data.toList).length ((Pl.under L n.data.toList).map strV) ∧ Below w.heap.size w w' := by
  obtain ⟨i49, hj, hy0, hy1, hy2⟩ := info_parts Tryz.info49
  obtain ⟨a, cap, rfl, hcap, hmax, hcell⟩ := hv
  have HC : Hid (∀ k, (hk : k < L.length) → ∃ b o, a = some ⟨b, o, none⟩ ∧ b < w.heap.size ∧ w.cell? ⟨b, o + k, none⟩ = some (strV L[k])) := hcell
  have hll : L.length ≤ 1048576 := by unfold Pl.total at hl; omega
  have HLE : Hid (∀ k, (hk : k < L.length) → L[k].length ≤ 1048576) := fun k hk => by have := len_le_total L k hk; omega
  have HUL : Hid (∀ k, k ≤ L.length → (Pl.under (L.take k) n.data.toList).length ≤ k) := fun k hk => under_len L _ k hk
  clear hcell hmax hl
  go_enter Tryz.func78, Tryz.ntmps78
  go_wp2
  go_loopw [5, 12] (fun vm i wr => ∃ k : Nat, k ≤ L.length ∧ i = .int .i64 k ∧ wr.ownsRow w.heap.size 106 1 vm (Pl.under (L.take k) n.data.toList).length ((Pl.under (L.take k) n.data.toList).map strV) ∧ Below w.heap.size w wr) (fun _ i _ => L.length - (intOf i).toNat)
  case atStart => exact ⟨0, Nat.zero_le _, rfl, World.ownsRow_nil _ _ _ _, Below.refl _ _⟩
  case round =>
    obtain ⟨k, hk, rfl, hm, hB⟩ := hrel
    have hsz := hB.size
    by_cases hlt : k < L.length
    · obtain ⟨b, o, rfl, hb, hc⟩ := HC.out k hlt
      obtain ⟨q, hq⟩ : ∃ q : ByteArray, q = ⟨L[k].toArray⟩ := ⟨_, rfl⟩
      have hqd : q.data.toList = L[k] := by rw [hq]
      have hqs : q.size ≤ 4194304 := by rw [size_data, hqd]; have := HLE.out k hlt; omega
      have hcq : wr.cell? ⟨b, o + k, none⟩ = some (.string q) := by rw [hB.cell (p := ⟨b, o + k, none⟩) hb, hc, hq]; rfl
      have hroot := rooted_any q n wr hqs (by omega)
      obtain ⟨rt, hrt⟩ : ∃ rt : ByteArray, rt = ⟨(Pl.rooted q.data.toList n.data.toList).toArray⟩ := ⟨_, rfl⟩
      have hrtd : rt.data.toList = Pl.rooted q.data.toList n.data.toList := by rw [hrt]
      rw [show strV (Pl.rooted q.data.toList n.data.toList) = .string rt by rw [hrt]; rfl] at hroot
      obtain ⟨c, x, hn'⟩ : ∃ c x, Pl.nm [] rt.data.toList = (c, x) := ⟨_, _, rfl⟩
      have hU := under_succ L n.data.toList k hlt
      rw [← hqd, ← hrtd, hn'] at hU
      have hul := HUL.out k (by omega)
      obtain ⟨T, hT⟩ : ∃ T, T = Pl.under (L.take k) n.data.toList := ⟨_, rfl⟩
      rw [← hT] at hm hU hul
      obtain ⟨t, htx⟩ : ∃ t : ByteArray, t = ⟨x.toArray⟩ := ⟨_, rfl⟩
      have htd : t.data.toList = x := by rw [htx]
      have hwalk : ∀ W : World, Calls Tryz.prog 77 #[.slice none 0 0, .string rt] W fun e w' => e = .returned (.tuple #[.agg #[.string t], .int .i64 c]) ∧ Below W.heap.size W w' := fun W => by
        have := walk_any W.heap.size (.slice none 0 0) [] rt W (World.ownsRow_nil _ _ _ _) (Nat.le_refl _) (by decide)
        rw [hn', formV, htx] at *; exact this
      have HWALK : Hid (∀ W : World, Calls Tryz.prog 77 #[.slice none 0 0, .string rt] W fun e w' => e = .returned (.tuple #[.agg #[.string t], .int .i64 c]) ∧ Below W.heap.size W w') := hwalk
      have HTD : Hid (t.data.toList = x) := htd
      have HU : Hid (Pl.under (L.take (k + 1)) n.data.toList = Pl.addTry T (c, x)) := hU
      clear hwalk htd htx hU hT hn' hrtd hrt hq hqd hc
      obtain ⟨am, capm, rfl, hcapm, _, _⟩ := row_shape49 hm
      by_cases hc0 : c = 0
      · have hb0 : (c == 0) = true := by simpa using hc0
        have hb0' : (c != 0) = false := by simpa using hc0
        have hcont : ∀ W : World, W.ownsRow w.heap.size 106 1 (.slice am T.length capm) T.length (T.map strV) → Calls Tryz.prog 96 #[.slice am T.length capm, .agg #[.string t]] W fun e w' => e = .returned (.bool (decide (x ∈ T))) ∧ Below W.heap.size W w' := fun W h => by
          have := contains_any _ _ T t W h (by omega); rw [HTD.out] at this; exact this
        have HCONT : Hid (∀ W : World, W.ownsRow w.heap.size 106 1 (.slice am T.length capm) T.length (T.map strV) → Calls Tryz.prog 96 #[.slice am T.length capm, .agg #[.string t]] W fun e w' => e = .returned (.bool (decide (x ∈ T))) ∧ Below W.heap.size W w') := hcont
        clear hcont
        by_cases hx : x ∈ T
        · have hdx : decide (x ∈ T) = true := by simpa using hx
          have HF : Hid (Pl.under (L.take (k + 1)) n.data.toList = T) := by unfold Hid; rw [HU.out]; unfold Pl.addTry; rw [if_pos hc0, if_pos hx]
          rw [hdx] at HCONT
          clear hc0 hx hdx
          go_wp2_with fail
          refine hroot.mono ?_
          rintro e w' ⟨rfl, rfl⟩
          go_wp2_with fail
          refine (HWALK.out _).mono ?_
          rintro e w2 ⟨rfl, hb2⟩
          have hm2 := (own_below hm hb2 (Nat.le_refl _)).alloc (.cells #[.string t] 106)
          have hB2 : Below w.heap.size w (w2.alloc (.cells #[.string t] 106)) := (hB.trans (hb2.mono hsz)).alloc (by have := hb2.size; omega) _
          go_wp2_with fail
          refine (HCONT.out _ hm2).mono ?_
          rintro e w3 ⟨rfl, hb3⟩
          go_wp2
          go_roundw
          case rel => exact ⟨k + 1, by omega, by go_num, by rw [HF.out]; exact own_below hm2 hb3 (Nat.le_refl _), hB2.trans (hb3.mono hB2.size)⟩
          case measure => simp [intOf]; omega
        · have hdx : decide (x ∈ T) = false := by simpa using hx
          have HF : Hid (Pl.under (L.take (k + 1)) n.data.toList = T ++ [x]) := by unfold Hid; rw [HU.out]; unfold Pl.addTry; rw [if_pos hc0, if_neg hx]
          have HTX : Hid (Value.string t = strV x) := by unfold Hid; rw [← strV_data, HTD.out]
          rw [hdx] at HCONT
          clear hc0 hx hdx
          go_wp2_with fail
          refine hroot.mono ?_
          rintro e w' ⟨rfl, rfl⟩
          go_wp2_with fail
          refine (HWALK.out _).mono ?_
          rintro e w2 ⟨rfl, hb2⟩
          have hm2 := (own_below hm hb2 (Nat.le_refl _)).alloc (.cells #[.string t] 106)
          have hB2 : Below w.heap.size w (w2.alloc (.cells #[.string t] 106)) := (hB.trans (hb2.mono hsz)).alloc (by have := hb2.size; omega) _
          go_wp2_with fail
          refine (HCONT.out _ hm2).mono ?_
          rintro e w3 ⟨rfl, hb3⟩
          have hm3 := own_below hm2 hb3 (Nat.le_refl _)
          have hB3 : Below w.heap.size w w3 := hB2.trans (hb3.mono hB2.size)
          have hz3 := hB3.size
          have hf3 : w3.cell? ⟨w2.heap.size, 0, none⟩ = some (.string t) := by
            rw [hb3.cell (p := ⟨w2.heap.size, 0, none⟩) (by simp)]; simp
          have hz23 : w2.heap.size < w3.heap.size := by have := hb3.size; simp at this; omega
          clear hm2 hB2 hb3 hb2 hB hm
          go_wp2_with (at_builtin; refine wpList_app1 _ rfl (.tmp 31) (.tmp 33) 103 rfl w.heap.size 106 i49 (.agg #[.string ⟨#[]⟩]) 16 Tryz.underlying103 hj hy0 hy1 hy2 rfl _ _ _ rfl (hm3.alloc _) ⟨_, 0, none⟩ 1 (.string t) rfl (cell_one_new _ _ _) (by simp [Value.oneCell']) (by unfold maxLen; omega) (by omega) (by simp; omega) ?_; intro vm' w4 hm4 hg4 hs4; have hB4 := below_append hB3 hz3 hm3 hg4; clear hm3 hf3 hg4 hs4 hB3)
          rw [HTX.out] at hm4
          go_roundw
          case rel => exact ⟨k + 1, by omega, by go_num, by rw [HF.out]; simpa using hm4, hB4⟩
          case measure => simp [intOf]; omega
      · have hb0 : (c == 0) = false := by simpa using hc0
        have hb0' : (c != 0) = true := by simpa using hc0
        have HF : Hid (Pl.under (L.take (k + 1)) n.data.toList = T) := by unfold Hid; rw [HU.out]; unfold Pl.addTry; rw [if_neg hc0]
        clear hc0
        go_wp2_with fail
        refine hroot.mono ?_
        rintro e w' ⟨rfl, rfl⟩
        go_wp2_with fail
        refine (HWALK.out _).mono ?_
        rintro e w2 ⟨rfl, hb2⟩
        go_wp2_with (fail)
        go_roundw
        case rel => exact ⟨k + 1, by omega, by go_num, by rw [HF.out]; exact (own_below hm hb2 (Nat.le_refl _)).alloc _, (hB.trans (hb2.mono hsz)).alloc (by have := hb2.size; omega) _⟩
        case measure => simp [intOf]; omega
    · have hkL : L.take k = L := List.take_of_length_le (by omega)
      rw [hkL] at hm
      clear hkL
      go_wp2
      go_ret
      exact ⟨_, rfl, hm, hB⟩

end Go.Proofs.YtimgafblpmjajabGreat
