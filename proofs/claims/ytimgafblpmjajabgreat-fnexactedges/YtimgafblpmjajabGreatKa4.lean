import Derived.Maps.OwnSet
import Derived.DeepKeys4
import Derived.SliceStrings
import Derived.Deep.Slices
import Derived.Deep.Strs
import Derived.Lib.SmallJoins
import Derived.Test.YtimgafblpmjajabGreatKa3
namespace Go.Proofs.YtimgafblpmjajabGreat

open Go.RowKit Go.Maps

theorem Tryz.laidOut0 : laidOutB Tryz.prog = true := by kernel_rfl
theorem Tryz.row93 : 106 < Tryz.prog.types.size := of_decide_eq_true (by kernel_rfl)
theorem Tryz.wide93 : (match Tryz.prog.underlying 106 with | some (.array _ _) | some (.struct _) => true | _ => false) = true := by kernel_rfl
theorem Tryz.key93 : Tryz.prog.keyTypeAt 3 106 = true := by kernel_rfl
set_option maxRecDepth 100000 in
theorem lawK : Keyed Tryz.prog 106 := Keyed.of_law (deep_law_laid Tryz.laidOut0 (m := 3) (by omega) Tryz.row93 Tryz.key93 Tryz.wide93)

/-- What a name in its one form reads as, as a key. -/
def keyL (l : List UInt8) : Lit := .string (keyBytes [.string l])
theorem key_form (s : ByteArray) : keyOf Tryz.prog 106 (.agg #[.string s]) = (if s.size ≤ maxLen then some (keyL s.data.toList) else none) := by
  have h : keyOf Tryz.prog 106 (.agg #[.string s]) = ((((if s.size ≤ maxLen then some [Lit.string s.data.toList] else none : Option (List Lit)).bind fun a => some [a]).map List.flatten).map fun ls => Lit.string (keyBytes ls)) := by kernel_rfl
  rw [h]
  split <;> rfl
theorem key_mk {s : ByteArray} {l : List UInt8} (hs : s.data.toList = l) (h : s.size ≤ maxLen) : keyOf Tryz.prog 106 (.agg #[.string s]) = some (keyL l) := by rw [key_form, if_pos h, hs]
theorem keyL_ne {s t : ByteArray} (hs : s.size ≤ maxLen) (ht : t.size ≤ maxLen) (h : s.data.toList ≠ t.data.toList) : keyL s.data.toList ≠ keyL t.data.toList := fun e => by
  have h1 := key_mk (s := s) rfl hs
  have h2 := key_mk (s := t) rfl ht
  rw [e] at h1
  have := lawK.inj h1 h2
  injection this with h3
  have h4 : (Value.string s) = .string t := by simpa using h3
  injection h4 with h5
  exact h (by rw [h5])
theorem zero3 (w : World) : (zeroValue 3).run Tryz.prog w = .ok (.int .i64 0) w := by kernel_rfl

theorem map_below {w w' : World} {B b n : Nat} {D : DataW Unit} (h : w.ownsMap Tryz.prog 106 (plainElem Tryz.prog 3) b n D) (hb : Below B w w') (hB : b < B) : w'.ownsMap Tryz.prog 106 (plainElem Tryz.prog 3) b n D := by
  obtain ⟨es, clock, hh, r⟩ := h
  exact ⟨es, clock, (hb.block b hB).trans hh, r⟩

/-- The shelf holds just the names of the first k. -/
def Shelved (M : List Md) (k : Nat) (D : DataW Unit) : Prop := IsMap D ∧ ∀ l : List UInt8, l.length ≤ 1048576 → Maps.has D (keyL l) = (M.take k).any (fun m => decide (m.name = l))
theorem shelved_zero (M : List Md) : Shelved M 0 (.map []) := ⟨isMap_empty, fun _ _ => rfl⟩
theorem arr_of (l : List UInt8) (h : l.length ≤ 1048576) : ∃ s : ByteArray, s.data.toList = l ∧ s.size ≤ maxLen := ⟨⟨l.toArray⟩, by simp, by rw [size_data]; simp; unfold maxLen; omega⟩
theorem shelved_put {M : List Md} {k : Nat} {D : DataW Unit} (h : Shelved M k D) (hk : k < M.length) (hn : M[k].name.length ≤ 1048576) (d : DataW Unit) : Shelved M (k + 1) (D.put (keyL M[k].name) d) := by
  refine ⟨h.1.put _ _, fun l hl => ?_⟩
  obtain ⟨s, hs, hsz⟩ := arr_of l hl
  obtain ⟨t, ht, htz⟩ := arr_of M[k].name hn
  rw [List.take_succ_eq_append_getElem hk, List.any_append]
  by_cases he : M[k].name = l
  · rw [he, has_put_same h.1 (lawK.key (key_mk hs hsz))]
    simp [he]
  · have hne : keyL l ≠ keyL M[k].name := by
      have := keyL_ne hsz htz (by rw [hs, ht]; exact fun e => he e.symm)
      rwa [hs, ht] at this
    rw [has_put_other hne, h.2 l hl]
    simp [he]

set_option maxRecDepth 100000 in
set_option maxHeartbeats 8000000 in
theorem shelve_any (v : Value) (M : List Md) (w : World) (h : Mds w v M) (hM : M.length ≤ 1048576) (hMM : ∀ m ∈ M, m.t ≤ 1048576) :
    Calls Tryz.prog 51 #[v] w fun e w' => ∃ mv, e = .returned (.tuple #[mv, .int .i64 (firstN (badMd M) M.length 0 : Nat)]) ∧ Below w.heap.size w w' := by
  have hmm := @run_makeMap Tryz.prog
  obtain ⟨a, cap, rfl, hcap, hmax, hc⟩ := h
  have HC : Hid (∀ k, (hk : k < M.length) → ∃ b o s, a = some ⟨b, o, none⟩ ∧ b < w.heap.size ∧
    w.cell? ⟨b, o + k * 2, none⟩ = some (strV M[k].name) ∧ w.cell? ⟨b, o + k * 2 + 1, none⟩ = some s ∧ Lns w s M[k].lines) := hc
  have HMM : Hid (∀ m ∈ M, m.t ≤ 1048576) := hMM
  clear hc hmax hMM
  go_enter Tryz.func51, Tryz.ntmps51
  go_wp2
  go_loopw [14] (fun i wr => ∃ (k : Nat) (D : DataW Unit), k ≤ M.length ∧ i = .int .i64 k ∧ (∀ j, j < k → badMd M j = false) ∧ wr.ownsMap Tryz.prog 106 (plainElem Tryz.prog 3) w.heap.size k D ∧ Shelved M k D ∧ Below w.heap.size w wr) (fun i _ => M.length - (intOf i).toNat)
  case atStart => exact ⟨0, _, Nat.zero_le _, rfl, fun j h => absurd h (by omega), World.ownsMap_made _ _ _ _, shelved_zero M, (Below.refl _ _).alloc (Nat.le_refl _) _⟩
  case round =>
    obtain ⟨k, D, hk, rfl, hbad, hown, hsh, hB⟩ := hrel
    have HBAD : Hid (∀ j, j < k → badMd M j = false) := hbad
    have HSH : Hid (Shelved M k D) := hsh
    have hwB := hown.lt
    clear hbad hsh hmm
    by_cases hlt : k < M.length
    · obtain ⟨b, o, s, rfl, hb, h0, h1, h2⟩ := HC.out k hlt
      obtain ⟨hs1, hs2, hs3⟩ := Md.small (HMM.out _ (List.getElem_mem hlt))
      obtain ⟨asl, cs, rfl⟩ := h2.slice
      obtain ⟨N, hN⟩ : ∃ N, N = M[k].lines.length := ⟨_, rfl⟩
      obtain ⟨ns, hns⟩ : ∃ ns : ByteArray, ns.data.toList = M[k].name := ⟨⟨M[k].name.toArray⟩, by simp⟩
      have hnv : strV M[k].name = .string ns := by rw [← hns, strV_data]
      rw [hnv] at h0
      rw [← hN] at h1 hs2
      have c0 := (hB.cell (p := ⟨b, o + k * 2, none⟩) hb).trans h0
      have c1 := (hB.cell (p := ⟨b, o + k * 2 + 1, none⟩) hb).trans h1
      have hbm := badMd_at hlt
      rw [← hN] at hbm
      have HBM : Hid (badMd M k = (!isN M[k].name || decide (60 < N) || (M.take k).any (fun m => decide (m.name = M[k].name)))) := hbm
      have HNS : Hid (ns.data.toList = M[k].name) := hns
      have HSZ : Hid (M[k].name.length ≤ 1048576) := hs1
      have HNV : Hid (strV M[k].name = .string ns) := hnv
      clear h0 h1 h2 hs3 hs1 hbm hns hnv hN
      go_wp2_with fail
      refine (asWritten_any ns _).mono ?_
      rw [HNS.out]
      clear c0 c1
      by_cases hi : isN M[k].name = true
      · have hwv : writtenV M[k].name = .tuple #[.agg #[.string ns], .bool true] := by rw [writtenV, if_pos hi, HNV.out]
        rw [hwv]
        have HI : Hid (isN M[k].name = true) := hi
        clear hwv hi
        rintro e w1 ⟨rfl, hb1⟩
        have m0 : w1.cell? ⟨wr.heap.size, 0, none⟩ = some (.string ns) := below_cell0 hb1 (by simp) (by simp [go_sem])
        have m1 : w1.cell? ⟨wr.heap.size, 1, none⟩ = some (.slice asl N cs) := below_cell0 hb1 (by simp) (by simp [go_sem])
        have hB1 : Below w.heap.size w w1 := (hB.alloc hB.size _).trans (hb1.mono (by have := hB.size; simp; omega))
        have hz1 : wr.heap.size < w1.heap.size := by have := hb1.size; simp at this; omega
        have hz2 : w.heap.size < w1.heap.size := by omega
        have hown1 := map_below (hown.alloc _) hb1 (by simp; omega)
        have hkey := key_mk HNS.out (by rw [size_data, HNS.out]; have := HSZ.out; unfold maxLen; omega)
        have HHAS : Hid (Maps.has D (keyL M[k].name) = (M.take k).any (fun m => decide (m.name = M[k].name))) := HSH.out.2 _ HSZ.out
        clear hb1 hown
        obtain ⟨kl, hkl⟩ : ∃ kl, kl = keyL M[k].name := ⟨_, rfl⟩
        rw [← hkl] at hkey HHAS
        have HKL : Hid (kl = keyL M[k].name) := hkl
        clear hkl
        obtain ⟨tk, htk⟩ : ∃ tk, Maps.has D kl = tk := ⟨_, rfl⟩
        have HTK : Hid (Maps.has D kl = tk) := htk
        clear htk
        cases tk with
        | true =>
          have HODD : Hid (badMd M k = true) := by unfold Hid; rw [HBM.out, ← HHAS.out, HTK.out]; simp
          go_wp2_with (first
            | (at_lookup; refine wpList_lookup_own_ok_int _ rfl _ _ 59 rfl 106 3 .i64 lawK Tryz.underlying59 Tryz.underlying3 (zero3 _) w.heap.size k D rfl (hown1.alloc _) _ kl rfl hkey ?_; intro c hat hwc; rw [HTK.out]; clear hat hwc))
          exact bodyPost_ret (v := .tuple #[.map (some w.heap.size), .int .i64 k]) (by simp [results, Tryz.results51, go_sem]) rfl ⟨_, by rw [firstN_hit hlt HBAD.out HODD.out], hB1.alloc (by omega) _⟩
        | false =>
          by_cases h60 : 60 < N
          · have HODD : Hid (badMd M k = true) := by unfold Hid; rw [HBM.out]; simp [h60]
            go_wp2_with (first | (at_lookup; refine wpList_lookup_own_ok_int _ rfl _ _ 59 rfl 106 3 .i64 lawK Tryz.underlying59 Tryz.underlying3 (zero3 _) w.heap.size k D rfl (hown1.alloc _) _ kl rfl hkey ?_; intro c hat hwc; rw [HTK.out]; clear hat hwc))
            exact bodyPost_ret (v := .tuple #[.map (some w.heap.size), .int .i64 k]) (by simp [results, Tryz.results51, go_sem]) rfl ⟨_, by rw [firstN_hit hlt HBAD.out HODD.out], hB1.alloc (by omega) _⟩
          · have HGOOD : Hid (badMd M k = false) := by unfold Hid; rw [HBM.out, HI.out, ← HHAS.out, HTK.out]; simp; omega
            have hzz : w.heap.size < (w1.alloc (Obj.cells #[Value.string ns] 106)).heap.size := by simp; omega
            go_wp2_with (first | (at_lookup; refine wpList_lookup_own_ok_int _ rfl _ _ 59 rfl 106 3 .i64 lawK Tryz.underlying59 Tryz.underlying3 (zero3 _) w.heap.size k D rfl (hown1.alloc _) _ kl rfl hkey ?_; intro c hat hwc; rw [HTK.out]; clear hat hwc) | (at_mapUpdate; refine wpList_mapUpdate_own _ rfl _ _ _ 59 rfl 106 3 lawK Tryz.underlying59 (plainElem (H := Unit) Tryz.prog 3) w.heap.size k D rfl (hown1.alloc _) (by unfold maxLen; omega) _ _ kl rfl rfl hkey _ [] (plainElem_int Tryz.underlying3 (WalkArith.wf_i64 (by omega))) ?_; intro w2 hown2 hgrow2))
            have hB2 : Below w.heap.size w w2 := (hB1.alloc (by omega) _).grown hgrow2 (by simp; omega) (fun j hj => by cases hj; exact Nat.le_refl _)
            go_roundw
            case rel => exact ⟨k + 1, _, by omega, by go_num, fun j hjk => by
              by_cases hjk' : j = k
              · subst hjk'; exact HGOOD.out
              · exact HBAD.out j (by omega), hown2, by rw [HKL.out]; exact shelved_put HSH.out hlt HSZ.out _, hB2⟩
            case measure => simp [intOf]; omega
      · have hi' : isN M[k].name = false := by simpa using hi
        have hwv : writtenV M[k].name = .tuple #[.agg #[.string ⟨#[]⟩], .bool false] := by rw [writtenV, if_neg hi]; rfl
        rw [hwv]
        have HODD : Hid (badMd M k = true) := by unfold Hid; rw [HBM.out, hi']; simp
        clear hwv hi hi'
        rintro e w1 ⟨rfl, hb1⟩
        have m0 : w1.cell? ⟨wr.heap.size, 0, none⟩ = some (.string ns) := below_cell0 hb1 (by simp) (by simp [go_sem])
        have m1 : w1.cell? ⟨wr.heap.size, 1, none⟩ = some (.slice asl N cs) := below_cell0 hb1 (by simp) (by simp [go_sem])
        have hB1 : Below w.heap.size w w1 := (hB.alloc hB.size _).trans (hb1.mono (by have := hB.size; simp; omega))
        have hz1 : wr.heap.size < w1.heap.size := by have := hb1.size; simp at this; omega
        have hz2 : w.heap.size < w1.heap.size := by omega
        have hown1 := map_below (hown.alloc _) hb1 (by simp; omega)
        have hkey : keyOf Tryz.prog 106 (.agg #[.string ⟨#[]⟩]) = some (keyL []) := key_mk (s := ⟨#[]⟩) rfl (by decide)
        obtain ⟨kl, hkl⟩ : ∃ kl, kl = keyL [] := ⟨_, rfl⟩
        rw [← hkl] at hkey
        clear hkl hb1 hown
        obtain ⟨tk, htk⟩ : ∃ tk, Maps.has D kl = tk := ⟨_, rfl⟩
        have HTK : Hid (Maps.has D kl = tk) := htk
        clear htk
        go_wp2_with (first | (at_lookup; refine wpList_lookup_own_ok_int _ rfl _ _ 59 rfl 106 3 .i64 lawK Tryz.underlying59 Tryz.underlying3 (zero3 _) w.heap.size k D rfl (hown1.alloc _) _ kl rfl hkey ?_; intro c hat hwc; rw [HTK.out]; clear hat hwc))
        exact bodyPost_ret (v := .tuple #[.map (some w.heap.size), .int .i64 k]) (by simp [results, Tryz.results51, go_sem]) rfl ⟨_, by rw [firstN_hit hlt HBAD.out HODD.out], hB1.alloc (by omega) _⟩
    · have HNONE : Hid (firstN (badMd M) M.length 0 = M.length) := firstN_none (fun j hj => HBAD.out j (by omega))
      go_wp2
      exact bodyPost_ret (v := .tuple #[.map (some w.heap.size), .int .i64 M.length]) (by simp [results, Tryz.results51, go_sem]) rfl ⟨_, by rw [HNONE.out], hB⟩
end Go.Proofs.YtimgafblpmjajabGreat
namespace Go.Proofs.YtimgafblpmjajabGreat

open Go.RowKit

theorem firstN_le (p : Nat → Bool) : ∀ f i, firstN p f i ≤ i + f
  | 0, i => by rw [firstN]; omega
  | f + 1, i => by
    rw [firstN]
    split
    · omega
    · have := firstN_le p f (i + 1); omega

set_option maxHeartbeats 8000000 in
set_option maxRecDepth 100000 in
theorem implWorldOk_any (v : Value) (D : Wd) (w : World) (h : Wds w v D) (hD : D.t ≤ 1048576) :
    Calls Tryz.prog 50 #[v] w fun e w' => e = .returned (wrongV (wok D)) ∧ Below w.heap.size w w' := by
  obtain ⟨vr, vm, vf, rfl, h1, h2, h3⟩ := h
  have hr1 : D.roots.length ≤ 1048576 := by have : D.roots.length ≤ Pl.total D.roots := by unfold Pl.total; omega
                                            unfold Wd.t at hD; omega
  have hm1 : D.mods.length ≤ 1048576 := by unfold Wd.t mdsT at hD; omega
  have hm2 : ∀ m ∈ D.mods, m.t ≤ 1048576 := fun m hm => by
    have h1 : m.t ≤ (D.mods.map Md.t).sum := mem_le_sum _ _ (List.mem_map.2 ⟨m, hm, rfl⟩)
    unfold Wd.t mdsT at hD; omega
  have hf1 : D.faults.length ≤ 1048576 := by unfold Wd.t at hD; omega
  obtain ⟨R, hR⟩ : ∃ R, R = wok D := ⟨_, rfl⟩
  rw [← hR]
  have HR : Hid (R = wok D) := hR
  clear hR
  obtain ⟨a1, k1, rfl⟩ := h1.slice
  obtain ⟨a2, k2, rfl⟩ := h2.slice
  obtain ⟨a3, k3, rfl⟩ := h3.slice
  obtain ⟨W, hW⟩ : ∃ W, W = (w.alloc (.cells #[.slice a1 D.roots.length k1, .slice a2 D.mods.length k2, .slice a3 D.faults.length k3] 32)).alloc (.cells #[.int .i64 0, .int .i64 0, .int .i64 0] 88) := ⟨_, rfl⟩
  have hWB : Below w.heap.size w W := by rw [hW]; exact below_alloc2 _ _
  have hWs : W.heap.size = w.heap.size + 2 := by rw [hW]; simp
  have hBx : Bx w.heap.size W (.slice a1 D.roots.length k1) (.slice a2 D.mods.length k2) (.slice a3 D.faults.length k3) := by
    rw [hW]; constructor <;> simp [go_sem]
  have HW : Hid (W = (w.alloc (.cells #[.slice a1 D.roots.length k1, .slice a2 D.mods.length k2, .slice a3 D.faults.length k3] 32)).alloc (.cells #[.int .i64 0, .int .i64 0, .int .i64 0] 88)) := hW
  have HM2 : Hid (∀ m ∈ D.mods, m.t ≤ 1048576) := hm2
  have H1 : Hid (Strs w (.slice a1 D.roots.length k1) D.roots) := h1
  have H2 : Hid (Mds w (.slice a2 D.mods.length k2) D.mods) := h2
  have H3 : Hid (Nums w (.slice a3 D.faults.length k3) D.faults) := h3
  clear hW hm2 h1 h2 h3 hD
  go_enter Tryz.func50, Tryz.ntmps50
  go_wp2_with fail
  rw [← HW.out]
  refine (hasTooMany_any _ _ _ _ _ _ _ _ _ _ hr1 hm1 hf1).mono ?_
  by_cases hbig : 60 < D.mods.length ∨ 8 < D.roots.length ∨ 400 < D.faults.length
  · have hR1 : R = (1, 0, 0) := by rw [HR.out, wok_1 hbig]
    subst hR1
    rw [decide_eq_true hbig]
    rintro e w1 ⟨rfl, hb1⟩
    have hB1 : Below (w.heap.size + 2) W w1 := hb1.mono (by omega)
    obtain ⟨p0, p1, p2, q0, q1, q2, f0, f1, f2⟩ := hBx.below hB1 (Nat.le_refl _)
    clear hbig hb1
    go_wp2
    exact bodyPost_ret (v := wrongV (1, 0, 0)) (by simp [results, Tryz.results50, go_sem, wrongV, *]) rfl ⟨rfl, below_ret hWB hB1 _ _ _⟩
  rw [decide_eq_false hbig]
  have HBIG : Hid (¬ (60 < D.mods.length ∨ 8 < D.roots.length ∨ 400 < D.faults.length)) := hbig
  clear hbig
  rintro e w1 ⟨rfl, hb1⟩
  have hB1 : Below (w.heap.size + 2) W w1 := hb1.mono (by omega)
  clear hb1
  obtain ⟨p0, p1, p2, q0, q1, q2, f0, f1, f2⟩ := hBx.below hB1 (Nat.le_refl _)
  go_wp2_with fail
  refine (containsFunc_any _ D.roots w1 (H1.out.below (hWB.trans (hB1.mono (by omega))) (Nat.le_refl _)) hr1).mono ?_
  obtain ⟨rt, hrt⟩ : ∃ rt, D.roots.any oddRoot = rt := ⟨_, rfl⟩
  rw [hrt]
  have HRT : Hid (D.roots.any oddRoot = rt) := hrt
  clear hrt p0 p1 p2 q0 q1 q2 f0 f1 f2
  rintro e w2 ⟨rfl, hb2⟩
  have hB2 : Below (w.heap.size + 2) W w2 := hB1.trans (hb2.mono (by have := hB1.size; omega))
  clear hb2 hB1
  obtain ⟨p0, p1, p2, q0, q1, q2, f0, f1, f2⟩ := hBx.below hB2 (Nat.le_refl _)
  cases rt with
  | true =>
    have hR2 : R = (2, 0, 0) := by rw [HR.out, wok_2 HBIG.out HRT.out]
    subst hR2
    go_wp2
    exact bodyPost_ret (v := wrongV (2, 0, 0)) (by simp [results, Tryz.results50, go_sem, wrongV, *]) rfl ⟨rfl, below_ret hWB hB2 _ _ _⟩
  | false =>
    go_wp2_with fail
    refine (areReadings_any _ D.faults w2 (H3.out.below (hWB.trans (hB2.mono (by omega))) (Nat.le_refl _)) hf1).mono ?_
    obtain ⟨fa, hfa⟩ : ∃ fa, asc (-1) D.faults = fa := ⟨_, rfl⟩
    rw [hfa]
    have HFA : Hid (asc (-1) D.faults = fa) := hfa
    clear hfa
    rintro e w3 ⟨rfl, rfl⟩
    cases fa with
    | false =>
      have hR3 : R = (3, 0, 0) := by rw [HR.out, wok_3 HBIG.out HRT.out HFA.out]
      subst hR3
      go_wp2
      exact bodyPost_ret (v := wrongV (3, 0, 0)) (by simp [results, Tryz.results50, go_sem, wrongV, *]) rfl ⟨rfl, below_ret hWB hB2 _ _ _⟩
    | true =>
      go_wp2_with fail
      refine (shelve_any _ D.mods _ (H2.out.below (hWB.trans (hB2.mono (by omega))) (Nat.le_refl _)) hm1 HM2.out).mono ?_
      obtain ⟨sv, hsv⟩ : ∃ sv, firstN (badMd D.mods) D.mods.length 0 = sv := ⟨_, rfl⟩
      rw [hsv]
      have HSV : Hid (firstN (badMd D.mods) D.mods.length 0 = sv) := hsv
      clear hsv p0 p1 p2 q0 q1 q2 f0 f1 f2
      rintro e w4 ⟨mv, rfl, hb4⟩
      have hB4 : Below (w.heap.size + 2) W w4 := hB2.trans (hb4.mono (by have := hB2.size; omega))
      clear hb4 hB2
      obtain ⟨p0, p1, p2, q0, q1, q2, f0, f1, f2⟩ := hBx.below hB4 (Nat.le_refl _)
      by_cases hsl : sv < D.mods.length
      · have hR4 : R = (4, (sv : Int), 0) := by rw [HR.out, wok_4 HBIG.out HRT.out HFA.out hsl HSV.out]
        subst hR4
        go_wp2
        exact bodyPost_ret (v := wrongV (4, (sv : Int), 0)) (by simp [results, Tryz.results50, go_sem, wrongV, *]) rfl ⟨rfl, below_ret hWB hB4 _ _ _⟩
      · have hsl' : sv = D.mods.length := by have := firstN_le (badMd D.mods) D.mods.length 0; rw [HSV.out] at this; omega
        have HR5 : Hid (∀ k, (hk : k < D.mods.length) → firstN (badLns D.mods) D.mods.length 0 = k → R = (5, (k : Int), ((firstN (badLn D.mods[k].lines) D.mods[k].lines.length 0 : Nat) : Int))) := fun k hk h => by rw [HR.out, wok_5 HBIG.out HRT.out HFA.out (HSV.out.trans hsl') hk h]
        have HR6 : Hid (firstN (badLns D.mods) D.mods.length 0 = D.mods.length → R = (0, 0, 0)) := fun h => by rw [HR.out, wok_0 HBIG.out HRT.out HFA.out (HSV.out.trans hsl') h]
        clear hsl'
        obtain ⟨_, _, _, _, _, hc2⟩ := H2.out
        rename_i a2' cap2' hv2' _ _
        have HC2 : Hid (∀ k, (hk : k < D.mods.length) → ∃ b o s, a2 = some ⟨b, o, none⟩ ∧ b < w.heap.size ∧
          w.cell? ⟨b, o + k * 2, none⟩ = some (strV D.mods[k].name) ∧ w.cell? ⟨b, o + k * 2 + 1, none⟩ = some s ∧ Lns w s D.mods[k].lines) := fun k hk => by
            obtain ⟨b, o, s, ha, r⟩ := hc2 k hk
            injection hv2' with e1 e2 e3
            exact ⟨b, o, s, e1.trans ha, r⟩
        clear hc2 hv2'
        go_wp2
        go_loopw [39] (fun i wr => ∃ k : Nat, k ≤ D.mods.length ∧ i = .int .i64 k ∧ (∀ j, j < k → badLns D.mods j = false) ∧ Below (w.heap.size + 2) W wr) (fun i _ => D.mods.length - (intOf i).toNat)
        case atStart => exact ⟨0, Nat.zero_le _, rfl, fun j h => absurd h (by omega), hB4⟩
        case round =>
          obtain ⟨k, hk, rfl, hbad, hB8⟩ := hrel
          have HBAD : Hid (∀ j, j < k → badLns D.mods j = false) := hbad
          clear hbad hB4 p0 p1 p2 q0 q1 q2 f0 f1 f2
          rename World => w8
          have hBr8 : w.heap.size + 2 ≤ w8.heap.size := by have := hB8.size; omega
          obtain ⟨p0, p1, p2, q0, q1, q2, f0, f1, f2⟩ := hBx.below hB8 (Nat.le_refl _)
          by_cases hlt : k < D.mods.length
          · obtain ⟨b, o, s, rfl, hb, h0, h1, h2⟩ := HC2.out k hlt
            obtain ⟨hs1, hs2, hs3⟩ := Md.small (HM2.out _ (List.getElem_mem hlt))
            obtain ⟨asl, cs, rfl⟩ := h2.slice
            obtain ⟨ns, hns⟩ : ∃ ns : ByteArray, ns.data.toList = D.mods[k].name := ⟨⟨D.mods[k].name.toArray⟩, by simp⟩
            have hnv : strV D.mods[k].name = .string ns := by rw [← hns, strV_data]
            rw [hnv] at h0
            have c0 := (hB8.cell (p := ⟨b, o + k * 2, none⟩) (by simp only []; omega)).trans ((hWB.cell (p := ⟨b, o + k * 2, none⟩) hb).trans h0)
            have c1 := (hB8.cell (p := ⟨b, o + k * 2 + 1, none⟩) (by simp only []; omega)).trans ((hWB.cell (p := ⟨b, o + k * 2 + 1, none⟩) hb).trans h1)
            have hln : Lns (w8.alloc (Obj.cells #[Value.string ns, Value.slice asl D.mods[k].lines.length cs] 49)) (.slice asl D.mods[k].lines.length cs) D.mods[k].lines :=
              h2.below ((hWB.trans (hB8.mono (by omega))).alloc (by omega) _) (Nat.le_refl _)
            have hfo := firstOddLine_any _ D.mods[k].lines _ hln hs2 hs3
            have HBK : Hid (badLns D.mods k = decide (firstN (badLn D.mods[k].lines) D.mods[k].lines.length 0 < D.mods[k].lines.length)) := badLns_at hlt
            obtain ⟨N, hN⟩ : ∃ N, N = D.mods[k].lines.length := ⟨_, rfl⟩
            obtain ⟨q, hq⟩ : ∃ q, q = firstN (badLn D.mods[k].lines) D.mods[k].lines.length 0 := ⟨_, rfl⟩
            have hqn : q ≤ N := by rw [hq, hN]; have := firstN_le (badLn D.mods[k].lines) D.mods[k].lines.length 0; omega
            rw [← hq] at hfo HBK
            rw [← hN] at hfo HBK c1 hs2
            have HQ : Hid (q = firstN (badLn D.mods[k].lines) D.mods[k].lines.length 0) := hq
            have HFO : Hid (Calls Tryz.prog 72 #[.slice asl N cs] (w8.alloc (Obj.cells #[Value.string ns, Value.slice asl N cs] 49)) fun e w' => e = .returned (.int .i64 (q : Nat)) ∧ Below (w8.alloc (Obj.cells #[Value.string ns, Value.slice asl N cs] 49)).heap.size (w8.alloc (Obj.cells #[Value.string ns, Value.slice asl N cs] 49)) w') := hfo
            clear h0 h1 h2 hs3 hs1 hns hnv hN hq hln hfo
            go_wp2_with fail
            refine HFO.out.mono ?_
            rintro e w9 ⟨rfl, hb9⟩
            have m1 : w9.cell? ⟨w8.heap.size, 1, none⟩ = some (.slice asl N cs) := below_cell0 hb9 (by simp) (by simp [go_sem])
            have hB9 : Below (w.heap.size + 2) W w9 := (hB8.alloc hBr8 _).trans (hb9.mono (by simp; omega))
            clear hb9 p0 p1 p2 q0 q1 q2 f0 f1 f2 c0 c1
            obtain ⟨p0, p1, p2, q0, q1, q2, f0, f1, f2⟩ := hBx.below hB9 (Nat.le_refl _)
            by_cases hqN : q < N
            · have hR5 : R = (5, (k : Int), (q : Int)) := by
                rw [HR5.out k hlt (firstN_hit hlt HBAD.out (by rw [HBK.out]; simpa using hqN)), ← HQ.out]
              subst hR5
              go_wp2
              exact bodyPost_ret (v := wrongV (5, (k : Int), (q : Int))) (by simp [results, Tryz.results50, go_sem, wrongV, *]) rfl ⟨rfl, below_ret hWB hB9 _ _ _⟩
            · have HGOOD : Hid (badLns D.mods k = false) := by unfold Hid; rw [HBK.out]; simpa using hqN
              go_wp2
              go_roundw
              case rel => exact ⟨k + 1, by omega, by go_num, fun j hjk => by
                by_cases hjk' : j = k
                · subst hjk'; exact HGOOD.out
                · exact HBAD.out j (by omega), hB9⟩
              case measure => simp [intOf]; omega
          · have hR0 : R = (0, 0, 0) := HR6.out (firstN_none (fun j hj => HBAD.out j (by omega)))
            subst hR0
            go_wp2
            exact bodyPost_ret (v := wrongV (0, 0, 0)) (by simp [results, Tryz.results50, go_sem, wrongV, *]) rfl ⟨rfl, below_ret hWB hB8 _ _ _⟩
end Go.Proofs.YtimgafblpmjajabGreat
namespace Go.Proofs.YtimgafblpmjajabGreat

open Go.RowKit

theorem Wds.agg {w : World} {v : Value} {D : Wd} (h : Wds w v D) : ∃ a1 a2 a3 k1 k2 k3, v = .agg #[.slice a1 D.roots.length k1, .slice a2 D.mods.length k2, .slice a3 D.faults.length k3] := by
  obtain ⟨r, m, f, rfl, h1, h2, h3⟩ := h
  obtain ⟨a1, k1, rfl⟩ := h1.slice
  obtain ⟨a2, k2, rfl⟩ := h2.slice
  obtain ⟨a3, k3, rfl⟩ := h3.slice
  exact ⟨a1, a2, a3, k1, k2, k3, rfl⟩

/-- Three cells that stay. -/
theorem keep3 {B n : Nat} {W W' : World} {u0 u1 u2 : Value} (hb : Below B W W') (hz : n < B) (m : W.cell? ⟨n, 0, none⟩ = some u0 ∧ W.cell? ⟨n, 1, none⟩ = some u1 ∧ W.cell? ⟨n, 2, none⟩ = some u2) :
    W'.cell? ⟨n, 0, none⟩ = some u0 ∧ W'.cell? ⟨n, 1, none⟩ = some u1 ∧ W'.cell? ⟨n, 2, none⟩ = some u2 :=
  ⟨below_cell0 hb hz m.1, below_cell0 hb hz m.2.1, below_cell0 hb hz m.2.2⟩
theorem new3 (w : World) (u0 u1 u2 : Value) (t : TypeId) : (w.alloc (.cells #[u0, u1, u2] t)).cell? ⟨w.heap.size, 0, none⟩ = some u0 ∧ (w.alloc (.cells #[u0, u1, u2] t)).cell? ⟨w.heap.size, 1, none⟩ = some u1 ∧ (w.alloc (.cells #[u0, u1, u2] t)).cell? ⟨w.heap.size, 2, none⟩ = some u2 := by
  simp [go_sem]

end Go.Proofs.YtimgafblpmjajabGreat
namespace Go.Proofs.YtimgafblpmjajabGreat

open Go.RowKit Go.ChangeShapes Go.Deep

theorem Tryz.cellsOf9 : Tryz.prog.cellsOf 9 = 1 := by kernel_rfl
theorem Tryz.cellsOf2 : Tryz.prog.cellsOf 2 = 1 := by kernel_rfl
theorem Tryz.cellsOf3 : Tryz.prog.cellsOf 3 = 1 := by kernel_rfl
theorem Tryz.cellsOf22 : Tryz.prog.cellsOf 22 = 1 := by kernel_rfl
theorem Tryz.cellsOf23 : Tryz.prog.cellsOf 23 = 1 := by kernel_rfl
theorem Tryz.cellsOf24 : Tryz.prog.cellsOf 24 = 1 := by kernel_rfl
theorem Tryz.cellsOf86 : Tryz.prog.cellsOf 84 = 1 := by kernel_rfl
theorem Tryz.cellsOf88 : Tryz.prog.cellsOf 86 = 2 := by kernel_rfl
theorem Tryz.cellsOf127 : Tryz.prog.cellsOf 157 = 4 := by kernel_rfl
theorem Tryz.cellsOf26 : Tryz.prog.cellsOf 26 = 3 := by kernel_rfl

/-- A list out of what is there at each place. -/
theorem list_of {α : Type} (p : Nat → α → Prop) : ∀ n, (∀ i, i < n → ∃ x, p i x) → ∃ L : List α, L.length = n ∧ ∀ i (h : i < L.length), p i L[i]
  | 0, _ => ⟨[], rfl, fun i h => absurd h (by simp)⟩
  | n + 1, h => by
    obtain ⟨L, hl, hp⟩ := list_of p n (fun i hi => h i (by omega))
    obtain ⟨x, hx⟩ := h n (by omega)
    refine ⟨L ++ [x], by simp [hl], fun i hi => ?_⟩
    by_cases hi' : i < L.length
    · rw [List.getElem_append_left hi']; exact hp i hi'
    · have : i = n := by simp at hi; omega
      subst this
      rw [List.getElem_append_right (by omega)]
      simp only [hl, Nat.sub_self, List.getElem_singleton]; exact hx

theorem add_off (b o k : Nat) : (⟨b, o, none⟩ : Addr).add k = ⟨b, o + k, none⟩ := by
  unfold Addr.add
  split
  · rename_i hk; rw [hk]; rfl
  · rfl
theorem cell_block {W : World} {b o : Nat} {u : Value} (h : W.cell? ⟨b, o, none⟩ = some u) : b < W.heap.size := World.block_lt_of_cell? W ⟨b, o, none⟩ h

theorem spot_of {W : World} {a : Addr} {sz : Nat} {cs' : List Value} (h : W.cells? 0 (a.add (0 * sz)) sz = some cs') (hsz : 0 < sz) : ∃ b o, a = ⟨b, o, none⟩ ∧ b < W.heap.size := by
  obtain ⟨_, hl, h3⟩ := World.cells?_some h
  have h0 := h3 0 hsz
  rw [List.getElem?_eq_getElem (by omega), add_add, Nat.zero_mul, Nat.add_zero] at h0
  have h1 : a.add 0 = a := by unfold Addr.add; simp
  rw [h1] at h0
  obtain ⟨b, o, spot⟩ := a
  have : spot = none := World.cell?_spot h0
  subst this
  exact ⟨b, o, rfl, cell_block h0⟩
theorem cells_at {W : World} {b o i sz : Nat} {cs' : List Value} (h : W.cells? 0 ((⟨b, o, none⟩ : Addr).add (i * sz)) sz = some cs') :
    ∀ j u, cs'[j]? = some u → W.cell? ⟨b, o + i * sz + j, none⟩ = some u := by
  obtain ⟨_, hl, h3⟩ := World.cells?_some h
  intro j u hu
  have hj : j < sz := by rw [← hl]; exact (List.getElem?_eq_some_iff.1 hu).1
  have := h3 j hj
  rw [add_add, add_off, hu, ← Nat.add_assoc] at this
  exact this

section
variable {H : Type} {enc : TypeId × Value → H} {w : World} {held : Bool} {fuel : Nat} {cs : List Value} {x : DataW H × List MemPlace}

set_option maxRecDepth 100000 in
theorem open_nums (h : DataW.trod enc Tryz.prog w 0 (fun _ => true) held fuel 24 cs = some x) : ∃ v L, cs = [v] ∧ Nums w v L := by
  rcases open_slice Tryz.underlying24 h with ⟨rfl, _⟩ | ⟨a, len, cap, m, n, D, Pl, rfl, _, hl, hm, hmm, _, hx⟩
  · exact ⟨_, [], rfl, none, 0, rfl, Nat.le_refl _, by decide, fun k hk => absurd hk (by simp)⟩
  · have hmm' : m = cap := hmm
    obtain ⟨L, hL, hp⟩ := list_of (fun i (n : Int) => ∃ b o, a = ⟨b, o, none⟩ ∧ b < w.heap.size ∧ w.cell? ⟨b, o + i, none⟩ = some (.int .i64 n)) len (fun i hi => by
      obtain ⟨cs', h1, h2⟩ := hx i (by omega)
      obtain ⟨q, rfl, _, _⟩ := DataW.trod_int Tryz.underlying3 h2
      rw [Tryz.cellsOf3] at h1
      obtain ⟨cs0, h10, _⟩ := hx 0 (by omega)
      rw [Tryz.cellsOf3] at h10
      obtain ⟨b, o, ha, hb⟩ := spot_of h10 (by decide)
      rw [ha] at h1
      have hc := cells_at h1
      exact ⟨q, b, o, ha, hb, by have := hc 0 _ rfl; rwa [Nat.mul_one, Nat.add_zero] at this⟩)
    refine ⟨_, L, rfl, some a, cap, by rw [hL], by omega, hm, fun k hk => ?_⟩
    obtain ⟨b, o, rfl, hb, hc⟩ := hp k hk
    exact ⟨b, o, rfl, hb, hc⟩

set_option maxRecDepth 100000 in
theorem open_strs' (h : DataW.trod enc Tryz.prog w 0 (fun _ => true) held fuel 22 cs = some x) : ∃ v L, cs = [v] ∧ Strs w v L ∧ ∀ l ∈ L, l.length ≤ maxLen := by
  rcases open_slice Tryz.underlying22 h with ⟨rfl, _⟩ | ⟨a, len, cap, m, n, D, Pl, rfl, _, hl, hm, hmm, _, hx⟩
  · exact ⟨_, [], rfl, ⟨none, 0, rfl, Nat.le_refl _, by decide, fun k hk => absurd hk (by simp)⟩, fun l h => by cases h⟩
  · have hmm' : m = cap := hmm
    obtain ⟨L, hL, hp⟩ := list_of (fun i (s : List UInt8) => s.length ≤ maxLen ∧ ∃ b o, a = ⟨b, o, none⟩ ∧ b < w.heap.size ∧ w.cell? ⟨b, o + i, none⟩ = some (strV s)) len (fun i hi => by
      obtain ⟨cs', h1, h2⟩ := hx i (by omega)
      obtain ⟨q, rfl, _, hq⟩ := DataW.trod_string Tryz.underlying9 h2
      rw [Tryz.cellsOf9] at h1
      obtain ⟨cs0, h10, _⟩ := hx 0 (by omega)
      rw [Tryz.cellsOf9] at h10
      obtain ⟨b, o, ha, hb⟩ := spot_of h10 (by decide)
      rw [ha] at h1
      have hc := cells_at h1
      exact ⟨q.data.toList, by rw [← size_data]; exact hq, b, o, ha, hb, by have := hc 0 _ rfl; rw [Nat.mul_one, Nat.add_zero] at this; rw [strV_data]; exact this⟩)
    refine ⟨_, L, rfl, ⟨some a, cap, by rw [hL], by omega, hm, fun k hk => ?_⟩, fun l hl => ?_⟩
    · obtain ⟨_, b, o, rfl, hb, hc⟩ := hp k hk
      exact ⟨b, o, rfl, hb, hc⟩
    · obtain ⟨j, hj, rfl⟩ := List.getElem_of_mem hl
      exact (hp j hj).1

theorem one_cell (u : List Value) (h : u.length = 1) : ∃ c, u = [c] := by
  match u, h with
  | [c], _ => exact ⟨c, rfl⟩

set_option maxRecDepth 100000 in
theorem open_ln (h : DataW.trod enc Tryz.prog w 0 (fun _ => true) held fuel 157 cs = some x) : ∃ l : Ln, l.ok ∧ cs = [.int .i64 l.op, strV l.name, .int .i64 l.num, .int .i64 l.skip] := by
  obtain ⟨y0, y1, y2, y3, n, _, hl, h0, h1, h2, h3⟩ := Go.Joins.trod_struct4 Tryz.underlying157 h
  rw [Tryz.cellsOf127] at hl
  obtain ⟨q0, e0, _, _⟩ := DataW.trod_int Tryz.underlying3 h0
  obtain ⟨q1, e1, _, hq1⟩ := DataW.trod_string Tryz.underlying9 h1
  obtain ⟨q2, e2, _, _⟩ := DataW.trod_int Tryz.underlying2 h2
  obtain ⟨q3, e3, _, _⟩ := DataW.trod_int Tryz.underlying3 h3
  match cs, hl with
  | [c0, c1, c2, c3], _ =>
    simp only [Tryz.cellsOf3, Tryz.cellsOf9, Tryz.cellsOf2, List.drop_succ_cons, List.drop_zero, List.take_succ_cons, List.take_zero, List.cons.injEq, and_true] at e0 e1 e2 e3
    subst e0 e1 e2 e3
    refine ⟨⟨q0, q1.data.toList, q2, q3⟩, by unfold Ln.ok; rw [← size_data]; exact hq1, ?_⟩
    simp only [strV_data]

set_option maxRecDepth 100000 in
theorem open_lns (h : DataW.trod enc Tryz.prog w 0 (fun _ => true) held fuel 84 cs = some x) : ∃ v L, cs = [v] ∧ Lns w v L ∧ ∀ l ∈ L, l.ok := by
  rcases open_slice Tryz.underlying84 h with ⟨rfl, _⟩ | ⟨a, len, cap, m, n, D, Pl, rfl, _, hl, hm, hmm, _, hx⟩
  · exact ⟨_, [], rfl, ⟨none, 0, rfl, Nat.le_refl _, by decide, fun k hk => absurd hk (by simp)⟩, fun l h => by cases h⟩
  · have hmm' : m = cap := hmm
    obtain ⟨L, hL, hp⟩ := list_of (fun i (l : Ln) => l.ok ∧ ∃ b o, a = ⟨b, o, none⟩ ∧ b < w.heap.size ∧ w.cell? ⟨b, o + i * 4, none⟩ = some (.int .i64 l.op) ∧ w.cell? ⟨b, o + i * 4 + 1, none⟩ = some (strV l.name) ∧ w.cell? ⟨b, o + i * 4 + 2, none⟩ = some (.int .i64 l.num) ∧ w.cell? ⟨b, o + i * 4 + 3, none⟩ = some (.int .i64 l.skip)) len (fun i hi => by
      obtain ⟨cs', h1, h2⟩ := hx i (by omega)
      obtain ⟨l, hok, rfl⟩ := open_ln h2
      rw [Tryz.cellsOf127] at h1
      obtain ⟨cs0, h10, _⟩ := hx 0 (by omega)
      rw [Tryz.cellsOf127] at h10
      obtain ⟨b, o, ha, hb⟩ := spot_of h10 (by decide)
      rw [ha] at h1
      have hc := cells_at h1
      exact ⟨l, hok, b, o, ha, hb, hc 0 _ rfl, hc 1 _ rfl, hc 2 _ rfl, hc 3 _ rfl⟩)
    refine ⟨_, L, rfl, ⟨some a, cap, by rw [hL], by omega, hm, fun k hk => ?_⟩, fun l hl => ?_⟩
    · obtain ⟨_, b, o, rfl, r⟩ := hp k hk
      exact ⟨b, o, rfl, r⟩
    · obtain ⟨j, hj, rfl⟩ := List.getElem_of_mem hl
      exact (hp j hj).1

set_option maxRecDepth 100000 in
theorem open_md (h : DataW.trod enc Tryz.prog w 0 (fun _ => true) held fuel 86 cs = some x) : ∃ (m : Md) (s : Value), m.ok ∧ cs = [strV m.name, s] ∧ Lns w s m.lines := by
  obtain ⟨y0, y1, n, _, hl, h0, h1⟩ := trod_struct2 Tryz.underlying86 h
  rw [Tryz.cellsOf88] at hl
  obtain ⟨q0, e0, _, hq0⟩ := DataW.trod_string Tryz.underlying9 h0
  obtain ⟨v, L, e1, hL, hLok⟩ := open_lns h1
  match cs, hl with
  | [c0, c1], _ =>
    simp only [Tryz.cellsOf9, Tryz.cellsOf86, List.drop_succ_cons, List.drop_zero, List.take_succ_cons, List.take_zero, List.cons.injEq, and_true] at e0 e1
    subst e0 e1
    refine ⟨⟨q0.data.toList, L⟩, c1, ⟨by simp only []; rw [← size_data]; exact hq0, hLok⟩, ?_, hL⟩
    simp only [strV_data]

set_option maxRecDepth 100000 in
theorem open_mds (h : DataW.trod enc Tryz.prog w 0 (fun _ => true) held fuel 23 cs = some x) : ∃ v M, cs = [v] ∧ Mds w v M ∧ ∀ m ∈ M, m.ok := by
  rcases open_slice Tryz.underlying23 h with ⟨rfl, _⟩ | ⟨a, len, cap, m, n, D, Pl, rfl, _, hl, hm, hmm, _, hx⟩
  · exact ⟨_, [], rfl, ⟨none, 0, rfl, Nat.le_refl _, by decide, fun k hk => absurd hk (by simp)⟩, fun l h => by cases h⟩
  · have hmm' : m = cap := hmm
    obtain ⟨L, hL, hp⟩ := list_of (fun i (l : Md) => l.ok ∧ ∃ b o s, a = ⟨b, o, none⟩ ∧ b < w.heap.size ∧ w.cell? ⟨b, o + i * 2, none⟩ = some (strV l.name) ∧ w.cell? ⟨b, o + i * 2 + 1, none⟩ = some s ∧ Lns w s l.lines) len (fun i hi => by
      obtain ⟨cs', h1, h2⟩ := hx i (by omega)
      obtain ⟨l, s, hok, rfl, hs⟩ := open_md h2
      rw [Tryz.cellsOf88] at h1
      obtain ⟨cs0, h10, _⟩ := hx 0 (by omega)
      rw [Tryz.cellsOf88] at h10
      obtain ⟨b, o, ha, hb⟩ := spot_of h10 (by decide)
      rw [ha] at h1
      have hc := cells_at h1
      exact ⟨l, hok, b, o, s, ha, hb, hc 0 _ rfl, hc 1 _ rfl, hs⟩)
    refine ⟨_, L, rfl, ⟨some a, cap, by rw [hL], by omega, hm, fun k hk => ?_⟩, fun l hl => ?_⟩
    · obtain ⟨_, b, o, s, rfl, r⟩ := hp k hk
      exact ⟨b, o, s, rfl, r⟩
    · obtain ⟨j, hj, rfl⟩ := List.getElem_of_mem hl
      exact (hp j hj).1

set_option maxRecDepth 100000 in
theorem open_wds (h : DataW.trod enc Tryz.prog w 0 (fun _ => true) held fuel 26 cs = some x) : ∃ r m f D, cs = [r, m, f] ∧ Wds w (.agg #[r, m, f]) D ∧ D.ok := by
  obtain ⟨y0, y1, y2, n, _, hl, h0, h1, h2⟩ := trod_struct3 Tryz.underlying26 h
  rw [Tryz.cellsOf26] at hl
  obtain ⟨v0, L0, e0, hL0, hok0⟩ := open_strs' h0
  obtain ⟨v1, L1, e1, hL1, hok1⟩ := open_mds h1
  obtain ⟨v2, L2, e2, hL2⟩ := open_nums h2
  match cs, hl with
  | [c0, c1, c2], _ =>
    simp only [Tryz.cellsOf22, Tryz.cellsOf23, Tryz.cellsOf24, List.drop_succ_cons, List.drop_zero, List.take_succ_cons, List.take_zero, List.cons.injEq, and_true] at e0 e1 e2
    subst e0 e1 e2
    exact ⟨c0, c1, c2, ⟨L0, L1, L2⟩, rfl, ⟨c0, c1, c2, rfl, hL0, hL1, hL2⟩, hok0, hok1⟩
end
end Go.Proofs.YtimgafblpmjajabGreat
namespace Go.Proofs.YtimgafblpmjajabGreat

open Go.RowKit

def lnR (l : Ln) : List Value := [.int .i64 l.op, strV l.name, .int .i64 l.num, .int .i64 l.skip]
theorem lnR_len (L : List Ln) : (L.flatMap lnR).length = L.length * 4 := by
  induction L with
  | nil => rfl
  | cons x r ih => simp only [List.flatMap_cons, List.length_append, ih, lnR, List.length_cons, List.length_nil]; omega
theorem lnR_get : ∀ (L : List Ln) (k : Nat) (h : k < L.length), (L.flatMap lnR)[k * 4]? = some (.int .i64 L[k].op) ∧ (L.flatMap lnR)[k * 4 + 1]? = some (strV L[k].name) ∧ (L.flatMap lnR)[k * 4 + 2]? = some (.int .i64 L[k].num) ∧ (L.flatMap lnR)[k * 4 + 3]? = some (.int .i64 L[k].skip)
  | [], _, h => absurd h (by simp)
  | x :: r, 0, _ => by simp [lnR]
  | x :: r, k + 1, h => by
    have h' : k < r.length := by simpa using h
    obtain ⟨i0, i1, i2, i3⟩ := lnR_get r k h'
    have e : ∀ j, ((x :: r).flatMap lnR)[j + 4]? = (r.flatMap lnR)[j]? := fun j => by
      rw [List.flatMap_cons, List.getElem?_append_right (by simp [lnR])]; simp [lnR]
    have e0 : (k + 1) * 4 = k * 4 + 4 := by omega
    have e1 : (k + 1) * 4 + 1 = (k * 4 + 1) + 4 := by omega
    have e2 : (k + 1) * 4 + 2 = (k * 4 + 2) + 4 := by omega
    have e3 : (k + 1) * 4 + 3 = (k * 4 + 3) + 4 := by omega
    rw [e1, e2, e3, e0, e, e, e, e]
    simp only [List.getElem_cons_succ]
    exact ⟨i0, i1, i2, i3⟩
theorem lnR_eq {X : List Value} {L : List Ln} (hX : X.length = L.length * 4) (h : ∀ j (hj : j < L.length), X[j * 4]? = some (.int .i64 L[j].op) ∧ X[j * 4 + 1]? = some (strV L[j].name) ∧ X[j * 4 + 2]? = some (.int .i64 L[j].num) ∧ X[j * 4 + 3]? = some (.int .i64 L[j].skip)) : X = L.flatMap lnR := by
  apply List.ext_getElem?
  intro i
  by_cases hi : i / 4 < L.length
  · obtain ⟨a0, a1, a2, a3⟩ := h _ hi
    obtain ⟨b0, b1, b2, b3⟩ := lnR_get L _ hi
    have hm : i % 4 = 0 ∨ i % 4 = 1 ∨ i % 4 = 2 ∨ i % 4 = 3 := by omega
    rcases hm with hm | hm | hm | hm
    · rw [show i = i / 4 * 4 by omega, a0, b0]
    · rw [show i = i / 4 * 4 + 1 by omega]; exact a1.trans b1.symm
    · rw [show i = i / 4 * 4 + 2 by omega]; exact a2.trans b2.symm
    · rw [show i = i / 4 * 4 + 3 by omega]; exact a3.trans b3.symm
  · rw [List.getElem?_eq_none (by omega), List.getElem?_eq_none (by rw [lnR_len]; omega)]
theorem lns_own {w : World} {base : Nat} {v : Value} {L : List Ln} (h : w.ownsRow base 51 4 v L.length (L.flatMap lnR)) : Lns w v L := by
  rcases h.2 with ⟨hv, hn⟩ | ⟨g, cap, cur, hv, hg, hh, hc, hm, _⟩
  · exact ⟨none, 0, by rw [hv, hn], by omega, by unfold maxLen; omega, fun k hk => by omega⟩
  · subst hv
    exact lns_of_row h hm (fun j hj => lnR_get L j hj)
theorem nums_own {w : World} {base : Nat} {v : Value} {L : List Int} (h : w.ownsRow base 3 1 v L.length (L.map i64V)) : Nums w v L := by
  rcases h.2 with ⟨hv, hn⟩ | ⟨g, cap, cur, hv, hg, hh, hc, hm, _⟩
  · exact ⟨none, 0, by rw [hv, hn], by omega, by unfold maxLen; omega, fun k hk => by omega⟩
  · subst hv
    exact nums_of_row h hm (fun j hj => by simp [hj]; rfl)
theorem own_block {w w' : World} {base : Nat} {e : TypeId} {size : Nat} {v : Value} {n : Nat} {xs : List Value} (h : w.ownsRow base e size v n xs) (hk : ∀ b, v.ownBlock = some b → w'.heap[b]? = w.heap[b]?) : w'.ownsRow base e size v n xs := by
  obtain ⟨h1, h2 | ⟨g, cap, cur, hv, hg, hh, r⟩⟩ := h
  · exact ⟨h1, .inl h2⟩
  · exact ⟨h1, .inr ⟨g, cap, cur, hv, hg, by rw [hk g (by rw [hv]; rfl)]; exact hh, r⟩⟩
theorem own_set {w : World} {base : Nat} {e : TypeId} {size : Nat} {v : Value} {n : Nat} {xs : List Value} {B : Nat} (h : w.ownsRow base e size v n xs) (hB : B < base) (o : Nat) (u : Value) : (w.setCell ⟨B, o, none⟩ u).ownsRow base e size v n xs :=
  own_block h (fun b hb => by
    have := (h.lt b hb).1
    exact Below.heap_setCell _ _ _ _ (by show b ≠ B; omega))

/-- A row of modules, each with a row of lines, all of a call's own. -/
def Mrow (base : Nat) (w : World) (v : Value) (M : List Md) (X : List Value) : Prop :=
  w.ownsRow base 49 2 v M.length X ∧ ∀ j (hj : j < M.length), ∃ ls, X[j * 2]? = some (strV M[j].name) ∧ X[j * 2 + 1]? = some ls ∧ w.ownsRow base 51 4 ls M[j].lines.length (M[j].lines.flatMap lnR)
theorem Mrow.below {base B : Nat} {w w' : World} {v : Value} {M : List Md} {X : List Value} (h : Mrow base w v M X) (hb : Below B w w') (hB : w.heap.size ≤ B) : Mrow base w' v M X :=
  ⟨own_below h.1 hb hB, fun j hj => by obtain ⟨ls, h1, h2, h3⟩ := h.2 j hj; exact ⟨ls, h1, h2, own_below h3 hb hB⟩⟩
theorem Mrow.set {base B : Nat} {w : World} {v : Value} {M : List Md} {X : List Value} (h : Mrow base w v M X) (hB : B < base) (o : Nat) (u : Value) : Mrow base (w.setCell ⟨B, o, none⟩ u) v M X :=
  ⟨own_set h.1 hB _ _, fun j hj => by obtain ⟨ls, h1, h2, h3⟩ := h.2 j hj; exact ⟨ls, h1, h2, own_set h3 hB _ _⟩⟩
theorem Mrow.mono {base base' : Nat} {w : World} {v : Value} {M : List Md} {X : List Value} (h : Mrow base w v M X) (hb : base' ≤ base) : Mrow base' w v M X :=
  ⟨own_mono h.1 hb, fun j hj => by obtain ⟨ls, h1, h2, h3⟩ := h.2 j hj; exact ⟨ls, h1, h2, own_mono h3 hb⟩⟩
theorem Mrow.mds {base : Nat} {w : World} {v : Value} {M : List Md} {X : List Value} (h : Mrow base w v M X) : Mds w v M := by
  rcases h.1.2 with ⟨hv, hn⟩ | ⟨g, cap, cur, hv, hg, hh, hc, hm, _⟩
  · exact ⟨none, 0, by rw [hv, hn], by omega, by unfold maxLen; omega, fun k hk => by omega⟩
  · subst hv
    have hca := h.1.cellAt
    refine ⟨_, cap, rfl, hc, hm, fun k hk => ?_⟩
    obtain ⟨ls, h1, h2, h3⟩ := h.2 k hk
    exact ⟨g, 0, ls, rfl, (Array.getElem?_eq_some_iff.1 hh).1, by rw [Nat.zero_add, hca _ (by omega)]; exact h1, by rw [Nat.zero_add, hca _ (by omega)]; exact h2, lns_own h3⟩
/-- A world all of whose rows are a call's own. -/
def Wdo (base : Nat) (w : World) (v : Value) (D : Wd) : Prop :=
  ∃ r m f X, v = .agg #[r, m, f] ∧ w.ownsRow base 9 1 r D.roots.length (D.roots.map strV) ∧ Mrow base w m D.mods X ∧ w.ownsRow base 3 1 f D.faults.length (D.faults.map i64V)
theorem Wdo.wds {base : Nat} {w : World} {v : Value} {D : Wd} (h : Wdo base w v D) : Wds w v D := by
  obtain ⟨r, m, f, X, rfl, h1, h2, h3⟩ := h
  exact ⟨r, m, f, rfl, Strs.of_row h1, h2.mds, nums_own h3⟩
theorem Wdo.below {base : Nat} {w w' : World} {v : Value} {D : Wd} {B : Nat} (h : Wdo base w v D) (hb : Below B w w') (hB : w.heap.size ≤ B) : Wdo base w' v D := by
  obtain ⟨r, m, f, X, rfl, h1, h2, h3⟩ := h
  exact ⟨r, m, f, X, rfl, own_below h1 hb hB, h2.below hb hB, own_below h3 hb hB⟩

set_option maxHeartbeats 2000000 in
set_option maxRecDepth 100000 in
theorem toLineS_own (v : Value) (L : List Ln) (w : World) (h : Lns w v L) (hL : L.length ≤ 1048576) :
    Calls Tryz.prog 67 #[v] w fun e w' => ∃ v', e = .returned v' ∧ w'.ownsRow w.heap.size 51 4 v' L.length (L.flatMap lnR) ∧ Below w.heap.size w w' := by
  obtain ⟨i0, hi, hz0, hz1, hz2⟩ := info_parts Tryz.info57
  obtain ⟨a, cap, rfl, hcap, hmax, hc⟩ := h
  have HC : Hid (∀ k, (hk : k < L.length) → ∃ b o, a = some ⟨b, o, none⟩ ∧ b < w.heap.size ∧
    w.cell? ⟨b, o + k * 4, none⟩ = some (.int .i64 L[k].op) ∧ w.cell? ⟨b, o + k * 4 + 1, none⟩ = some (strV L[k].name) ∧ w.cell? ⟨b, o + k * 4 + 2, none⟩ = some (.int .i64 L[k].num) ∧ w.cell? ⟨b, o + k * 4 + 3, none⟩ = some (.int .i64 L[k].skip)) := hc
  clear hc hmax
  have hib : i0.bytes * L.length ≤ 281474976710656 := by rw [hz2]; omega
  have hlm : L.length ≤ maxLen := by unfold maxLen; omega
  go_enter Tryz.func67, Tryz.ntmps67
  go_wp2_with (at_make; refine wpList_make_full _ rfl _ _ 47 rfl w.heap.size 51 i0 _ 4 Tryz.underlying47 hi hz0 hz1 .i64 .i64 _ _ L.length rfl rfl rfl rfl hib hlm (Nat.le_refl _) ?_; intro w1 hown hgrow)
  have hB1 : Below w.heap.size w w1 := (Below.refl _ _).grown hgrow (Nat.le_refl _) (fun k e => by cases e)
  clear hgrow
  go_loopw [4] (fun i wr => ∃ (k : Nat) (X : List Value), k ≤ L.length ∧ i = .int .i64 k ∧ wr.ownsRow w.heap.size 51 4 (.slice (some ⟨w.heap.size, 0, none⟩) L.length L.length) L.length X ∧
      (∀ j (hj : j < L.length), j < k → X[j * 4]? = some (.int .i64 L[j].op) ∧ X[j * 4 + 1]? = some (strV L[j].name) ∧ X[j * 4 + 2]? = some (.int .i64 L[j].num) ∧ X[j * 4 + 3]? = some (.int .i64 L[j].skip)) ∧ Below w.heap.size w wr) (fun i _ => L.length - (intOf i).toNat)
  case atStart => exact ⟨0, _, Nat.zero_le _, rfl, hown, fun j _ hj => absurd hj (by omega), hB1⟩
  case round =>
    obtain ⟨k, X, hk, rfl, hown, hX, hB⟩ := hrel
    by_cases hlt : k < L.length
    · obtain ⟨b, o, rfl, hb, h0, h1, h2, h3⟩ := HC.out k hlt
      have c0 : wr.cell? ⟨b, o + k * 4, none⟩ = some (.int .i64 L[k].op) := (hB.cell (p := ⟨b, o + k * 4, none⟩) hb).trans h0
      have c1 : wr.cell? ⟨b, o + k * 4 + 1, none⟩ = some (strV L[k].name) := (hB.cell (p := ⟨b, o + k * 4 + 1, none⟩) hb).trans h1
      have c2 : wr.cell? ⟨b, o + k * 4 + 2, none⟩ = some (.int .i64 L[k].num) := (hB.cell (p := ⟨b, o + k * 4 + 2, none⟩) hb).trans h2
      have c3 : wr.cell? ⟨b, o + k * 4 + 3, none⟩ = some (.int .i64 L[k].skip) := (hB.cell (p := ⟨b, o + k * 4 + 3, none⟩) hb).trans h3
      have HX : Hid (∀ j (hj : j < L.length), j < k → X[j * 4]? = some (.int .i64 L[j].op) ∧ X[j * 4 + 1]? = some (strV L[j].name) ∧ X[j * 4 + 2]? = some (.int .i64 L[j].num) ∧ X[j * 4 + 3]? = some (.int .i64 L[j].skip)) := hX
      clear h0 h1 h2 h3 hX
      go_wp2_with fail
      refine (toLine_any L[k] wr).mono ?_
      unfold lnV
      obtain ⟨s, hs⟩ := strV_of L[k].name
      have HS : Hid (strV L[k].name = .string s) := hs
      rw [hs]
      clear hs c0 c1 c2 c3
      rintro e w1 ⟨rfl, hb1⟩
      have hown1 := own_below hown hb1 (Nat.le_refl _)
      have hXl : X.length = L.length * 4 := hown1.1
      have e0 : ∃ u, w1.cell? ⟨w.heap.size, k * 4, none⟩ = some u := by rw [hown1.cellAt _ (by omega)]; exact ⟨_, List.getElem?_eq_getElem (by omega)⟩
      have e1 : ∃ u, w1.cell? ⟨w.heap.size, k * 4 + 1, none⟩ = some u := by rw [hown1.cellAt _ (by omega)]; exact ⟨_, List.getElem?_eq_getElem (by omega)⟩
      have e2 : ∃ u, w1.cell? ⟨w.heap.size, k * 4 + 2, none⟩ = some u := by rw [hown1.cellAt _ (by omega)]; exact ⟨_, List.getElem?_eq_getElem (by omega)⟩
      have e3 : ∃ u, w1.cell? ⟨w.heap.size, k * 4 + 3, none⟩ = some u := by rw [hown1.cellAt _ (by omega)]; exact ⟨_, List.getElem?_eq_getElem (by omega)⟩
      obtain ⟨u0, e0⟩ := e0
      obtain ⟨u1, e1⟩ := e1
      obtain ⟨u2, e2⟩ := e2
      obtain ⟨u3, e3⟩ := e3
      have f0 := hown1.frozenAt (k * 4)
      have f1 := hown1.frozenAt (k * 4 + 1)
      have f2 := hown1.frozenAt (k * 4 + 2)
      have f3 := hown1.frozenAt (k * 4 + 3)
      go_wp2
      go_roundw
      case rel =>
        refine ⟨k + 1, _, by omega, by go_num, ((((hown1.stored _ _).1.stored _ _).1.stored _ _).1.stored _ _).1, fun j hj hjk => ?_, ((((hB.trans (hb1.mono hB.size)).setCell (p := ⟨w.heap.size, k * 4, none⟩) (Nat.le_refl _) _).setCell (p := ⟨w.heap.size, k * 4 + 1, none⟩) (Nat.le_refl _) _).setCell (p := ⟨w.heap.size, k * 4 + 2, none⟩) (Nat.le_refl _) _).setCell (p := ⟨w.heap.size, k * 4 + 3, none⟩) (Nat.le_refl _) _⟩
        by_cases hjk' : j = k
        · subst hjk'
          obtain ⟨g0, g1, g2, g3⟩ := set4_same (a := .int .i64 L[j].op) (b := .string s) (c := .int .i64 L[j].num) (d := .int .i64 L[j].skip) hXl hlt
          exact ⟨g0, by rw [HS.out]; exact g1, g2, g3⟩
        · obtain ⟨x0, x1, x2, x3⟩ := HX.out j hj (by omega)
          have hg := fun i hi => set4_other (a := .int .i64 L[k].op) (b := .string s) (c := .int .i64 L[k].num) (d := .int .i64 L[k].skip) X hjk' i hi
          exact ⟨(hg 0 (by omega)).trans x0, (hg 1 (by omega)).trans x1, (hg 2 (by omega)).trans x2, (hg 3 (by omega)).trans x3⟩
      case measure => simp [intOf]; omega
    · go_wp2
      go_ret
      have hXl : X.length = L.length * 4 := hown.1
      rw [lnR_eq hXl (fun j hj => hX j hj (by omega))] at hown
      exact ⟨_, rfl, hown, hB⟩

set_option maxHeartbeats 2000000 in
set_option maxRecDepth 100000 in
theorem toModule_own (m : Md) (s : Value) (w : World) (h : Lns w s m.lines) (hL : m.lines.length ≤ 1048576) :
    Calls Tryz.prog 49 #[mdV m.name s] w fun e w' => ∃ s', e = .returned (mdV m.name s') ∧ w'.ownsRow w.heap.size 51 4 s' m.lines.length (m.lines.flatMap lnR) ∧ Below w.heap.size w w' := by
  unfold mdV
  obtain ⟨n, hs⟩ := strV_of m.name
  rw [hs]
  clear hs
  obtain ⟨a, cap, rfl⟩ := h.slice
  obtain ⟨W, hW⟩ : ∃ W, W = ((w.alloc (.cells #[.string n, .slice a m.lines.length cap] 86)).alloc (.cells #[.string ⟨#[]⟩, .slice none 0 0] 49)).alloc (.cells #[.string n, .slice none 0 0] 49) := ⟨_, rfl⟩
  have h1 : Lns W (.slice a m.lines.length cap) m.lines := by rw [hW]; exact h.below (below_alloc3 _ _ _) (Nat.le_refl _)
  have hWB : Below w.heap.size w W := by rw [hW]; exact below_alloc3 _ _ _
  have hWs : W.heap.size = w.heap.size + 1 + 1 + 1 := by rw [hW]; simp
  have hd0 : W.cell? ⟨w.heap.size + 1 + 1, 0, none⟩ = some (.string n) := by rw [hW]; simp [go_sem]
  have hd1 : W.cell? ⟨w.heap.size + 1 + 1, 1, none⟩ = some (.slice none 0 0) := by rw [hW]; simp [go_sem]
  have hd2 : W.frozen? ⟨w.heap.size + 1 + 1, 1, none⟩ = false := by rw [hW]; simp [go_sem]
  have he0 : W.cell? ⟨w.heap.size + 1, 0, none⟩ = some (.string ⟨#[]⟩) := by rw [hW]; simp [go_sem]
  have he1 : W.cell? ⟨w.heap.size + 1, 1, none⟩ = some (.slice none 0 0) := by rw [hW]; simp [go_sem]
  have he2 : W.frozen? ⟨w.heap.size + 1, 0, none⟩ = false := by rw [hW]; simp [go_sem]
  have he3 : W.frozen? ⟨w.heap.size + 1, 1, none⟩ = false := by rw [hW]; simp [go_sem]
  go_enter Tryz.func49, Tryz.ntmps49
  go_wp2_with fail
  rw [← hW]
  clear hW
  refine (toLineS_own _ m.lines W h1 hL).mono ?_
  rintro e w1 ⟨v', rfl, ho, hb1⟩
  obtain ⟨a', cap', rfl⟩ := (lns_own ho).slice
  have d0 := below_cell0 hb1 (by omega) hd0
  have d1 := below_cell0 hb1 (by omega) hd1
  have d2 := below_frz hb1 (by omega) hd2
  have c0 := below_cell0 hb1 (by omega) he0
  have c1 := below_cell0 hb1 (by omega) he1
  have c2 := below_frz hb1 (by omega) he2
  have c3 := below_frz hb1 (by omega) he3
  clear hd0 hd1 hd2 he0 he1 he2 he3
  go_wp2
  exact bodyPost_ret (v := .agg #[.string n, .slice a' m.lines.length cap']) (by simp [results, Tryz.results49, go_sem, c0, c1]) rfl ⟨_, rfl, own_mono (own_set (own_set (own_set ho (by omega) _ _) (by omega) _ _) (by omega) _ _) (by omega),
    (((hWB.trans (hb1.mono (by omega))).setCell (p := ⟨w.heap.size + 1 + 1, 1, none⟩) (by simp only []; omega) _).setCell (p := ⟨w.heap.size + 1, 0, none⟩) (by simp only []; omega) _).setCell (p := ⟨w.heap.size + 1, 1, none⟩) (by simp only []; omega) _⟩

set_option maxHeartbeats 2000000 in
set_option maxRecDepth 100000 in
theorem toModuleS_own (v : Value) (L : List Md) (w : World) (h : Mds w v L) (hL : L.length ≤ 1048576) (hLL : ∀ m ∈ L, m.lines.length ≤ 1048576) :
    Calls Tryz.prog 28 #[v] w fun e w' => ∃ v', e = .returned v' ∧ (∃ X, Mrow w.heap.size w' v' L X) ∧ Below w.heap.size w w' := by
  obtain ⟨i0, hi, hz0, hz1, hz2⟩ := info_parts Tryz.info55
  obtain ⟨a, cap, rfl, hcap, hmax, hc⟩ := h
  have HC : Hid (∀ k, (hk : k < L.length) → ∃ b o s, a = some ⟨b, o, none⟩ ∧ b < w.heap.size ∧
    w.cell? ⟨b, o + k * 2, none⟩ = some (strV L[k].name) ∧ w.cell? ⟨b, o + k * 2 + 1, none⟩ = some s ∧ Lns w s L[k].lines) := hc
  have HLL : Hid (∀ m ∈ L, m.lines.length ≤ 1048576) := hLL
  clear hc hmax hLL
  have hib : i0.bytes * L.length ≤ 281474976710656 := by rw [hz2]; omega
  have hlm : L.length ≤ maxLen := by unfold maxLen; omega
  go_enter Tryz.func28, Tryz.ntmps28
  go_wp2_with (at_make; refine wpList_make_full _ rfl _ _ 30 rfl w.heap.size 49 i0 _ 2 Tryz.underlying30 hi hz0 hz1 .i64 .i64 _ _ L.length rfl rfl rfl rfl hib hlm (Nat.le_refl _) ?_; intro w1 hown hgrow)
  have hB1 : Below w.heap.size w w1 := (Below.refl _ _).grown hgrow (Nat.le_refl _) (fun k e => by cases e)
  clear hgrow
  go_loopw [4] (fun i wr => ∃ (k : Nat) (X : List Value), k ≤ L.length ∧ i = .int .i64 k ∧ wr.ownsRow w.heap.size 49 2 (.slice (some ⟨w.heap.size, 0, none⟩) L.length L.length) L.length X ∧
      (∀ j (hj : j < L.length), j < k → ∃ s, X[j * 2]? = some (strV L[j].name) ∧ X[j * 2 + 1]? = some s ∧ wr.ownsRow (w.heap.size + 1) 51 4 s L[j].lines.length (L[j].lines.flatMap lnR)) ∧ Below w.heap.size w wr) (fun i _ => L.length - (intOf i).toNat)
  case atStart => exact ⟨0, _, Nat.zero_le _, rfl, hown, fun j _ hj => absurd hj (by omega), hB1⟩
  case round =>
    obtain ⟨k, X, hk, rfl, hown, hX, hB⟩ := hrel
    by_cases hlt : k < L.length
    · obtain ⟨b, o, s, rfl, hb, h0, h1, h2⟩ := HC.out k hlt
      have c0 : wr.cell? ⟨b, o + k * 2, none⟩ = some (strV L[k].name) := (hB.cell (p := ⟨b, o + k * 2, none⟩) hb).trans h0
      have c1 : wr.cell? ⟨b, o + k * 2 + 1, none⟩ = some s := (hB.cell (p := ⟨b, o + k * 2 + 1, none⟩) hb).trans h1
      have HX : Hid (∀ j (hj : j < L.length), j < k → ∃ s, X[j * 2]? = some (strV L[j].name) ∧ X[j * 2 + 1]? = some s ∧ wr.ownsRow (w.heap.size + 1) 51 4 s L[j].lines.length (L[j].lines.flatMap lnR)) := hX
      have h3 := h2.below hB (Nat.le_refl _)
      have hwr := (own_lt hown).2
      clear h0 h1 h2 hX
      go_wp2_with fail
      refine (toModule_own L[k] s wr h3 (HLL.out _ (List.getElem_mem hlt))).mono ?_
      unfold mdV
      obtain ⟨n, hs⟩ := strV_of L[k].name
      have HS : Hid (strV L[k].name = .string n) := hs
      rw [hs]
      clear hs c0 c1
      rintro e w1 ⟨s', rfl, ho, hb1⟩
      obtain ⟨a', cap', rfl⟩ := (lns_own ho).slice
      have hown1 := own_below hown hb1 (Nat.le_refl _)
      have hXl : X.length = L.length * 2 := hown1.1
      have e0 : ∃ u, w1.cell? ⟨w.heap.size, k * 2, none⟩ = some u := by rw [hown1.cellAt _ (by omega)]; exact ⟨_, List.getElem?_eq_getElem (by omega)⟩
      have e1 : ∃ u, w1.cell? ⟨w.heap.size, k * 2 + 1, none⟩ = some u := by rw [hown1.cellAt _ (by omega)]; exact ⟨_, List.getElem?_eq_getElem (by omega)⟩
      obtain ⟨u0, e0⟩ := e0
      obtain ⟨u1, e1⟩ := e1
      have f0 := hown1.frozenAt (k * 2)
      have f1 := hown1.frozenAt (k * 2 + 1)
      go_wp2
      go_roundw
      case rel =>
        refine ⟨k + 1, _, by omega, by go_num, ((hown1.stored _ _).1.stored _ _).1, fun j hj hjk => ?_, ((hB.trans (hb1.mono hB.size)).setCell (p := ⟨w.heap.size, k * 2, none⟩) (Nat.le_refl _) _).setCell (p := ⟨w.heap.size, k * 2 + 1, none⟩) (Nat.le_refl _) _⟩
        by_cases hjk' : j = k
        · subst hjk'
          obtain ⟨g0, g1⟩ := set2_same (a := .string n) (b := .slice a' L[j].lines.length cap') hXl hlt
          exact ⟨_, by rw [HS.out]; exact g0, g1, own_set (own_set (own_mono ho hwr) (by omega) _ _) (by omega) _ _⟩
        · obtain ⟨s, x0, x1, x2⟩ := HX.out j hj (by omega)
          have hg := fun i hi => set2_other (a := .string n) (b := .slice a' L[k].lines.length cap') X hjk' i hi
          exact ⟨s, (hg 0 (by omega)).trans x0, (hg 1 (by omega)).trans x1, own_set (own_set (own_below x2 hb1 (Nat.le_refl _)) (by omega) _ _) (by omega) _ _⟩
      case measure => simp [intOf]; omega
    · go_wp2
      go_ret
      refine ⟨_, rfl, ?_, hB⟩
      exact ⟨X, hown, fun j hj => by obtain ⟨s, x0, x1, x2⟩ := hX j hj (by omega); exact ⟨s, x0, x1, own_mono x2 (by omega)⟩⟩

set_option maxHeartbeats 2000000 in
set_option maxRecDepth 100000 in
theorem toIntS_own (v : Value) (L : List Int) (w : World) (h : Nums w v L) (hL : L.length ≤ 1048576) :
    Calls Tryz.prog 29 #[v] w fun e w' => ∃ v', e = .returned v' ∧ w'.ownsRow w.heap.size 3 1 v' L.length (L.map i64V) ∧ Below w.heap.size w w' := by
  obtain ⟨i0, hi, hz0, hz1, hz2⟩ := info_parts Tryz.info3
  obtain ⟨a, cap, rfl, hcap, hmax, hc⟩ := h
  have HC : Hid (∀ k, (hk : k < L.length) → ∃ b o, a = some ⟨b, o, none⟩ ∧ b < w.heap.size ∧ w.cell? ⟨b, o + k, none⟩ = some (.int .i64 L[k])) := hc
  clear hc hmax
  have hib : i0.bytes * L.length ≤ 281474976710656 := by rw [hz2]; omega
  have hlm : L.length ≤ maxLen := by unfold maxLen; omega
  go_enter Tryz.func29, Tryz.ntmps29
  go_wp2_with (at_make; refine wpList_make_full _ rfl _ _ 24 rfl w.heap.size 3 i0 _ 1 Tryz.underlying24 hi hz0 hz1 .i64 .i64 _ _ L.length rfl rfl rfl rfl hib hlm (Nat.le_refl _) ?_; intro w1 hown hgrow)
  have hB1 : Below w.heap.size w w1 := (Below.refl _ _).grown hgrow (Nat.le_refl _) (fun k e => by cases e)
  clear hgrow
  go_loopw [4] (fun i wr => ∃ (k : Nat) (X : List Value), k ≤ L.length ∧ i = .int .i64 k ∧ wr.ownsRow w.heap.size 3 1 (.slice (some ⟨w.heap.size, 0, none⟩) L.length L.length) L.length X ∧
      (∀ j (hj : j < L.length), j < k → X[j]? = some (.int .i64 L[j])) ∧ Below w.heap.size w wr) (fun i _ => L.length - (intOf i).toNat)
  case atStart => exact ⟨0, _, Nat.zero_le _, rfl, hown, fun j _ hj => absurd hj (by omega), hB1⟩
  case round =>
    obtain ⟨k, X, hk, rfl, hown, hX, hB⟩ := hrel
    by_cases hlt : k < L.length
    · obtain ⟨b, o, rfl, hb, h0⟩ := HC.out k hlt
      have c0 : wr.cell? ⟨b, o + k, none⟩ = some (.int .i64 L[k]) := (hB.cell (p := ⟨b, o + k, none⟩) hb).trans h0
      have HX : Hid (∀ j (hj : j < L.length), j < k → X[j]? = some (.int .i64 L[j])) := hX
      clear h0 hX
      have hXl : X.length = L.length * 1 := hown.1
      have e0 : ∃ u, wr.cell? ⟨w.heap.size, k, none⟩ = some u := by rw [hown.cellAt _ (by omega)]; exact ⟨_, List.getElem?_eq_getElem (by omega)⟩
      obtain ⟨u0, e0⟩ := e0
      have f0 := hown.frozenAt k
      go_wp2
      go_roundw
      case rel =>
        refine ⟨k + 1, _, by omega, by go_num, (hown.stored _ _).1, fun j hj hjk => ?_, hB.setCell (p := ⟨w.heap.size, k, none⟩) (Nat.le_refl _) _⟩
        by_cases hjk' : j = k
        · subst hjk'
          rw [List.getElem?_set_self (by omega)]
        · rw [List.getElem?_set_ne (by omega)]
          exact HX.out j hj (by omega)
      case measure => simp [intOf]; omega
    · go_wp2
      go_ret
      have hXl : X.length = L.length * 1 := hown.1
      have hXe : X = L.map i64V := by
        apply List.ext_getElem?
        intro i
        by_cases hi : i < L.length
        · rw [hX i hi (by omega)]; simp [hi]; rfl
        · rw [List.getElem?_eq_none (by omega), List.getElem?_eq_none (by simp; omega)]
      rw [hXe] at hown
      exact ⟨_, rfl, hown, hB⟩

set_option maxHeartbeats 2000000 in
set_option maxRecDepth 100000 in
theorem toWorld_own (v : Value) (D : Wd) (w : World) (h : Wds w v D) (hD : D.t ≤ 1048576) :
    Calls Tryz.prog 8 #[v] w fun e w' => ∃ v', e = .returned v' ∧ Wdo w.heap.size w' v' D ∧ Below w.heap.size w w' := by
  obtain ⟨vr, vm, vf, rfl, h1, h2, h3⟩ := h
  have hr1 : D.roots.length ≤ 1048576 := by have : D.roots.length ≤ Pl.total D.roots := by unfold Pl.total; omega
                                            unfold Wd.t at hD; omega
  have hm1 : D.mods.length ≤ 1048576 := by unfold Wd.t mdsT at hD; omega
  have hm2 : ∀ m ∈ D.mods, m.lines.length ≤ 1048576 := fun m hm => by
    have h1 : m.t ≤ (D.mods.map Md.t).sum := mem_le_sum _ _ (List.mem_map.2 ⟨m, hm, rfl⟩)
    have h2 : m.lines.length ≤ m.t := by unfold Md.t lnsT; omega
    unfold Wd.t mdsT at hD; omega
  have hf1 : D.faults.length ≤ 1048576 := by unfold Wd.t at hD; omega
  obtain ⟨a1, k1, rfl⟩ := h1.slice
  obtain ⟨a2, k2, rfl⟩ := h2.slice
  obtain ⟨a3, k3, rfl⟩ := h3.slice
  obtain ⟨W, hW⟩ : ∃ W, W = ((w.alloc (.cells #[.slice a1 D.roots.length k1, .slice a2 D.mods.length k2, .slice a3 D.faults.length k3] 26)).alloc (.cells #[.slice none 0 0, .slice none 0 0, .slice none 0 0] 32)).alloc (.cells #[.slice none 0 0, .slice none 0 0, .slice none 0 0] 32) := ⟨_, rfl⟩
  have hWB : Below w.heap.size w W := by rw [hW]; exact below_alloc3 _ _ _
  have hWs : W.heap.size = w.heap.size + 1 + 1 + 1 := by rw [hW]; simp
  have p1 : W.cell? ⟨w.heap.size, 1, none⟩ = some (.slice a2 D.mods.length k2) := by rw [hW]; simp [go_sem]
  have p2 : W.cell? ⟨w.heap.size, 2, none⟩ = some (.slice a3 D.faults.length k3) := by rw [hW]; simp [go_sem]
  have d0 : W.cell? ⟨w.heap.size + 1 + 1, 0, none⟩ = some (.slice none 0 0) := by rw [hW]; simp [go_sem]
  have d1 : W.cell? ⟨w.heap.size + 1 + 1, 1, none⟩ = some (.slice none 0 0) := by rw [hW]; simp [go_sem]
  have d2 : W.cell? ⟨w.heap.size + 1 + 1, 2, none⟩ = some (.slice none 0 0) := by rw [hW]; simp [go_sem]
  have f0 : W.frozen? ⟨w.heap.size + 1 + 1, 0, none⟩ = false := by rw [hW]; simp [go_sem]
  have f1 : W.frozen? ⟨w.heap.size + 1 + 1, 1, none⟩ = false := by rw [hW]; simp [go_sem]
  have f2 : W.frozen? ⟨w.heap.size + 1 + 1, 2, none⟩ = false := by rw [hW]; simp [go_sem]
  have e0 : W.cell? ⟨w.heap.size + 1, 0, none⟩ = some (.slice none 0 0) := by rw [hW]; simp [go_sem]
  have e1 : W.cell? ⟨w.heap.size + 1, 1, none⟩ = some (.slice none 0 0) := by rw [hW]; simp [go_sem]
  have e2 : W.cell? ⟨w.heap.size + 1, 2, none⟩ = some (.slice none 0 0) := by rw [hW]; simp [go_sem]
  have g0 : W.frozen? ⟨w.heap.size + 1, 0, none⟩ = false := by rw [hW]; simp [go_sem]
  have g1 : W.frozen? ⟨w.heap.size + 1, 1, none⟩ = false := by rw [hW]; simp [go_sem]
  have g2 : W.frozen? ⟨w.heap.size + 1, 2, none⟩ = false := by rw [hW]; simp [go_sem]
  go_enter Tryz.func8, Tryz.ntmps8
  go_wp2_with fail
  rw [← hW]
  clear hW
  refine (toS_any _ D.roots W (h1.below hWB (Nat.le_refl _)) hr1).mono ?_
  rintro e w1 ⟨v1, rfl, hv1, hb1⟩
  rw [hWs] at hv1
  obtain ⟨x1, y1, rfl⟩ := (Strs.of_row hv1).slice
  replace p1 := below_cell0 hb1 (by omega) p1
  replace p2 := below_cell0 hb1 (by omega) p2
  replace d0 := below_cell0 hb1 (by omega) d0
  replace d1 := below_cell0 hb1 (by omega) d1
  replace d2 := below_cell0 hb1 (by omega) d2
  replace e0 := below_cell0 hb1 (by omega) e0
  replace e1 := below_cell0 hb1 (by omega) e1
  replace e2 := below_cell0 hb1 (by omega) e2
  replace f0 := below_frz hb1 (by omega) f0
  replace f1 := below_frz hb1 (by omega) f1
  replace f2 := below_frz hb1 (by omega) f2
  replace g0 := below_frz hb1 (by omega) g0
  replace g1 := below_frz hb1 (by omega) g1
  replace g2 := below_frz hb1 (by omega) g2
  go_wp2_with fail
  obtain ⟨W1, hW1⟩ : ∃ W1, W1 = w1.setCell ⟨w.heap.size + 1 + 1, 0, none⟩ (.slice x1 D.roots.length y1) := ⟨_, rfl⟩
  rw [← hW1]
  have hsz1 : w.heap.size + 1 + 1 + 1 ≤ w1.heap.size := by have := hb1.size; omega
  have hW1s : W1.heap.size = w1.heap.size := by rw [hW1]; simp [World.setCell]
  have hBW1 : Below w.heap.size w W1 := by rw [hW1]; exact (hWB.trans (hb1.mono (by omega))).setCell (p := ⟨w.heap.size + 1 + 1, 0, none⟩) (by simp only []; omega) _
  replace hv1 := own_set (B := w.heap.size + 1 + 1) hv1 (by omega) 0 (.slice x1 D.roots.length y1)
  rw [← hW1] at hv1
  replace p1 := set_far (b := w.heap.size + 1 + 1) (o := 0) (u := .slice x1 D.roots.length y1) p1 (.inl (by omega))
  rw [← hW1] at p1
  replace p2 := set_far (b := w.heap.size + 1 + 1) (o := 0) (u := .slice x1 D.roots.length y1) p2 (.inl (by omega))
  rw [← hW1] at p2
  replace d0 := set_at (u := .slice x1 D.roots.length y1) d0
  rw [← hW1] at d0
  replace d1 := set_far (b := w.heap.size + 1 + 1) (o := 0) (u := .slice x1 D.roots.length y1) d1 (.inr (by omega))
  rw [← hW1] at d1
  replace d2 := set_far (b := w.heap.size + 1 + 1) (o := 0) (u := .slice x1 D.roots.length y1) d2 (.inr (by omega))
  rw [← hW1] at d2
  replace e0 := set_far (b := w.heap.size + 1 + 1) (o := 0) (u := .slice x1 D.roots.length y1) e0 (.inl (by omega))
  rw [← hW1] at e0
  replace e1 := set_far (b := w.heap.size + 1 + 1) (o := 0) (u := .slice x1 D.roots.length y1) e1 (.inl (by omega))
  rw [← hW1] at e1
  replace e2 := set_far (b := w.heap.size + 1 + 1) (o := 0) (u := .slice x1 D.roots.length y1) e2 (.inl (by omega))
  rw [← hW1] at e2
  replace f1 := (World.frozen?_setCell w1 ⟨w.heap.size + 1 + 1, 0, none⟩ _ (.slice x1 D.roots.length y1)).trans f1
  rw [← hW1] at f1
  replace f2 := (World.frozen?_setCell w1 ⟨w.heap.size + 1 + 1, 0, none⟩ _ (.slice x1 D.roots.length y1)).trans f2
  rw [← hW1] at f2
  replace g0 := (World.frozen?_setCell w1 ⟨w.heap.size + 1 + 1, 0, none⟩ _ (.slice x1 D.roots.length y1)).trans g0
  rw [← hW1] at g0
  replace g1 := (World.frozen?_setCell w1 ⟨w.heap.size + 1 + 1, 0, none⟩ _ (.slice x1 D.roots.length y1)).trans g1
  rw [← hW1] at g1
  replace g2 := (World.frozen?_setCell w1 ⟨w.heap.size + 1 + 1, 0, none⟩ _ (.slice x1 D.roots.length y1)).trans g2
  rw [← hW1] at g2
  clear hW1 f0
  refine (toModuleS_own _ D.mods W1 (h2.below hBW1 (Nat.le_refl _)) hm1 hm2).mono ?_
  rintro e w2 ⟨v2, rfl, ⟨X2, hv2⟩, hb2⟩
  replace hv2 := hv2.mono (base' := w.heap.size + 1 + 1 + 1) (by omega)
  obtain ⟨x2, y2, rfl⟩ := hv2.mds.slice
  replace hv1 := own_below hv1 hb2 (Nat.le_refl _)
  replace p2 := below_cell0 hb2 (by omega) p2
  replace d0 := below_cell0 hb2 (by omega) d0
  replace d1 := below_cell0 hb2 (by omega) d1
  replace d2 := below_cell0 hb2 (by omega) d2
  replace e0 := below_cell0 hb2 (by omega) e0
  replace e1 := below_cell0 hb2 (by omega) e1
  replace e2 := below_cell0 hb2 (by omega) e2
  replace f1 := below_frz hb2 (by omega) f1
  replace f2 := below_frz hb2 (by omega) f2
  replace g0 := below_frz hb2 (by omega) g0
  replace g1 := below_frz hb2 (by omega) g1
  replace g2 := below_frz hb2 (by omega) g2
  clear p1
  go_wp2_with fail
  obtain ⟨W2, hW2⟩ : ∃ W2, W2 = w2.setCell ⟨w.heap.size + 1 + 1, 1, none⟩ (.slice x2 D.mods.length y2) := ⟨_, rfl⟩
  rw [← hW2]
  have hsz2 : W1.heap.size ≤ w2.heap.size := hb2.size
  have hW2s : W2.heap.size = w2.heap.size := by rw [hW2]; simp [World.setCell]
  have hBW2 : Below w.heap.size w W2 := by rw [hW2]; exact (hBW1.trans (hb2.mono (by omega))).setCell (p := ⟨w.heap.size + 1 + 1, 1, none⟩) (by simp only []; omega) _
  replace hv1 := own_set (B := w.heap.size + 1 + 1) hv1 (by omega) 1 (.slice x2 D.mods.length y2)
  rw [← hW2] at hv1
  replace hv2 := Mrow.set (B := w.heap.size + 1 + 1) hv2 (by omega) 1 (.slice x2 D.mods.length y2)
  rw [← hW2] at hv2
  replace p2 := set_far (b := w.heap.size + 1 + 1) (o := 1) (u := .slice x2 D.mods.length y2) p2 (.inl (by omega))
  rw [← hW2] at p2
  replace d0 := set_far (b := w.heap.size + 1 + 1) (o := 1) (u := .slice x2 D.mods.length y2) d0 (.inr (by omega))
  rw [← hW2] at d0
  replace d1 := set_at (u := .slice x2 D.mods.length y2) d1
  rw [← hW2] at d1
  replace d2 := set_far (b := w.heap.size + 1 + 1) (o := 1) (u := .slice x2 D.mods.length y2) d2 (.inr (by omega))
  rw [← hW2] at d2
  replace e0 := set_far (b := w.heap.size + 1 + 1) (o := 1) (u := .slice x2 D.mods.length y2) e0 (.inl (by omega))
  rw [← hW2] at e0
  replace e1 := set_far (b := w.heap.size + 1 + 1) (o := 1) (u := .slice x2 D.mods.length y2) e1 (.inl (by omega))
  rw [← hW2] at e1
  replace e2 := set_far (b := w.heap.size + 1 + 1) (o := 1) (u := .slice x2 D.mods.length y2) e2 (.inl (by omega))
  rw [← hW2] at e2
  replace f2 := (World.frozen?_setCell w2 ⟨w.heap.size + 1 + 1, 1, none⟩ _ (.slice x2 D.mods.length y2)).trans f2
  rw [← hW2] at f2
  replace g0 := (World.frozen?_setCell w2 ⟨w.heap.size + 1 + 1, 1, none⟩ _ (.slice x2 D.mods.length y2)).trans g0
  rw [← hW2] at g0
  replace g1 := (World.frozen?_setCell w2 ⟨w.heap.size + 1 + 1, 1, none⟩ _ (.slice x2 D.mods.length y2)).trans g1
  rw [← hW2] at g1
  replace g2 := (World.frozen?_setCell w2 ⟨w.heap.size + 1 + 1, 1, none⟩ _ (.slice x2 D.mods.length y2)).trans g2
  rw [← hW2] at g2
  clear hW2 f1
  refine (toIntS_own _ D.faults W2 (h3.below hBW2 (Nat.le_refl _)) hf1).mono ?_
  rintro e w3 ⟨v3, rfl, hv3, hb3⟩
  replace hv3 := own_mono hv3 (base' := w.heap.size + 1 + 1 + 1) (by omega)
  obtain ⟨x3, y3, rfl⟩ := (nums_own hv3).slice
  replace hv1 := own_below hv1 hb3 (Nat.le_refl _)
  replace hv2 := hv2.below hb3 (Nat.le_refl _)
  replace d0 := below_cell0 hb3 (by omega) d0
  replace d1 := below_cell0 hb3 (by omega) d1
  replace d2 := below_cell0 hb3 (by omega) d2
  replace e0 := below_cell0 hb3 (by omega) e0
  replace e1 := below_cell0 hb3 (by omega) e1
  replace e2 := below_cell0 hb3 (by omega) e2
  replace f2 := below_frz hb3 (by omega) f2
  replace g0 := below_frz hb3 (by omega) g0
  replace g1 := below_frz hb3 (by omega) g1
  replace g2 := below_frz hb3 (by omega) g2
  clear p2
  have hsz3 : W2.heap.size ≤ w3.heap.size := hb3.size
  go_wp2
  refine bodyPost_ret (v := .agg #[.slice x1 D.roots.length y1, .slice x2 D.mods.length y2, .slice x3 D.faults.length y3]) (by simp [results, Tryz.results8, go_sem, e0, e1, e2]) rfl ⟨_, rfl, ⟨_, _, _, X2, rfl, ?_, ?_, ?_⟩, ?_⟩
  · exact own_mono (own_set (own_set (own_set (own_set hv1 (by omega) _ _) (by omega) _ _) (by omega) _ _) (by omega) _ _) (by omega)
  · exact ((((hv2.set (by omega) _ _).set (by omega) _ _).set (by omega) _ _).set (by omega) _ _).mono (by omega)
  · exact own_mono (own_set (own_set (own_set (own_set hv3 (by omega) _ _) (by omega) _ _) (by omega) _ _) (by omega) _ _) (by omega)
  · exact ((((hBW2.trans (hb3.mono (by omega))).setCell (p := ⟨w.heap.size + 1 + 1, 2, none⟩) (by simp only []; omega) _).setCell (p := ⟨w.heap.size + 1, 0, none⟩) (by simp only []; omega) _).setCell (p := ⟨w.heap.size + 1, 1, none⟩) (by simp only []; omega) _).setCell (p := ⟨w.heap.size + 1, 2, none⟩) (by simp only []; omega) _
end Go.Proofs.YtimgafblpmjajabGreat
namespace Go.Proofs.YtimgafblpmjajabGreat

open Go.RowKit

def markAt (j : Nat) : Value := strV (mkT (1 + j))
def marks (n : Nat) : List Value := (List.range n).map markAt
/-- The first k are marked. -/
def marked (xs : List Value) (k : Nat) : List Value := marks k ++ xs.drop k
theorem marks_length (n : Nat) : (marks n).length = n := by simp [marks]
theorem marked_zero (xs : List Value) : marked xs 0 = xs := by simp [marked, marks]
theorem marked_all (xs : List Value) (k : Nat) (h : xs.length ≤ k) : marked xs k = marks k := by simp [marked, List.drop_of_length_le h]
theorem marked_set (xs : List Value) (k : Nat) (hk : k < xs.length) : (marked xs k).set k (markAt k) = marked xs (k + 1) := by
  unfold marked
  rw [List.set_append_right _ _ (by rw [marks_length]; omega), marks_length, Nat.sub_self, List.drop_eq_getElem_cons hk, List.set_cons_zero]
  simp [marks, List.range_succ]

theorem grown_trans {w w1 w2 : World} {row : Option Nat} (h : w.grownBy w1 row) (k : w1.grownBy w2 row) : w.grownBy w2 row :=
  ⟨k.os.trans h.os, k.tape.trans h.tape, k.output.trans h.output, Nat.le_trans h.size k.size, fun i hi hne => (k.block i (Nat.lt_of_lt_of_le hi h.size) hne).trans (h.block i hi hne)⟩
theorem grown_of_below {w w1 : World} (h : Below w.heap.size w w1) (row : Option Nat) : w.grownBy w1 row :=
  ⟨h.os, h.tape, h.output, h.size, fun i hi _ => h.block i hi⟩

set_option maxHeartbeats 1000000 in
set_option maxRecDepth 100000 in
theorem mark_any (base : Nat) (v : Value) (n : Nat) (xs : List Value) (w : World) (h : w.ownsRow base 9 1 v n xs) (hn : n ≤ 1048576) :
    Calls Tryz.prog 18 #[v, .int .i64 1] w fun e w' => e = .returned (.int .i64 (1 + n)) ∧ w'.ownsRow base 9 1 v n (marks n) ∧ w.grownBy w' v.ownBlock := by
  have hxl : xs.length = n := by have := h.1; omega
  obtain ⟨a, cap, hv, hcap, ha⟩ : ∃ a cap, v = .slice a n cap ∧ n ≤ cap ∧ (0 < n → ∃ g, a = some ⟨g, 0, none⟩) := by
    obtain ⟨_, ⟨rfl, hn0⟩ | ⟨g, cap, cur, rfl, hg, hh, hcap, _⟩⟩ := h
    · exact ⟨none, 0, by rw [hn0], by omega, fun h => by omega⟩
    · exact ⟨_, cap, rfl, hcap, fun _ => ⟨g, rfl⟩⟩
  subst hv
  rw [← marked_zero xs] at h
  have HX : Hid (xs.length = n) := hxl
  clear hxl
  go_enter Tryz.func18, Tryz.ntmps18
  go_wp2
  go_loopw [1, 5] (fun kv i wr => ∃ j : Nat, j ≤ n ∧ i = .int .i64 j ∧ kv = .int .i64 ((1 + j : Nat) : Int) ∧ wr.ownsRow base 9 1 (.slice a n cap) n (marked xs j) ∧ w.grownBy wr (Value.slice a n cap).ownBlock) (fun _ i _ => n - (intOf i).toNat)
  case atStart => exact ⟨0, Nat.zero_le _, rfl, rfl, h, World.grownBy.refl _ _⟩
  case round =>
    obtain ⟨j, hj, rfl, rfl, hown, hgr⟩ := hrel
    by_cases hlt : j < n
    · obtain ⟨g, rfl⟩ := ha (by omega)
      have hmt := markText_any (1 + j) wr (by omega) (by omega)
      have HM : Hid (strV (mkT (1 + j)) = .string ⟨(mkT (1 + j)).toArray⟩) := rfl
      rw [HM.out] at hmt
      have hjx : j < xs.length := by rw [HX.out]; exact hlt
      have hgl := (hown.lt g rfl).2
      go_wp2_with (go_at_call 42; refine hmt.mono ?_; rintro e w1 ⟨rfl, hb⟩; have hown1 := own_below hown hb (Nat.le_refl _); have hf1 := hown1.frozenAt j; have hcj : ∃ u, w1.cell? ⟨g, j, none⟩ = some u := (by rw [hown1.cellAt j (by omega)]; exact ⟨_, List.getElem?_eq_getElem (by unfold marked; rw [List.length_append, marks_length, List.length_drop]; omega)⟩); obtain ⟨u, hcu⟩ := hcj)
      have hst := hown1.stored j (.string ⟨(mkT (1 + j)).toArray⟩)
      rw [show Value.string ⟨(mkT (1 + j)).toArray⟩ = markAt j from rfl, marked_set xs j hjx] at hst
      have hg2 := grown_trans (grown_trans hgr (grown_of_below hb _)) hst.2
      go_roundw
      case rel => exact ⟨j + 1, by omega, by go_num, by go_num, hst.1, hg2⟩
      case measure => simp [intOf]; omega
    · have hjn : j = n := by omega
      subst hjn
      rw [marked_all xs j (by rw [HX.out]; exact Nat.le_refl _)] at hown
      go_wp2
      go_ret
      exact ⟨ret_int (by omega), hown, hgr⟩

set_option maxHeartbeats 1000000 in
set_option maxRecDepth 100000 in
theorem held_any (base : Nat) (v : Value) (n : Nat) (w : World) (h : w.ownsRow base 9 1 v n (marks n)) (hn : n ≤ 1048576) :
    Calls Tryz.prog 19 #[v, .int .i64 1] w fun e w' => e = .returned (.int .i64 (1 + n)) ∧ Below w.heap.size w w' := by
  obtain ⟨a, cap, hv, hcap, ha⟩ : ∃ a cap, v = .slice a n cap ∧ n ≤ cap ∧ (0 < n → ∃ g, a = some ⟨g, 0, none⟩) := by
    obtain ⟨_, ⟨rfl, hn0⟩ | ⟨g, cap, cur, rfl, hg, hh, hcap, _⟩⟩ := h
    · exact ⟨none, 0, by rw [hn0], by omega, fun h => by omega⟩
    · exact ⟨_, cap, rfl, hcap, fun _ => ⟨g, rfl⟩⟩
  subst hv
  go_enter Tryz.func19, Tryz.ntmps19
  go_wp2
  go_loopw [1, 5] (fun kv i wr => ∃ j : Nat, j ≤ n ∧ i = .int .i64 j ∧ kv = .int .i64 ((1 + j : Nat) : Int) ∧ Below w.heap.size w wr) (fun _ i _ => n - (intOf i).toNat)
  case atStart => exact ⟨0, Nat.zero_le _, rfl, rfl, Below.refl _ _⟩
  case round =>
    obtain ⟨j, hj, rfl, rfl, hB⟩ := hrel
    by_cases hlt : j < n
    · obtain ⟨g, rfl⟩ := ha (by omega)
      have hown := own_below h hB (Nat.le_refl _)
      have hgl := (hown.lt g rfl).2
      obtain ⟨q, hq⟩ : ∃ q : ByteArray, q = ⟨(mkT (1 + j)).toArray⟩ := ⟨_, rfl⟩
      have hcj : wr.cell? ⟨g, j, none⟩ = some (.string q) := by
        rw [hown.cellAt j (by omega), hq]; simp [marks, hlt]; rfl
      have hmt : ∀ w1, Calls Tryz.prog 42 #[.int .i64 ((1 + j : Nat) : Int)] w1 fun e w' => e = .returned (.string q) ∧ Below w1.heap.size w1 w' := fun w1 => by
        have := markText_any (1 + j) w1 (by omega) (by omega); rw [hq]; exact this
      have HMT : Hid (∀ w1, Calls Tryz.prog 42 #[.int .i64 ((1 + j : Nat) : Int)] w1 fun e w' => e = .returned (.string q) ∧ Below w1.heap.size w1 w') := hmt
      clear hmt hown hq
      go_wp2
      go_region_with (go_at_call 42; refine (HMT.out _).mono ?_; rintro e w1 ⟨rfl, hb⟩; have hc1 := (hb.cell (p := ⟨g, j, none⟩) hgl).trans hcj)
      all_goals
        have hb2 : Below w.heap.size w w1 := hB.drew.trans (hb.mono hB.size)
        go_wp2
        go_roundw
        case rel => exact ⟨j + 1, by omega, by go_num, by go_num, hb2⟩
        case measure => simp [intOf]; omega
    · have hjn : j = n := by omega
      subst hjn
      go_wp2
      go_ret
      exact ⟨ret_int (by omega), hB⟩

end Go.Proofs.YtimgafblpmjajabGreat
namespace Go.Proofs.YtimgafblpmjajabGreat

open Go.RowKit

set_option maxHeartbeats 1000000 in
set_option maxRecDepth 100000 in
theorem markText_big (K : Nat) (w : World) (h0 : 0 < K) (hK : K ≤ 67108864) :
    Calls Tryz.prog 42 #[.int .i64 K] w fun e w' => e = .returned (strV (mkT K)) ∧ Below w.heap.size w w' := by
  obtain ⟨R, hR⟩ : ∃ R, R = mkT K := ⟨_, rfl⟩
  rw [← hR]
  have HR : Hid (R = 109 :: digs K K []) := hR
  clear hR
  go_enter Tryz.func42, Tryz.ntmps42
  go_wp2
  go_loopw [0, 3] (fun kv ov wr => ∃ (k : Nat) (b : ByteArray), k ≤ K ∧ kv = .int .i64 k ∧ ov = .string b ∧ Hid (digs k k b.data.toList = digs K K []) ∧ b.size ≤ K - k ∧ Below w.heap.size w wr) (fun kv _ _ => (intOf kv).toNat)
  case atStart => exact ⟨K, ⟨#[]⟩, Nat.le_refl _, rfl, rfl, rfl, by simp [ByteArray.size], Below.refl _ _⟩
  case round =>
    obtain ⟨k, b, hk, rfl, rfl, hd, hbs, hB⟩ := hrel
    have hsz := hB.size
    by_cases hpos : 0 < k
    · have hcv := digit_conv k wr
      have hb1 : (⟨#[UInt8.ofNat (48 + k % 10)]⟩ : ByteArray).size = 1 := rfl
      obtain ⟨dg, hdg⟩ : ∃ dg : ByteArray, dg = ⟨#[UInt8.ofNat (48 + k % 10)]⟩ := ⟨_, rfl⟩
      rw [← hdg] at hcv hb1
      have HD : Hid (digs (k / 10) (k / 10) (dg ++ b).data.toList = digs K K []) := by
        unfold Hid
        rw [← hd.out, digs_step k _ hpos, ByteArray.data_append, Array.toList_append, hdg]; rfl
      have hds : (dg ++ b).size ≤ K - k / 10 := by rw [ByteArray.size_append, hb1]; omega
      have hB2 : Below w.heap.size w (wr.alloc (.cells #[.int .u8 (48 + (k : Int) % 10)] 5)) := hB.alloc hsz _
      clear hdg
      go_wp2
      go_roundw
      case rel => exact ⟨k / 10, dg ++ b, by omega, by go_num, rfl, HD, hds, hB2⟩
      case measure => simp [intOf]; omega
    · have hk0 : k = 0 := by omega
      subst hk0
      have HE : Hid (strV R = .string (⟨#[109]⟩ ++ b)) := by
        unfold Hid
        rw [← strV_data, HR.out, ← hd.out, digs_zero, ByteArray.data_append, Array.toList_append]; rfl
      go_wp2
      go_ret
      rw [HE.out]
      exact ⟨rfl, hB⟩

theorem row_form {w : World} {base : Nat} {e : TypeId} {size n : Nat} {v : Value} {xs : List Value} (h : w.ownsRow base e size v n xs) : ∃ a cap, v = .slice a n cap ∧ n ≤ cap ∧ (0 < n → ∃ g, a = some ⟨g, 0, none⟩) := by
  obtain ⟨_, ⟨rfl, hn0⟩ | ⟨g, cap, cur, rfl, hg, hh, hcap, _⟩⟩ := h
  · exact ⟨none, 0, by rw [hn0], by omega, fun h => by omega⟩
  · exact ⟨_, cap, rfl, hcap, fun _ => ⟨g, rfl⟩⟩
theorem row_cell {w : World} {base : Nat} {e : TypeId} {size n cap g : Nat} {xs : List Value} (h : w.ownsRow base e size (.slice (some ⟨g, 0, none⟩) n cap) n xs) (i : Nat) (hi : i < n * size) : ∃ u, w.cell? ⟨g, i, none⟩ = some u := by
  have := h.1
  rw [h.cellAt i (by omega)]; exact ⟨_, List.getElem?_eq_getElem (by omega)⟩

set_option maxHeartbeats 1000000 in
set_option maxRecDepth 100000 in
theorem markS_any (base : Nat) (v : Value) (n : Nat) (xs : List Value) (K : Nat) (w : World) (h : w.ownsRow base 9 1 v n xs) (hn : n ≤ 1048576) (hK : 0 < K) (hK2 : K ≤ 33554432) :
    Calls Tryz.prog 18 #[v, .int .i64 K] w fun e w' => e = .returned (.int .i64 ((K + n : Nat) : Int)) ∧ (∃ ys, w'.ownsRow base 9 1 v n ys) ∧ w.grownBy w' v.ownBlock := by
  obtain ⟨a, cap, rfl, hcap, ha⟩ := row_form h
  go_enter Tryz.func18, Tryz.ntmps18
  go_wp2
  go_loopw [1, 5] (fun kv i wr => ∃ (j : Nat) (X : List Value), j ≤ n ∧ i = .int .i64 j ∧ kv = .int .i64 ((K + j : Nat) : Int) ∧ wr.ownsRow base 9 1 (.slice a n cap) n X ∧ w.grownBy wr (Value.slice a n cap).ownBlock) (fun _ i _ => n - (intOf i).toNat)
  case atStart => exact ⟨0, xs, Nat.zero_le _, rfl, rfl, h, World.grownBy.refl _ _⟩
  case round =>
    obtain ⟨j, X, hj, rfl, rfl, hown, hgr⟩ := hrel
    by_cases hlt : j < n
    · obtain ⟨g, rfl⟩ := ha (by omega)
      have hmt := markText_big (K + j) wr (by omega) (by omega)
      obtain ⟨q, hq⟩ : ∃ q, strV (mkT (K + j)) = .string q := ⟨_, rfl⟩
      rw [hq] at hmt
      clear hq
      have hgl := (hown.lt g rfl).2
      go_wp2_with (go_at_call 42; refine hmt.mono ?_; rintro e w1 ⟨rfl, hb⟩; have hown1 := own_below hown hb (Nat.le_refl _); have hf1 := hown1.frozenAt j; obtain ⟨u, hcu⟩ := row_cell hown1 j (by omega))
      have hst := hown1.stored j (.string q)
      have hg2 := grown_trans (grown_trans hgr (grown_of_below hb _)) hst.2
      go_roundw
      case rel => exact ⟨j + 1, _, by omega, by go_num, by go_num, hst.1, hg2⟩
      case measure => simp [intOf]; omega
    · have hjn : j = n := by omega
      subst hjn
      go_wp2
      go_ret
      exact ⟨rfl, ⟨_, hown⟩, hgr⟩

set_option maxHeartbeats 1000000 in
set_option maxRecDepth 100000 in
theorem markI_any (base : Nat) (v : Value) (n : Nat) (xs : List Value) (K : Nat) (w : World) (h : w.ownsRow base 3 1 v n xs) (hn : n ≤ 1048576) (hK2 : K ≤ 33554432) :
    Calls Tryz.prog 35 #[v, .int .i64 K] w fun e w' => e = .returned (.int .i64 ((K + n : Nat) : Int)) ∧ w.grownBy w' v.ownBlock := by
  obtain ⟨a, cap, rfl, hcap, ha⟩ := row_form h
  go_enter Tryz.func35, Tryz.ntmps35
  go_wp2
  go_loopw [1, 5] (fun kv i wr => ∃ (j : Nat) (X : List Value), j ≤ n ∧ i = .int .i64 j ∧ kv = .int .i64 ((K + j : Nat) : Int) ∧ wr.ownsRow base 3 1 (.slice a n cap) n X ∧ w.grownBy wr (Value.slice a n cap).ownBlock) (fun _ i _ => n - (intOf i).toNat)
  case atStart => exact ⟨0, xs, Nat.zero_le _, rfl, rfl, h, World.grownBy.refl _ _⟩
  case round =>
    obtain ⟨j, X, hj, rfl, rfl, hown, hgr⟩ := hrel
    by_cases hlt : j < n
    · obtain ⟨g, rfl⟩ := ha (by omega)
      have hf1 := hown.frozenAt j
      obtain ⟨u, hcu⟩ := row_cell hown j (by omega)
      have hst := hown.stored j (.int .i64 ((K + j : Nat) : Int))
      have hg2 := grown_trans hgr hst.2
      go_wp2
      go_roundw
      case rel => exact ⟨j + 1, _, by omega, by go_num, by go_num, hst.1, hg2⟩
      case measure => simp [intOf]; omega
    · have hjn : j = n := by omega
      subst hjn
      go_wp2
      go_ret
      exact ⟨rfl, hgr⟩

set_option maxHeartbeats 2000000 in
set_option maxRecDepth 100000 in
theorem markL_any (base : Nat) (v : Value) (n : Nat) (xs : List Value) (K : Nat) (w : World) (h : w.ownsRow base 51 4 v n xs) (hn : n ≤ 1048576) (hK : 0 < K) (hK2 : K ≤ 33554432) :
    Calls Tryz.prog 56 #[v, .int .i64 K] w fun e w' => e = .returned (.int .i64 ((K + 4 * n : Nat) : Int)) ∧ (∃ ys, w'.ownsRow base 51 4 v n ys) ∧ w.grownBy w' v.ownBlock := by
  obtain ⟨a, cap, rfl, hcap, ha⟩ := row_form h
  go_enter Tryz.func56, Tryz.ntmps56
  go_wp2
  go_loopw [1, 5] (fun kv i wr => ∃ (j : Nat) (X : List Value), j ≤ n ∧ i = .int .i64 j ∧ kv = .int .i64 ((K + 4 * j : Nat) : Int) ∧ wr.ownsRow base 51 4 (.slice a n cap) n X ∧ w.grownBy wr (Value.slice a n cap).ownBlock) (fun _ i _ => n - (intOf i).toNat)
  case atStart => exact ⟨0, xs, Nat.zero_le _, rfl, rfl, h, World.grownBy.refl _ _⟩
  case round =>
    obtain ⟨j, X, hj, rfl, rfl, hown, hgr⟩ := hrel
    by_cases hlt : j < n
    · obtain ⟨g, rfl⟩ := ha (by omega)
      obtain ⟨kk, hkk⟩ : ∃ kk, kk = K + 4 * j := ⟨_, rfl⟩
      rw [← hkk]
      have hkb : kk ≤ 40000000 := by omega
      have hkp : 0 < kk := by omega
      have HKK : Hid (kk = K + 4 * j) := hkk
      clear hkk
      have hgl := (hown.lt g rfl).2
      have hf0 := hown.frozenAt (j * 4)
      obtain ⟨u0, hc0⟩ := row_cell hown (j * 4) (by omega)
      have hst0 := hown.stored (j * 4) (.int .i64 (kk : Int))
      have hmt := markText_big (kk + 1) (wr.setCell ⟨g, j * 4, none⟩ (.int .i64 (kk : Int))) (by omega) (by omega)
      obtain ⟨q, hq⟩ : ∃ q, strV (mkT (kk + 1)) = .string q := ⟨_, rfl⟩
      rw [hq] at hmt
      push_cast at hmt
      clear hq
      go_wp2_with fail
      refine hmt.mono ?_
      rintro e w1 ⟨rfl, hb⟩
      have hown1 := own_below hst0.1 hb (Nat.le_refl _)
      have hg1 := grown_trans (grown_trans hgr hst0.2) (grown_of_below hb _)
      obtain ⟨u1, hc1⟩ := row_cell hown1 (j * 4 + 1) (by omega)
      obtain ⟨u2, hc2⟩ := row_cell hown1 (j * 4 + 2) (by omega)
      obtain ⟨u3, hc3⟩ := row_cell hown1 (j * 4 + 3) (by omega)
      have hf1 := hown1.frozenAt (j * 4 + 1)
      have hf2 := hown1.frozenAt (j * 4 + 2)
      have hf3 := hown1.frozenAt (j * 4 + 3)
      clear hc0 hf0 hst0 hgr hmt hb
      go_wp2
      have s1 := hown1.stored (j * 4 + 1) (.string q)
      have s2 := s1.1.stored (j * 4 + 2) (.int .i64 ((kk : Int) + 1 + 1))
      have s3 := s2.1.stored (j * 4 + 3) (.int .i64 ((kk : Int) + 1 + 1 + 1))
      go_roundw
      case rel => exact ⟨j + 1, _, by omega, by go_num, by rw [show K + 4 * (j + 1) = kk + 4 by rw [HKK.out]; omega]; go_num, s3.1, grown_trans (grown_trans (grown_trans hg1 s1.2) s2.2) s3.2⟩
      case measure => simp [intOf]; omega
    · have hjn : j = n := by omega
      subst hjn
      go_wp2
      go_ret
      exact ⟨rfl, ⟨_, hown⟩, hgr⟩
end Go.Proofs.YtimgafblpmjajabGreat
