
import Derived.Test.YtimgafblpmjajabGreatWio

import Derived.Maps.OwnSet

import Derived.DeepKeys4

namespace Go.Proofs.YtimgafblpmjajabGreat

open Go.RowKit Go.Maps

theorem Tryz.laidOut0 : laidOutB Tryz.prog = true := by kernel_rfl
theorem Tryz.row93 : 106 < Tryz.prog.types.size := of_decide_eq_true (by kernel_rfl)
theorem Tryz.wide93 : (match Tryz.prog.underlying 106 with | some (.array _ _) | some (.struct _) => true | _ => false) = true := by kernel_rfl
theorem Tryz.key93 : Tryz.prog.keyTypeAt 3 106 = true := by kernel_rfl
set_option maxRecDepth 100000 in
theorem lawK : Keyed Tryz.prog 106 := Keyed.of_law (deep_law_laid Tryz.laidOut0 (m := 3) (by omega) Tryz.row93 Tryz.key93 Tryz.wide93)

/-- What a name in its one form reads as, as a key. -/
def keyL (l : List UInt8) : Lit := .string (keyBytes [.string l])
theorem key_form (s : ByteArray) : keyOf Tryz.prog 106 (.agg #[.string s]) = (if s.size ≤ maxLen then some (keyL s.data.toList) else none) := by
  have h : keyOf Tryz.prog 106 (.agg #[.string s]) = ((((if s.size ≤ maxLen then some [Lit.string s.data.toList] else none : Option (List Lit)).bind fun a => some [a]).map List.flatten).map fun ls => Lit.string (keyBytes ls)) := by kernel_rfl
  rw [h]
  split <;> rfl
theorem key_mk {s : ByteArray} {l : List UInt8} (hs : s.data.toList = l) (h : s.size ≤ maxLen) : keyOf Tryz.prog 106 (.agg #[.string s]) = some (keyL l) := by rw [key_form, if_pos h, hs]
theorem keyL_ne {s t : ByteArray} (hs : s.size ≤ maxLen) (ht : t.size ≤ maxLen) (h : s.data.toList ≠ t.data.toList) : keyL s.data.toList ≠ keyL t.data.toList := fun e => by
  have h1 := key_mk (s := s) rfl hs
  have h2 := key_mk (s := t) rfl ht
  rw [e] at h1
  have := lawK.inj h1 h2
  injection this with h3
  have h4 : (Value.string s) = .string t := by simpa using h3
  injection h4 with h5
  exact h (by rw [h5])
theorem zero3 (w : World) : (zeroValue 3).run Tryz.prog w = .ok (.int .i64 0) w := by kernel_rfl

theorem map_below {w w' : World} {B b n : Nat} {D : DataW Unit} (h : w.ownsMap Tryz.prog 106 (plainElem Tryz.prog 3) b n D) (hb : Below B w w') (hB : b < B) : w'.ownsMap Tryz.prog 106 (plainElem Tryz.prog 3) b n D := by
  obtain ⟨es, clock, hh, r⟩ := h
  exact ⟨es, clock, (hb.block b hB).trans hh, r⟩

/-- The shelf holds just the names of the first k. -/
def Shelved (M : List Md) (k : Nat) (D : DataW Unit) : Prop := IsMap D ∧ ∀ l : List UInt8, l.length ≤ 1048576 → Maps.has D (keyL l) = (M.take k).any (fun m => decide (m.name = l))
theorem shelved_zero (M : List Md) : Shelved M 0 (.map []) := ⟨isMap_empty, fun _ _ => rfl⟩
theorem arr_of (l : List UInt8) (h : l.length ≤ 1048576) : ∃ s : ByteArray, s.data.toList = l ∧ s.size ≤ maxLen := ⟨⟨l.toArray⟩, by simp, by rw [size_data]; simp; unfold maxLen; omega⟩
theorem shelved_put {M : List Md} {k : Nat} {D : DataW Unit} (h : Shelved M k D) (hk : k < M.length) (hn : M[k].name.length ≤ 1048576) (d : DataW Unit) : Shelved M (k + 1) (D.put (keyL M[k].name) d) := by
  refine ⟨h.1.put _ _, fun l hl => ?_⟩
  obtain ⟨s, hs, hsz⟩ := arr_of l hl
  obtain ⟨t, ht, htz⟩ := arr_of M[k].name hn
  rw [List.take_succ_eq_append_getElem hk, List.any_append]
  by_cases he : M[k].name = l
  · rw [he, has_put_same h.1 (lawK.key (key_mk hs hsz))]
    simp [he]
  · have hne : keyL l ≠ keyL M[k].name := by
      have := keyL_ne hsz htz (by rw [hs, ht]; exact fun e => he e.symm)
      rwa [hs, ht] at this
    rw [has_put_other hne, h.2 l hl]
    simp [he]

set_option maxRecDepth 100000 in
set_option maxHeartbeats 8000000 in
theorem shelve_any (v : Value) (M : List Md) (w : World) (h : Mds w v M) (hM : M.length ≤ 1048576) (hMM : ∀ m ∈ M, m.t ≤ 1048576) :
    Calls Tryz.prog 51 #[v] w fun e w' => ∃ mv, e = .returned (.tuple #[mv, .int .i64 (firstN (badMd M) M.length 0 : Nat)]) ∧ Below w.heap.size w w' := by
  have hmm := @run_makeMap Tryz.prog
  obtain ⟨a, cap, rfl, hcap, hmax, hc⟩ := h
  have HC : Hid (∀ k, (hk : k < M.length) → ∃ b o s, a = some ⟨b, o, none⟩ ∧ b < w.heap.size ∧
    w.cell? ⟨b, o + k * 2, none⟩ = some (strV M[k].name) ∧ w.cell? ⟨b, o + k * 2 + 1, none⟩ = some s ∧ Lns w s M[k].lines) := hc
  have HMM : Hid (∀ m ∈ M, m.t ≤ 1048576) := hMM
  clear hc hmax hMM
  go_enter Tryz.func51, Tryz.ntmps51
  go_wp2
  go_loopw [14] (fun i wr => ∃ (k : Nat) (D : DataW Unit), k ≤ M.length ∧ i = .int .i64 k ∧ (∀ j, j < k → badMd M j = false) ∧ wr.ownsMap Tryz.prog 106 (plainElem Tryz.prog 3) w.heap.size k D ∧ Shelved M k D ∧ Below w.heap.size w wr) (fun i _ => M.length - (intOf i).toNat)
  case atStart => exact ⟨0, _, Nat.zero_le _, rfl, fun j h => absurd h (by omega), World.ownsMap_made _ _ _ _, shelved_zero M, (Below.refl _ _).alloc (Nat.le_refl _) _⟩
  case round =>
    obtain ⟨k, D, hk, rfl, hbad, hown, hsh, hB⟩ := hrel
    have HBAD : Hid (∀ j, j < k → badMd M j = false) := hbad
    have HSH : Hid (Shelved M k D) := hsh
    have hwB := hown.lt
    clear hbad hsh hmm
    by_cases hlt : k < M.length
    · obtain ⟨b, o, s, rfl, hb, h0, h1, h2⟩ := HC.out k hlt
      obtain ⟨hs1, hs2, hs3⟩ := Md.small (HMM.out _ (List.getElem_mem hlt))
      obtain ⟨asl, cs, rfl⟩ := h2.slice
      obtain ⟨N, hN⟩ : ∃ N, N = M[k].lines.length := ⟨_, rfl⟩
      obtain ⟨ns, hns⟩ : ∃ ns : ByteArray, ns.data.toList = M[k].name := ⟨⟨M[k].name.toArray⟩, by simp⟩
      have hnv : strV M[k].name = .string ns := by rw [← hns, strV_data]
      rw [hnv] at h0
      rw [← hN] at h1 hs2
      have c0 := (hB.cell (p := ⟨b, o + k * 2, none⟩) hb).trans h0
      have c1 := (hB.cell (p := ⟨b, o + k * 2 + 1, none⟩) hb).trans h1
      have hbm := badMd_at hlt
      rw [← hN] at hbm
      have HBM : Hid (badMd M k = (!isN M[k].name || decide (60 < N) || (M.take k).any (fun m => decide (m.name = M[k].name)))) := hbm
      have HNS : Hid (ns.data.toList = M[k].name) := hns
      have HSZ : Hid (M[k].name.length ≤ 1048576) := hs1
      have HNV : Hid (strV M[k].name = .string ns) := hnv
      clear h0 h1 h2 hs3 hs1 hbm hns hnv hN
      go_wp2_with fail
      refine (asWritten_any ns _).mono ?_
      rw [HNS.out]
      clear c0 c1
      by_cases hi : isN M[k].name = true
      · have hwv : writtenV M[k].name = .tuple #[.agg #[.string ns], .bool true] := by rw [writtenV, if_pos hi, HNV.out]
        rw [hwv]
        have HI : Hid (isN M[k].name = true) := hi
        clear hwv hi
        rintro e w1 ⟨rfl, hb1⟩
        have m0 : w1.cell? ⟨wr.heap.size, 0, none⟩ = some (.string ns) := below_cell0 hb1 (by simp) (by simp [go_sem])
        have m1 : w1.cell? ⟨wr.heap.size, 1, none⟩ = some (.slice asl N cs) := below_cell0 hb1 (by simp) (by simp [go_sem])
        have hB1 : Below w.heap.size w w1 := (hB.alloc hB.size _).trans (hb1.mono (by have := hB.size; simp; omega))
        have hz1 : wr.heap.size < w1.heap.size := by have := hb1.size; simp at this; omega
        have hz2 : w.heap.size < w1.heap.size := by omega
        have hown1 := map_below (hown.alloc _) hb1 (by simp; omega)
        have hkey := key_mk HNS.out (by rw [size_data, HNS.out]; have := HSZ.out; unfold maxLen; omega)
        have HHAS : Hid (Maps.has D (keyL M[k].name) = (M.take k).any (fun m => decide (m.name = M[k].name))) := HSH.out.2 _ HSZ.out
        clear hb1 hown
        obtain ⟨kl, hkl⟩ : ∃ kl, kl = keyL M[k].name := ⟨_, rfl⟩
        rw [← hkl] at hkey HHAS
        have HKL : Hid (kl = keyL M[k].name) := hkl
        clear hkl
        obtain ⟨tk, htk⟩ : ∃ tk, Maps.has D kl = tk := ⟨_, rfl⟩
        have HTK : Hid (Maps.has D kl = tk) := htk
        clear htk
        cases tk with
        | true =>
          have HODD : Hid (badMd M k = true) := by unfold Hid; rw [HBM.out, ← HHAS.out, HTK.out]; simp
          go_wp2_with (first
            | (at_lookup; refine wpList_lookup_own_ok_int _ rfl _ _ 59 rfl 106 3 .i64 lawK Tryz.underlying59 Tryz.underlying3 (zero3 _) w.heap.size k D rfl (hown1.alloc _) _ kl rfl hkey ?_; intro c hat hwc; rw [HTK.out]; clear hat hwc))
          exact bodyPost_ret (v := .tuple #[.map (some w.heap.size), .int .i64 k]) (by simp [results, Tryz.results51, go_sem]) rfl ⟨_, by rw [firstN_hit hlt HBAD.out HODD.out], hB1.alloc (by omega) _⟩
        | false =>
          by_cases h60 : 60 < N
          · have HODD : Hid (badMd M k = true) := by unfold Hid; rw [HBM.out]; simp [h60]
            go_wp2_with (first | (at_lookup; refine wpList_lookup_own_ok_int _ rfl _ _ 59 rfl 106 3 .i64 lawK Tryz.underlying59 Tryz.underlying3 (zero3 _) w.heap.size k D rfl (hown1.alloc _) _ kl rfl hkey ?_; intro c hat hwc; rw [HTK.out]; clear hat hwc))
            exact bodyPost_ret (v := .tuple #[.map (some w.heap.size), .int .i64 k]) (by simp [results, Tryz.results51, go_sem]) rfl ⟨_, by rw [firstN_hit hlt HBAD.out HODD.out], hB1.alloc (by omega) _⟩
          · have HGOOD : Hid (badMd M k = false) := by unfold Hid; rw [HBM.out, HI.out, ← HHAS.out, HTK.out]; simp; omega
            have hzz : w.heap.size < (w1.alloc (Obj.cells #[Value.string ns] 106)).heap.size := by simp; omega
            go_wp2_with (first | (at_lookup; refine wpList_lookup_own_ok_int _ rfl _ _ 59 rfl 106 3 .i64 lawK Tryz.underlying59 Tryz.underlying3 (zero3 _) w.heap.size k D rfl (hown1.alloc _) _ kl rfl hkey ?_; intro c hat hwc; rw [HTK.out]; clear hat hwc) | (at_mapUpdate; refine wpList_mapUpdate_own _ rfl _ _ _ 59 rfl 106 3 lawK Tryz.underlying59 (plainElem (H := Unit) Tryz.prog 3) w.heap.size k D rfl (hown1.alloc _) (by unfold maxLen; omega) _ _ kl rfl rfl hkey _ [] (plainElem_int Tryz.underlying3 (WalkArith.wf_i64 (by omega))) ?_; intro w2 hown2 hgrow2))
            have hB2 : Below w.heap.size w w2 := (hB1.alloc (by omega) _).grown hgrow2 (by simp; omega) (fun j hj => by cases hj; exact Nat.le_refl _)
            go_roundw
            case rel => exact ⟨k + 1, _, by omega, by go_num, fun j hjk => by
              by_cases hjk' : j = k
              · subst hjk'; exact HGOOD.out
              · exact HBAD.out j (by omega), hown2, by rw [HKL.out]; exact shelved_put HSH.out hlt HSZ.out _, hB2⟩
            case measure => simp [intOf]; omega
      · have hi' : isN M[k].name = false := by simpa using hi
        have hwv : writtenV M[k].name = .tuple #[.agg #[.string ⟨#[]⟩], .bool false] := by rw [writtenV, if_neg hi]; rfl
        rw [hwv]
        have HODD : Hid (badMd M k = true) := by unfold Hid; rw [HBM.out, hi']; simp
        clear hwv hi hi'
        rintro e w1 ⟨rfl, hb1⟩
        have m0 : w1.cell? ⟨wr.heap.size, 0, none⟩ = some (.string ns) := below_cell0 hb1 (by simp) (by simp [go_sem])
        have m1 : w1.cell? ⟨wr.heap.size, 1, none⟩ = some (.slice asl N cs) := below_cell0 hb1 (by simp) (by simp [go_sem])
        have hB1 : Below w.heap.size w w1 := (hB.alloc hB.size _).trans (hb1.mono (by have := hB.size; simp; omega))
        have hz1 : wr.heap.size < w1.heap.size := by have := hb1.size; simp at this; omega
        have hz2 : w.heap.size < w1.heap.size := by omega
        have hown1 := map_below (hown.alloc _) hb1 (by simp; omega)
        have hkey : keyOf Tryz.prog 106 (.agg #[.string ⟨#[]⟩]) = some (keyL []) := key_mk (s := ⟨#[]⟩) rfl (by decide)
        obtain ⟨kl, hkl⟩ : ∃ kl, kl = keyL [] := ⟨_, rfl⟩
        rw [← hkl] at hkey
        clear hkl hb1 hown
        obtain ⟨tk, htk⟩ : ∃ tk, Maps.has D kl = tk := ⟨_, rfl⟩
        have HTK : Hid (Maps.has D kl = tk) := htk
        clear htk
        go_wp2_with (first | (at_lookup; refine wpList_lookup_own_ok_int _ rfl _ _ 59 rfl 106 3 .i64 lawK Tryz.underlying59 Tryz.underlying3 (zero3 _) w.heap.size k D rfl (hown1.alloc _) _ kl rfl hkey ?_; intro c hat hwc; rw [HTK.out]; clear hat hwc))
        exact bodyPost_ret (v := .tuple #[.map (some w.heap.size), .int .i64 k]) (by simp [results, Tryz.results51, go_sem]) rfl ⟨_, by rw [firstN_hit hlt HBAD.out HODD.out], hB1.alloc (by omega) _⟩
    · have HNONE : Hid (firstN (badMd M) M.length 0 = M.length) := firstN_none (fun j hj => HBAD.out j (by omega))
      go_wp2
      exact bodyPost_ret (v := .tuple #[.map (some w.heap.size), .int .i64 M.length]) (by simp [results, Tryz.results51, go_sem]) rfl ⟨_, by rw [HNONE.out], hB⟩
end Go.Proofs.YtimgafblpmjajabGreat
