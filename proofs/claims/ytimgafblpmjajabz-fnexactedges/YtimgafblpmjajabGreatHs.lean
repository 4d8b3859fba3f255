import Derived.Test.YtimgafblpmjajabGreatWiw
import Derived.Test.YtimgafblpmjajabGreatPc
namespace Go.Proofs.YtimgafblpmjajabGreat
open Go.RowKit Go.Maps

/-- The shelf has each module's place. -/
def Placed (M : List Md) (k : Nat) (D : DataW Unit) : Prop := ∀ j (hj : j < M.length), j < k → D.atKey (keyL M[j].name) (.lit (.int .i64 0)) = .lit (.int .i64 (j : Int))
theorem placed_zero (M : List Md) : Placed M 0 (.map []) := fun j _ h => absurd h (by omega)
theorem placed_put {M : List Md} {k : Nat} {D : DataW Unit} (h : Placed M k D) (hD : IsMap D) (hk : k < M.length) (hn : ∀ j (hj : j < M.length), M[j].name.length ≤ 1048576) (hf : (M.take k).any (fun m => decide (m.name = M[k].name)) = false) :
    Placed M (k + 1) (D.put (keyL M[k].name) (.lit (.int .i64 (k : Int)))) := by
  intro j hj hjk
  obtain ⟨t, ht, htz⟩ := arr_of M[k].name (hn k hk)
  by_cases he : j = k
  · subst he
    exact atKey_put_same hD (lawK.key (key_mk ht htz)) _ _
  · obtain ⟨s, hs, hsz⟩ := arr_of M[j].name (hn j hj)
    have hne : M[j].name ≠ M[k].name := fun e => by
      have : (M.take k).any (fun m => decide (m.name = M[k].name)) = true := by
        rw [List.any_eq_true]
        exact ⟨M[j], List.mem_take_iff_getElem.2 ⟨j, by omega, rfl⟩, by simpa using e⟩
      rw [hf] at this; cases this
    have hkn : keyL M[j].name ≠ keyL M[k].name := by
      have := keyL_ne hsz htz (by rw [hs, ht]; exact hne)
      rwa [hs, ht] at this
    rw [atKey_put_other hkn]
    exact h j hj (by omega)
theorem has_idx {D : Wd} {DM : DataW Unit} (h : Shelved D.mods D.mods.length DM) {l : List UInt8} (hl : l.length ≤ 1048576) : Maps.has DM (keyL l) = decide (D.idx l < D.mods.length) := by
  rw [h.2 l hl, List.take_length, Bool.eq_iff_iff, List.any_eq_true]
  constructor
  · rintro ⟨m, hm, he⟩
    rcases Nat.lt_or_ge (D.idx l) D.mods.length with h1 | h1
    · simpa using h1
    · obtain ⟨j, hj, rfl⟩ := List.getElem_of_mem hm
      have := place_miss (p := fun s : Md => decide (s.name = l)) hj (by unfold Wd.idx at h1; omega)
      rw [this] at he; cases he
  · intro h1
    have h1' : D.idx l < D.mods.length := by simpa using h1
    exact ⟨_, List.getElem_mem h1', place_lt h1'⟩
theorem at_idx {D : Wd} {DM : DataW Unit} (h : Placed D.mods D.mods.length DM) {l : List UInt8} (hl : D.idx l < D.mods.length) : DM.atKey (keyL l) (.lit (.int .i64 0)) = .lit (.int .i64 (D.idx l : Int)) := by
  have h1 := h (D.idx l) hl hl
  have h2 : D.mods[D.idx l].name = l := of_decide_eq_true (place_lt (p := fun s : Md => decide (s.name = l)) hl)
  rwa [h2] at h1

set_option maxRecDepth 100000 in
set_option maxHeartbeats 8000000 in
theorem shelve_full (v : Value) (M : List Md) (w : World) (h : Mds w v M) (hM : M.length ≤ 1048576) (hMM : ∀ m ∈ M, m.t ≤ 1048576) (hgood : ∀ j, j < M.length → badMd M j = false) :
    Calls Tryz.prog 51 #[v] w fun e w' => e = .returned (.tuple #[.map (some w.heap.size), .int .i64 (M.length : Nat)]) ∧ (∃ DM, w'.ownsMap Tryz.prog 106 (plainElem Tryz.prog 3) w.heap.size M.length DM ∧ Shelved M M.length DM ∧ Placed M M.length DM) ∧ Below w.heap.size w w' := by
  have hmm := @run_makeMap Tryz.prog
  obtain ⟨a, cap, rfl, hcap, hmax, hc⟩ := h
  have HC : Hid (∀ k, (hk : k < M.length) → ∃ b o s, a = some ⟨b, o, none⟩ ∧ b < w.heap.size ∧
    w.cell? ⟨b, o + k * 2, none⟩ = some (strV M[k].name) ∧ w.cell? ⟨b, o + k * 2 + 1, none⟩ = some s ∧ Lns w s M[k].lines) := hc
  have HMM : Hid (∀ m ∈ M, m.t ≤ 1048576) := hMM
  have HGD : Hid (∀ j, j < M.length → badMd M j = false) := hgood
  have HNL : Hid (∀ j (hj : j < M.length), M[j].name.length ≤ 1048576) := fun j hj => (Md.small (hMM _ (List.getElem_mem hj))).1
  clear hc hmax hMM hgood
  go_enter Tryz.func51, Tryz.ntmps51
  go_wp2
  go_loopw [14] (fun i wr => ∃ (k : Nat) (D : DataW Unit), k ≤ M.length ∧ i = .int .i64 k ∧ wr.ownsMap Tryz.prog 106 (plainElem Tryz.prog 3) w.heap.size k D ∧ Shelved M k D ∧ Placed M k D ∧ Below w.heap.size w wr) (fun i _ => M.length - (intOf i).toNat)
  case atStart => exact ⟨0, _, Nat.zero_le _, rfl, World.ownsMap_made _ _ _ _, shelved_zero M, placed_zero M, (Below.refl _ _).alloc (Nat.le_refl _) _⟩
  case round =>
    obtain ⟨k, D, hk, rfl, hown, hsh, hpl, hB⟩ := hrel
    have HSH : Hid (Shelved M k D) := hsh
    have HPL : Hid (Placed M k D) := hpl
    have hwB := hown.lt
    clear hsh hpl hmm
    by_cases hlt : k < M.length
    · obtain ⟨b, o, s, rfl, hb, h0, h1, h2⟩ := HC.out k hlt
      obtain ⟨hs1, hs2, hs3⟩ := Md.small (HMM.out _ (List.getElem_mem hlt))
      obtain ⟨asl, cs, rfl⟩ := h2.slice
      obtain ⟨N, hN⟩ : ∃ N, N = M[k].lines.length := ⟨_, rfl⟩
      obtain ⟨ns, hns⟩ : ∃ ns : ByteArray, ns.data.toList = M[k].name := ⟨⟨M[k].name.toArray⟩, by simp⟩
      have hnv : strV M[k].name = .string ns := by rw [← hns, strV_data]
      rw [hnv] at h0
      rw [← hN] at h1 hs2
      have c0 := (hB.cell (p := ⟨b, o + k * 2, none⟩) hb).trans h0
      have c1 := (hB.cell (p := ⟨b, o + k * 2 + 1, none⟩) hb).trans h1
      have hbm := badMd_at hlt
      rw [← hN, HGD.out k hlt] at hbm
      have HNS : Hid (ns.data.toList = M[k].name) := hns
      have HSZ : Hid (M[k].name.length ≤ 1048576) := hs1
      have hbm' := hbm.symm
      rw [Bool.or_eq_false_iff, Bool.or_eq_false_iff] at hbm'
      obtain ⟨⟨hb1, hb2⟩, hb3⟩ := hbm'
      have hi : isN M[k].name = true := by simpa using hb1
      have h60 : ¬ 60 < N := by simpa using hb2
      have HFR : Hid ((M.take k).any (fun m => decide (m.name = M[k].name)) = false) := hb3
      have HNV : Hid (strV M[k].name = .string ns) := hnv
      clear h0 h1 h2 hs3 hs1 hbm hns hnv hN hb1 hb2 hb3
      go_wp2_with fail
      refine (asWritten_any ns _).mono ?_
      rw [HNS.out]
      clear c0 c1
      have hwv : writtenV M[k].name = .tuple #[.agg #[.string ns], .bool true] := by rw [writtenV, if_pos hi, HNV.out]
      rw [hwv]
      have HI : Hid (isN M[k].name = true) := hi
      clear hwv hi
      rintro e w1 ⟨rfl, hb1⟩
      have m0 : w1.cell? ⟨wr.heap.size, 0, none⟩ = some (.string ns) := below_cell0 hb1 (by simp) (by simp [go_sem])
      have m1 : w1.cell? ⟨wr.heap.size, 1, none⟩ = some (.slice asl N cs) := below_cell0 hb1 (by simp) (by simp [go_sem])
      have hB1 : Below w.heap.size w w1 := (hB.alloc hB.size _).trans (hb1.mono (by have := hB.size; simp; omega))
      have hz1 : wr.heap.size < w1.heap.size := by have := hb1.size; simp at this; omega
      have hz2 : w.heap.size < w1.heap.size := by omega
      have hown1 := map_below (hown.alloc _) hb1 (by simp; omega)
      have hkey := key_mk HNS.out (by rw [size_data, HNS.out]; have := HSZ.out; unfold maxLen; omega)
      have HHAS : Hid (Maps.has D (keyL M[k].name) = (M.take k).any (fun m => decide (m.name = M[k].name))) := HSH.out.2 _ HSZ.out
      clear hb1 hown
      obtain ⟨kl, hkl⟩ : ∃ kl, kl = keyL M[k].name := ⟨_, rfl⟩
      rw [← hkl] at hkey HHAS
      have HKL : Hid (kl = keyL M[k].name) := hkl
      clear hkl
      have HTK : Hid (Maps.has D kl = false) := by unfold Hid; rw [HHAS.out, HFR.out]
      have hzz : w.heap.size < (w1.alloc (Obj.cells #[Value.string ns] 106)).heap.size := by simp; omega
      go_wp2_with (first | (at_lookup; refine wpList_lookup_own_ok_int _ rfl _ _ 59 rfl 106 3 .i64 lawK Tryz.underlying59 Tryz.underlying3 (zero3 _) w.heap.size k D rfl (hown1.alloc _) _ kl rfl hkey ?_; intro c hat hwc; rw [HTK.out]; clear hat hwc) | (at_mapUpdate; refine wpList_mapUpdate_own _ rfl _ _ _ 59 rfl 106 3 lawK Tryz.underlying59 (plainElem (H := Unit) Tryz.prog 3) w.heap.size k D rfl (hown1.alloc _) (by unfold maxLen; omega) _ _ kl rfl rfl hkey _ [] (plainElem_int Tryz.underlying3 (WalkArith.wf_i64 (by omega))) ?_; intro w2 hown2 hgrow2))
      have hB2 : Below w.heap.size w w2 := (hB1.alloc (by omega) _).grown hgrow2 (by simp; omega) (fun j hj => by cases hj; exact Nat.le_refl _)
      go_roundw
      case rel => exact ⟨k + 1, _, by omega, by go_num, hown2, by rw [HKL.out]; exact shelved_put HSH.out hlt HSZ.out _, by rw [HKL.out]; exact placed_put HPL.out HSH.out.1 hlt HNL.out HFR.out, hB2⟩
      case measure => simp [intOf]; omega
    · obtain rfl : k = M.length := by omega
      go_wp2
      exact bodyPost_ret (v := .tuple #[.map (some w.heap.size), .int .i64 M.length]) (by simp [results, Tryz.results51, go_sem]) rfl ⟨rfl, ⟨D, hown, HSH.out, HPL.out⟩, hB⟩
end Go.Proofs.YtimgafblpmjajabGreat
